/-
  PtrBytesCardSaid: for any pointer, pointers and bytes (of more than 1,000 pointers or 10,000 bytes nothing is asked) they are checked, written and read as the document's own functions do it, and they stay, where the bytes of the row are written to. No condition but the tied one: ptr.sizes reads as its own initialiser lays it.
-/
import Derived.Test.YtlogglmdfnakkaaDoorLawPtrA
import Derived.Test.YtlogglmdfnakkaaDoorRowMath
import Derived.Deep.CutRange
import Derived.Deep.DeepCutAuto
namespace Go.Proofs.YtlogglmdfnakkaaDoor
open Go.RowKit Go.Shelf
set_option maxRecDepth 100000

theorem below_none {w w' : World} (h : w.grownBy w' (Value.ownBlock (.slice none 0 0))) : Below w.heap.size w w' := ⟨h.os, h.tape, h.output, h.size, fun i hi => h.block i hi (by simp [Value.ownBlock])⟩
theorem eqPt_sm (p : Pt) (w : World) : (Op.equalIn 10000 28 (ptV p) (ptV p)).run Tryd.prog w = .ok true w := by
  rw [eqPt, (eqP_iff p p).2 rfl]
set_option maxHeartbeats 8000000 in
theorem ptrBytes_walk (p : Pt) (A0 : Option Addr) (n cap0 : Nat) (L : List Pt) (A : Option Addr) (len cap : Nat) (s : List UInt8) (w : World) (hz : Szs w) (hp : WfP p) (hL : Pts w w.heap.size A0 n cap0 L) (hA : Bsl w w.heap.size A len cap s) : Calls Tryd.prog 4 #[ptV p, .slice A0 n cap0, .slice A len cap] w fun e w' => e = .returned (.bool true) ∧ Below w.heap.size w w' := by
  have hmx : Tryd.prog.follows Departure.mixedOrders = true := by kernel_rfl
  have i0 : (0 : Int) ≤ (n : Int) := by omega
  have i1 : (n : Int) ≤ 9223372036854775807 := by have h1 := hL.2.1; have h2 := hL.2.2.1; unfold maxLen at h2; omega
  have j0 : (0 : Int) ≤ (len : Int) := by omega
  have j1 : (len : Int) ≤ 9223372036854775807 := by have h1 := hA.2.1; have h2 := hA.2.2.1; unfold maxLen at h2; omega
  have hc1 := fun W hz => Write_any p hp W hz
  have hc2 := fun W => rpWrite_any p hp W
  have hc3 := fun a c W hB hz => Read_any a len c s W hB hz
  have hc4 := fun W hB => rpRead_any A len cap s W hB
  have hc5 := fun a c W hL hz => Row_any a n c L W hL hz
  have hc6 := fun W hL => rpRow_any A0 n cap0 L W hL
  have hc7 := fun a c W hB hz => Rows_any a len c s W hB hz
  have hc8 := fun W hB => rpRows_any A len cap s W hB
  have hc9 := fun W => Check_any p W
  have hc10 := fun W => rpCheck_any p W
  obtain ⟨S1, k1, hR1⟩ : ∃ S1 k1, writeO p = (S1, k1) := ⟨_, _, rfl⟩
  obtain ⟨X, k2, hR2⟩ : ∃ X k2, readO s = (X, k2) := ⟨_, _, rfl⟩
  obtain ⟨S3, k3, hR3⟩ : ∃ S3 k3, rowO L = (S3, k3) := ⟨_, _, rfl⟩
  obtain ⟨L4, k4, hR4⟩ : ∃ L4 k4, rowsO s = (L4, k4) := ⟨_, _, rfl⟩
  obtain ⟨k5, hR5⟩ : ∃ k5, checkO p = k5 := ⟨_, rfl⟩
  have hS3 : S3.length = 0 ∨ S3.length = 256 := by
    rcases rowO_cases L with ⟨c, h, _⟩ | ⟨h16, _, h⟩
    · rw [hR3] at h; cases h; exact .inl rfl
    · rw [hR3] at h; cases h; exact .inr (rowTo_length L L.length (Nat.le_refl _) h16)
  rw [hR1] at hc1 hc2
  rw [hR2] at hc3 hc4
  rw [hR3] at hc5 hc6
  rw [hR4] at hc7 hc8
  rw [hR5] at hc9 hc10
  dsimp only at hc1 hc2 hc3 hc4 hc5 hc6 hc7 hc8
  have hsx := eqPt_sm X
  obtain ⟨a, b, c, d, e⟩ := p
  obtain ⟨x0, x1, x2, x3, x4⟩ := X
  obtain ⟨w0, hw0⟩ : ∃ w0, w.alloc (.cells #[.int .i64 a, .int .u32 (b : Int), .int .u32 (c : Int), .int .u32 (d : Int), .int .u32 (e : Int)] 28) = w0 := ⟨_, rfl⟩
  have hb0 : Below w.heap.size w w0 := by rw [← hw0]; exact (Below.refl _ w).alloc (Nat.le_refl _) _
  have hk0 : Blk w0 w.heap.size 28 #[.int .i64 a, .int .u32 (b : Int), .int .u32 (c : Int), .int .u32 (d : Int), .int .u32 (e : Int)] := by rw [← hw0]; exact Blk.new w _ _
  have HW0 := Lib.hid hw0
  have HB0 := Lib.hid hb0
  have HK0 := Lib.hid hk0
  have HZ := Lib.hid hz
  have HL := Lib.hid hL
  have HA := Lib.hid hA
  have HLN := Lib.hid hL.1
  have HSL := Lib.hid hS3
  have HC1 := Lib.hid hc1
  have HC2 := Lib.hid hc2
  have HC3 := Lib.hid hc3
  have HC4 := Lib.hid hc4
  have HC5 := Lib.hid hc5
  have HC6 := Lib.hid hc6
  have HC7 := Lib.hid hc7
  have HC8 := Lib.hid hc8
  have HC9 := Lib.hid hc9
  have HC10 := Lib.hid hc10
  clear hw0 hb0 hk0 hz hp hL hA hR1 hR2 hR3 hR4 hR5 hS3 hc1 hc2 hc3 hc4 hc5 hc6 hc7 hc8 hc9 hc10
  by_cases hb1 : 1000 < n
  · have i2 : (1000 : Int) < (n : Int) := by omega
    go_enter Tryd.func4, Tryd.ntmps4
    go_wp2_with fail
    rw [HW0.out]
    go_ret
    exact ⟨rfl, HB0.out⟩
  · have i2 : ¬ (1000 : Int) < (n : Int) := by omega
    by_cases hb2 : 10000 < len
    · have j2 : (10000 : Int) < (len : Int) := by omega
      go_enter Tryd.func4, Tryd.ntmps4
      go_wp2_with fail
      rw [HW0.out]
      go_ret
      exact ⟨rfl, HB0.out⟩
    · have j2 : ¬ (10000 : Int) < (len : Int) := by omega
      go_enter Tryd.func4, Tryd.ntmps4
      go_wp2_with (first
        | (at_builtin
           rw [HW0.out]
           refine wpList_append_prow rfl (.const (.slice none 0 0)) (.tmp 34) rfl w0.heap.size (.slice none 0 0) [] rfl (prow_nil _ _) w0.heap.size A0 n cap0 L rfl (HL.out.step HB0.out) (by have := hb1; simp; omega) (Nat.le_refl _) ?_
           intro vo w1 ho hgo
           rw [List.nil_append] at ho
           have bo := below_none hgo
           have HB1 := Lib.hid (HB0.out.trans (bo.mono HB0.out.size))
           have HK1 := Lib.hid (HK0.out.below bo HK0.out.lt)
           have po := ho.pts
           rw [HLN.out] at po
           obtain ⟨Ao, Co, rfl, po⟩ := po
           have HO1 := Lib.hid po
           clear ho hgo bo po)
        | (at_builtin
           refine wpList_append_bsl rfl (.const (.slice none 0 0)) (.tmp 36) rfl w1.heap.size (.slice none 0 0) 0 [] rfl (own_nil _ _) w1.heap.size A len cap s rfl (HA.out.step HB1.out) (by have := hb2; omega) (Nat.le_refl _) ?_
           intro vm w2 hm hgm
           simp only [Nat.zero_add, List.nil_append] at hm
           have bm := below_none hgm
           have HB2 := Lib.hid (HB1.out.trans (bm.mono HB1.out.size))
           obtain ⟨Am, Cm, rfl, sm⟩ := own_to hm
           have HM2 := Lib.hid sm
           have HO2 := Lib.hid (HO1.out.step bm)
           have HK2 := Lib.hid (HK1.out.below bm HK1.out.lt)
           obtain ⟨c0, c1, c2, c3, c4⟩ := HK2.out.five
           clear hm hgm bm sm)
        | (go_at_call 9
           refine (HC1.out w2 (HZ.out.step HB2.out)).mono ?_
           rintro ev w3 ⟨v3, rfl, o3, b3⟩
           have HB3 := Lib.hid (HB2.out.trans (b3.mono HB2.out.size))
           have HK3 := Lib.hid (HK2.out.below b3 HK2.out.lt)
           obtain ⟨A3, C3, rfl, s3⟩ := own_to o3
           have HS3 := Lib.hid s3
           have HM3 := Lib.hid (HM2.out.step b3)
           have HO3 := Lib.hid (HO2.out.step b3)
           clear c0 c1 c2 c3 c4
           obtain ⟨c0, c1, c2, c3, c4⟩ := HK3.out.five
           clear o3 b3 s3)
        | (go_at_call 15
           refine (HC2.out w3).mono ?_
           rintro ev w4 ⟨v4, rfl, o4, b4⟩
           have HB4 := Lib.hid (HB3.out.trans (b4.mono HB3.out.size))
           have HK4 := Lib.hid (HK3.out.below b4 HK3.out.lt)
           obtain ⟨A4, C4, rfl, s4⟩ := own_to o4
           have HT4 := Lib.hid s4
           have HM4 := Lib.hid (HM3.out.step b4)
           have HO4 := Lib.hid (HO3.out.step b4)
           have HS4 := Lib.hid (HS3.out.step b4)
           clear c0 c1 c2 c3 c4
           clear o4 b4 s4)
        | (go_at_call 12
           refine (HC3.out Am Cm w4 HM4.out (HZ.out.step HB4.out)).mono ?_
           rintro ev w5 ⟨rfl, b5⟩
           have bx := (Below.refl w5.heap.size w5).alloc (Nat.le_refl _) (.cells #[.int .i64 x0, .int .u32 (x1 : Int), .int .u32 (x2 : Int), .int .u32 (x3 : Int), .int .u32 (x4 : Int)] 28)
           have b5a := b5.trans (bx.mono b5.size)
           obtain ⟨w5a, hw5a⟩ : ∃ W, (w5.alloc (.cells #[.int .i64 x0, .int .u32 (x1 : Int), .int .u32 (x2 : Int), .int .u32 (x3 : Int), .int .u32 (x4 : Int)] 28)) = W := ⟨_, rfl⟩
           have hq5 : Blk w5a w5.heap.size 28 #[.int .i64 x0, .int .u32 (x1 : Int), .int .u32 (x2 : Int), .int .u32 (x3 : Int), .int .u32 (x4 : Int)] := by rw [← hw5a]; exact Blk.new w5 _ _
           rw [hw5a] at b5a
           have HQ5 := Lib.hid hq5
           have HW5 := Lib.hid hw5a
           have HB5 := Lib.hid (HB4.out.trans (b5a.mono HB4.out.size))
           have HK5 := Lib.hid (HK4.out.below b5a HK4.out.lt)
           have HM5 := Lib.hid (HM4.out.step b5a)
           have HO5 := Lib.hid (HO4.out.step b5a)
           have HS5 := Lib.hid (HS4.out.step b5a)
           have HT5 := Lib.hid (HT4.out.step b5a)
           clear b5 bx b5a hw5a hq5)
        | (go_at_call 16
           rw [HW5.out]
           refine (HC4.out w5a (HA.out.step HB5.out)).mono ?_
           rintro ev w6 ⟨rfl, b6⟩
           have bx := (Below.refl w6.heap.size w6).alloc (Nat.le_refl _) (.cells #[.int .i64 x0, .int .u32 (x1 : Int), .int .u32 (x2 : Int), .int .u32 (x3 : Int), .int .u32 (x4 : Int)] 28)
           have b6a := b6.trans (bx.mono b6.size)
           obtain ⟨w6a, hw6a⟩ : ∃ W, (w6.alloc (.cells #[.int .i64 x0, .int .u32 (x1 : Int), .int .u32 (x2 : Int), .int .u32 (x3 : Int), .int .u32 (x4 : Int)] 28)) = W := ⟨_, rfl⟩
           have hr6 : Blk w6a w6.heap.size 28 #[.int .i64 x0, .int .u32 (x1 : Int), .int .u32 (x2 : Int), .int .u32 (x3 : Int), .int .u32 (x4 : Int)] := by rw [← hw6a]; exact Blk.new w6 _ _
           rw [hw6a] at b6a
           have HR6 := Lib.hid hr6
           have HW6 := Lib.hid hw6a
           have HB6 := Lib.hid (HB5.out.trans (b6a.mono HB5.out.size))
           have HK6 := Lib.hid (HK5.out.below b6a HK5.out.lt)
           have HQ6 := Lib.hid (HQ5.out.below b6a HQ5.out.lt)
           have HM6 := Lib.hid (HM5.out.step b6a)
           have HO6 := Lib.hid (HO5.out.step b6a)
           have HS6 := Lib.hid (HS5.out.step b6a)
           have HT6 := Lib.hid (HT5.out.step b6a)
           clear b6 bx b6a hw6a hr6)
        | (go_at_call 10
           rw [HW6.out]
           refine (HC5.out Ao Co w6a HO6.out (HZ.out.step HB6.out)).mono ?_
           rintro ev w7 ⟨v7, rfl, o7, b7⟩
           have HB67 := Lib.hid b7
           have HB7 := Lib.hid (HB6.out.trans (b7.mono HB6.out.size))
           have HX7 := Lib.hid o7
           have HM7 := Lib.hid (HM6.out.step b7)
           have HS7 := Lib.hid (HS6.out.step b7)
           have HT7 := Lib.hid (HT6.out.step b7)
           have HK7 := Lib.hid (HK6.out.below b7 HK6.out.lt)
           have HQ7 := Lib.hid (HQ6.out.below b7 HQ6.out.lt)
           have HR7 := Lib.hid (HR6.out.below b7 HR6.out.lt)
           clear o7 b7)
        | (go_at_call 17
           refine (HC6.out w7 (HL.out.step HB7.out)).mono ?_
           rintro ev w8 ⟨v8, rfl, o8, b8⟩
           have HB68 := Lib.hid (HB67.out.trans (b8.mono HB67.out.size))
           have HB8 := Lib.hid (HB7.out.trans (b8.mono HB7.out.size))
           have HX8 := Lib.hid (own_below HX7.out b8)
           obtain ⟨A8, C8, rfl, s8⟩ := own_to o8
           have HY8 := Lib.hid s8
           have HM8 := Lib.hid (HM7.out.step b8)
           have HS8 := Lib.hid (HS7.out.step b8)
           have HT8 := Lib.hid (HT7.out.step b8)
           have HK8 := Lib.hid (HK7.out.below b8 HK7.out.lt)
           have HQ8 := Lib.hid (HQ7.out.below b8 HQ7.out.lt)
           have HR8 := Lib.hid (HR7.out.below b8 HR7.out.lt)
           clear o8 b8 s8)
        | (go_at_call 11
           refine (HC7.out Am Cm w8 HM8.out (HZ.out.step HB8.out)).mono ?_
           rintro ev w9 ⟨v9, rfl, o9, b9⟩
           have HB69 := Lib.hid (HB68.out.trans (b9.mono HB68.out.size))
           have HB9 := Lib.hid (HB8.out.trans (b9.mono HB8.out.size))
           have HX9 := Lib.hid (own_below HX8.out b9)
           obtain ⟨A9, C9, rfl, s9⟩ := o9.pts
           have HU9 := Lib.hid s9
           have HS9 := Lib.hid (HS8.out.step b9)
           have HT9 := Lib.hid (HT8.out.step b9)
           have HY9 := Lib.hid (HY8.out.step b9)
           have HK9 := Lib.hid (HK8.out.below b9 HK8.out.lt)
           have HQ9 := Lib.hid (HQ8.out.below b9 HQ8.out.lt)
           have HR9 := Lib.hid (HR8.out.below b9 HR8.out.lt)
           clear o9 b9 s9)
        | (go_at_call 18
           refine (HC8.out w9 (HA.out.step HB9.out)).mono ?_
           rintro ev w10 ⟨v10, rfl, o10, b10⟩
           have HB610 := Lib.hid (HB69.out.trans (b10.mono HB69.out.size))
           have HB10 := Lib.hid (HB9.out.trans (b10.mono HB9.out.size))
           have HX10 := Lib.hid (own_below HX9.out b10)
           obtain ⟨A10, C10, rfl, s10⟩ := o10.pts
           have HV10 := Lib.hid s10
           have HS10 := Lib.hid (HS9.out.step b10)
           have HT10 := Lib.hid (HT9.out.step b10)
           have HY10 := Lib.hid (HY9.out.step b10)
           have HU10 := Lib.hid (HU9.out.step b10)
           have HK10 := Lib.hid (HK9.out.below b10 HK9.out.lt)
           have HQ10 := Lib.hid (HQ9.out.below b10 HQ9.out.lt)
           have HR10 := Lib.hid (HR9.out.below b10 HR9.out.lt)
           clear o10 b10 s10)
        )

      obtain ⟨A7, C7, rfl, s7⟩ := own_to HX10.out
      have HS7 := Lib.hid s7
      obtain ⟨t1, ht1⟩ : ∃ x, strOf S1 = x := ⟨_, rfl⟩
      obtain ⟨t3, ht3⟩ : ∃ x, strOf S3 = x := ⟨_, rfl⟩
      have HE1 := Lib.hid ht1
      have HE3 := Lib.hid ht3
      have n1 : (k1 != k1) = false := by simp
      have n2 : (k2 != k2) = false := by simp
      have n3 : (k3 != k3) = false := by simp
      have n4 : (k4 != k4) = false := by simp
      have n5 : (k5 != k5) = false := by simp
      have m1 : (t1.toList == t1.toList) = true := by simp
      have m3 : (t3.toList == t3.toList) = true := by simp
      clear ht1 ht3 s7
      obtain ⟨wd, hwd⟩ : ∃ wd, w10.drew = wd := ⟨_, rfl⟩
      have hbd : Below w10.heap.size w10 wd := by rw [← hwd]; exact (Below.refl _ _).drew
      have HBd := Lib.hid hbd
      have UP : ∀ X, Below wd.heap.size wd X → Below w10.heap.size w10 X := fun X hX => hbd.trans (hX.mono hbd.size)
      have F1 : ∀ X, Below wd.heap.size wd X → (convert 22 9 (.slice A3 S1.length C3)).run Tryd.prog X = .ok (.string t1) X := fun X hX => by have := (HS10.out.below (UP X hX)).conv; rwa [HE1.out] at this
      have F2 : ∀ X, Below wd.heap.size wd X → (convert 22 9 (.slice A4 S1.length C4)).run Tryd.prog X = .ok (.string t1) X := fun X hX => by have := (HT10.out.below (UP X hX)).conv; rwa [HE1.out] at this
      have F3 : ∀ X, Below wd.heap.size wd X → (convert 22 9 (.slice A7 S3.length C7)).run Tryd.prog X = .ok (.string t3) X := fun X hX => by have := (HS7.out.below (UP X hX)).conv; rwa [HE3.out] at this
      have F4 : ∀ X, Below wd.heap.size wd X → (convert 22 9 (.slice A8 S3.length C8)).run Tryd.prog X = .ok (.string t3) X := fun X hX => by have := (HY10.out.below (UP X hX)).conv; rwa [HE3.out] at this
      have Q := fun X hX => (HQ10.out.below (UP X hX) HQ10.out.lt).five
      have R := fun X hX => (HR10.out.below (UP X hX) HR10.out.lt).five
      have K := fun X hX => (HK10.out.below (UP X hX) HK10.out.lt).five
      have hbwd : Below wd.heap.size wd wd := Below.refl _ _
      have HSM : Hid (∀ W, Below w10.heap.size w10 W → Calls Tryd.prog 19 #[.slice A9 L4.length C9, .slice A10 L4.length C10] W fun e w' => e = .returned (.bool true) ∧ Below W.heap.size W w') := Lib.hid fun W hW => by
        have := rpSame_any A9 L4.length C9 L4 A10 L4.length C10 L4 W (HU10.out.step hW) (HV10.out.step hW)
        rwa [decide_eq_true (rfl : L4 = L4)] at this
      have HUP := Lib.hid UP
      clear UP hbd
      refine wpI_start (Below wd.heap.size wd) [0, 1, 2, 3, 4, 5, 6, 7, 8, 9, 10, 11, 12, 13, 14, 15, 16, 17, 18, 19, 20, 21, 22, 23, 24, 25, 26, 27, 28, 29, 30, 31, 32, 33, 34, 35, 36, 37, 38, 39, 40, 41, 42, 43, 44, 46, 45, 47, 48, 49] hmx rfl hwd ?_
      clear hwd
      iterate 6 (
        refine wpI_read (v := ?_) hbwd rfl (by kernel_rfl) (by kernel_rfl) (by kernel_rfl) (fun _ _ _ h => h) (.inl ⟨by rfl, ?_⟩) ?_
        rotate_left
        · intro X hX
          have hf1 := F1 X hX
          have hf2 := F2 X hX
          clear hX
          go_simp
          with_reducible rfl
        try simp only [Act.put, List.setIfInBounds_toArray, List.set_cons_zero, List.set_cons_succ])
      iterate 5 (
        refine wpI_read (v := ?_) hbwd rfl (by kernel_rfl) (by kernel_rfl) (by kernel_rfl) (fun _ _ _ h => h) (.inl ⟨by rfl, ?_⟩) ?_
        rotate_left
        · intro X hX
          clear hX
          go_simp
          with_reducible rfl
        try simp only [Act.put, List.setIfInBounds_toArray, List.set_cons_zero, List.set_cons_succ])
      iterate 5 (
        refine wpI_read (v := ?_) hbwd rfl (by kernel_rfl) (by kernel_rfl) (by kernel_rfl) (fun _ _ _ h => h) (.inl ⟨by rfl, ?_⟩) ?_
        rotate_left
        · intro X hX
          have hQ0 := (Q X hX).1
          have hQ1 := (Q X hX).2.1
          have hQ2 := (Q X hX).2.2.1
          have hQ3 := (Q X hX).2.2.2.1
          have hQ4 := (Q X hX).2.2.2.2
          have hR0 := (R X hX).1
          have hR1 := (R X hX).2.1
          have hR2 := (R X hX).2.2.1
          have hR3 := (R X hX).2.2.2.1
          have hR4 := (R X hX).2.2.2.2
          clear hX
          go_simp
          with_reducible rfl
        try simp only [Act.put, List.setIfInBounds_toArray, List.set_cons_zero, List.set_cons_succ])
      iterate 5 (
        refine wpI_read (v := ?_) hbwd rfl (by kernel_rfl) (by kernel_rfl) (by kernel_rfl) (fun _ _ _ h => h) (.inl ⟨by rfl, ?_⟩) ?_
        rotate_left
        · intro X hX
          clear hX
          go_simp
          with_reducible rfl
        try simp only [Act.put, List.setIfInBounds_toArray, List.set_cons_zero, List.set_cons_succ])
      iterate 7 (
        refine wpI_read (v := ?_) hbwd rfl (by kernel_rfl) (by kernel_rfl) (by kernel_rfl) (fun _ _ _ h => h) (.inl ⟨by rfl, ?_⟩) ?_
        rotate_left
        · intro X hX
          have hf3 := F3 X hX
          have hf4 := F4 X hX
          clear hX
          go_simp
          with_reducible rfl
        try simp only [Act.put, List.setIfInBounds_toArray, List.set_cons_zero, List.set_cons_succ])
      iterate 7 (
        refine wpI_read (v := ?_) hbwd rfl (by kernel_rfl) (by kernel_rfl) (by kernel_rfl) (fun _ _ _ h => h) (.inl ⟨by rfl, ?_⟩) ?_
        rotate_left
        · intro X hX
          clear hX
          go_simp
          with_reducible rfl
        try simp only [Act.put, List.setIfInBounds_toArray, List.set_cons_zero, List.set_cons_succ])
      refine wpI_lone rfl (by kernel_rfl) (fun K' hK => ?_)
      go_simp
      refine (HSM.out wd (HBd.out)).mono ?_
      rintro ev w11 ⟨rfl, b11⟩
      have hb11 : Below wd.heap.size wd w11 := b11
      refine hK _ _ hb11 ?_
      clear hK K' b11
      try simp only [Act.put, List.setIfInBounds_toArray, List.set_cons_zero, List.set_cons_succ]
      iterate 8 (
        refine wpI_read (v := ?_) hb11 rfl (by kernel_rfl) (by kernel_rfl) (by kernel_rfl) (fun _ _ _ h => h) (.inl ⟨by rfl, ?_⟩) ?_
        rotate_left
        · intro X hX
          clear hX
          go_simp
          with_reducible rfl
        try simp only [Act.put, List.setIfInBounds_toArray, List.set_cons_zero, List.set_cons_succ])
      iterate 2 (
        refine wpI_read (v := ?_) hb11 rfl (by kernel_rfl) (by kernel_rfl) (by kernel_rfl) (fun _ _ _ h => h) (.inl ⟨by rfl, ?_⟩) ?_
        rotate_left
        · intro X hX
          have hK0 := (K X hX).1
          have hK1 := (K X hX).2.1
          have hK2 := (K X hX).2.2.1
          have hK3 := (K X hX).2.2.2.1
          have hK4 := (K X hX).2.2.2.2
          clear hX
          go_simp
          with_reducible rfl
        try simp only [Act.put, List.setIfInBounds_toArray, List.set_cons_zero, List.set_cons_succ])
      refine wpI_lone rfl (by kernel_rfl) (fun K' hK => ?_)
      go_simp
      refine (HC9.out w11).mono ?_
      rintro ev w12 ⟨rfl, b12⟩
      have hb12 := hb11.trans (b12.mono hb11.size)
      refine hK _ _ hb12 ?_
      clear hK K' b12
      try simp only [Act.put, List.setIfInBounds_toArray, List.set_cons_zero, List.set_cons_succ]
      refine wpI_lone rfl (by kernel_rfl) (fun K' hK => ?_)
      go_simp
      refine (HC10.out w12).mono ?_
      rintro ev w13 ⟨rfl, b13⟩
      have hb13 := hb12.trans (b13.mono hb12.size)
      refine hK _ _ hb13 ?_
      clear hK K' b13
      try simp only [Act.put, List.setIfInBounds_toArray, List.set_cons_zero, List.set_cons_succ]
      iterate 2 (
        refine wpI_read (v := ?_) hb13 rfl (by kernel_rfl) (by kernel_rfl) (by kernel_rfl) (fun _ _ _ h => h) (.inl ⟨by rfl, ?_⟩) ?_
        rotate_left
        · intro X hX
          clear hX
          go_simp
          with_reducible rfl
        try simp only [Act.put, List.setIfInBounds_toArray, List.set_cons_zero, List.set_cons_succ])
      refine wpI_done (by kernel_rfl) ?_
      have HB13 := Lib.hid (HB10.out.trans ((HUP.out w13 hb13).mono HB10.out.size))
      have HB613 := Lib.hid (HB610.out.trans ((HUP.out w13 hb13).mono HB610.out.size))
      have HX13 := Lib.hid (own_below HX10.out (HUP.out w13 hb13))
      clear F1 F2 F3 F4 Q R K hbwd hb11 hb12 hb13
      go_wp2_with fail
      obtain ⟨m, hm⟩ : ∃ m, S3.length = m := ⟨_, rfl⟩
      have hlm : (m : Int) ≤ 256 := by have := HSL.out; omega
      have hx13 := HX13.out
      rw [hm] at hx13 ⊢
      have HMM := Lib.hid hm
      clear hm n1 n2 n3 n4 n5 m1 m3 hsx
      have hrow : 0 < m → ∃ g t, A7 = some ⟨g, 0, none⟩ ∧ w6a.heap.size ≤ g ∧ RowI w13 g m C7 t := fun h0 => by
        obtain ⟨g, cap', e, hg1, _, _, hr⟩ := rowI_of_own hx13 h0
        cases e
        exact ⟨g, S3, rfl, hg1, hr⟩
      have HROW := Lib.hid hrow
      clear hrow hx13
      have m0 : (0 : Int) ≤ (m : Int) := by omega
      go_loopw [25] (fun i wr => ∃ k : Nat, k ≤ m ∧ i = .int .i64 k ∧ (0 < m → ∃ g t, A7 = some ⟨g, 0, none⟩ ∧ w6a.heap.size ≤ g ∧ RowI wr g m C7 t) ∧ Below w6a.heap.size w6a wr) (fun i _ => m - (intOf i).toNat)
      case atStart => exact ⟨0, Nat.zero_le _, rfl, HROW.out, HB613.out⟩
      case round =>
        obtain ⟨k, hk, rfl, hr, hb⟩ := hrel
        have HRW := Lib.hid hr
        have HBR := Lib.hid hb
        clear hr hb
        have k0 : (0 : Int) ≤ k := by omega
        by_cases hlt : k < m
        · have k1 : (k : Int) < m := by omega
          obtain ⟨g, t, rfl, hge, hri⟩ := HRW.out (by omega)
          have htl : t.length = m := by obtain ⟨_, _, _, h, _⟩ := hri; exact h
          have hmc : m ≤ C7 := by obtain ⟨_, _, _, _, h, _⟩ := hri; exact h
          have hkt : k < t.length := by omega
          have hc := hri.holds k hkt
          have hf : wr.frozen? ⟨g, k, none⟩ = false := by obtain ⟨cur, h, _⟩ := hri; exact h.frozen k
          obtain ⟨x, hx⟩ : ∃ x : Nat, (t[k]).toNat = x := ⟨_, rfl⟩
          have hx1 : x ≤ 255 := by rw [← hx]; have := (t[k]).toNat_lt; omega
          have hy : ((t[k] + 1).toNat : Int) = ((x : Int) + 1) % 256 := by
            rw [UInt8.toNat_add, hx]
            simp
          have hset := hri.set_ hlt (t[k] + 1)
          rw [hx] at hc
          obtain ⟨y, hy'⟩ : ∃ y : Int, ((t[k] + 1).toNat : Int) = y := ⟨_, rfl⟩
          rw [hy'] at hy hset
          have hw1 : IntKind.u8.wrap ((x : Int) + 1) = y := by rw [hy]; simp [IntKind.wrap, IntKind.bits, IntKind.signed]
          have hw2 : ((x : Int) + 1) % 256 = y := hy.symm
          have x0' : (0 : Int) ≤ x := by omega
          have x1' : (x : Int) ≤ 255 := by omega
          have HSET := Lib.hid hset
          have HBS := Lib.hid (HBR.out.setCell (p := ⟨g, k, none⟩) hge (.int .u8 y))
          have HGE := Lib.hid hge
          clear hset hri hx hy hy' hge
          go_wp2_with fail
          go_roundw
          case rel => exact ⟨k + 1, by omega, by go_num, fun _ => ⟨g, _, rfl, HGE.out, HSET.out⟩, HBS.out⟩
          case measure => simp [intOf]; omega
        · obtain rfl : k = m := by omega
          have hb6 := HB6.out.trans (HBR.out.mono HB6.out.size)
          have HBW := Lib.hid hb6
          have hsm := rpSame_any Ao n Co L A0 n cap0 L wr (HO6.out.step HBR.out) (HL.out.step hb6)
          rw [decide_eq_true (rfl : L = L)] at hsm
          have HSS := Lib.hid hsm
          obtain ⟨tb, htb⟩ : ∃ x, strOf s = x := ⟨_, rfl⟩
          have HTB := Lib.hid htb
          have mb : (tb.toList == tb.toList) = true := by simp
          clear hb6 hsm htb
          go_wp2_with (go_at_call 19
                       refine HSS.out.mono ?_
                       rintro ev wz ⟨rfl, bz⟩
                       have HBZ := Lib.hid (HBW.out.trans (bz.mono HBW.out.size))
                       have hcm := ((HM6.out.step HBR.out).step bz).conv
                       have hca := (HA.out.step HBZ.out).conv
                       rw [HTB.out] at hcm hca
                       clear bz)
          go_ret
          exact ⟨rfl, HBZ.out⟩
end Go.Proofs.YtlogglmdfnakkaaDoor
namespace Go.Proofs.YtlogglmdfnakkaaDoor.ptrBytes
open Go.ChangeShapes Go.WideShapes Go.ChangeAt Go.RowKit
set_option linter.unusedVariables false

theorem own : ownKnob Tryd.prog.godebug = none := by kernel_rfl
theorem laidOut : laidOutB Tryd.prog = true := by kernel_rfl

set_option maxRecDepth 100000 in
theorem lifted (os : Os) (started : os.Started) (H : Type) (enc : TypeId × Value → H) :
    ReturnsInHanded {} Tryd.checked os 4 .any (fun w args => (Rows.ptrBytesSpec.pre enc Tryd.prog Tryd.f4 [] false w args ∧ laidMetH Tryd.prog [("charterhouse/ptr.sizes", Rows.laid_charterhouse_ptr_sizes)] w) ∧ sizedMet enc Tryd.prog Tryd.f4 (OpenSpec.ofChange Rows.ptrBytesSpec) false w args)
      (Rows.ptrBytesSpec.post enc Tryd.prog Tryd.f4 false true false false) := by
  refine returnsInHanded_of_change_and (C := Tryd.checked) (X := fun w _ => laidMetH Tryd.prog [("charterhouse/ptr.sizes", Rows.laid_charterhouse_ptr_sizes)] w) (fun _ _ _ hh h => h.of_heap hh) own started (by kernel_rfl) Tryd.func4
    (ChangeSpec.witness_shaped (enc := enc) (C := Tryd.checked) (os := os) (X := fun w _ => laidMetH Tryd.prog [("charterhouse/ptr.sizes", Rows.laid_charterhouse_ptr_sizes)] w) false (World.doorLaid Tryd.prog 400 os) #[.agg #[.int .i64 0, .int .u32 0, .int .u32 0, .int .u32 0, .int .u32 0], .slice none 0 0, .slice none 0 0] 8 rfl (World.shaped_of_RefB (by kernel_rfl) (by kernel_rfl)) (by kernel_rfl) (by kernel_rfl) (by kernel_rfl) (door_met os _)) ?_
  intro W base args ds gs before hval0 hW _ _ hL _
  have hval : ∀ (j : Nat) t v, Tryd.f4.params[j]? = some t → args[j]? = some v → Value.okWide Tryd.prog W .any base t v := hval0
  have hW' := hW
  obtain ⟨p, q, hA0, hV, rfl, hfz, hnd⟩ := hW
  have hA : DataW.TrodAll enc Tryd.prog W 0 (fun _ => true) true Tryd.f4.params.toList args.toList ds p := hA0
  rw [Tryd.params4] at hA hval
  obtain ⟨v0, vs0, d0, ds0, p0, q0, hargs, rfl, rfl, h0, r0⟩ := trodAll_cons hA
  obtain ⟨v1, vs1, d1, ds1, p1, q1, rfl, rfl, rfl, h1, r1⟩ := trodAll_cons r0
  obtain ⟨v2, vs2, d2, ds2, p2, q2, rfl, rfl, rfl, h2, r2⟩ := trodAll_cons r1
  obtain ⟨rfl, rfl, rfl⟩ := trodAll_nil r2
  obtain rfl : args = #[v0, v1, v2] := by cases args; simp_all
  obtain ⟨rfl, rfl⟩ := trodVars_none hV
  have k0 := h0
  have lt0 : ∀ x ∈ p0, x.block < W.heap.size := by obtain ⟨m, hm⟩ := k0; exact DataW.trod_lt m _ _ _ hm
  obtain ⟨z0, rfl, w0⟩ := open_ptr (hval 0 28 v0 rfl rfl) h0
  obtain ⟨a1, len1, cap1, rfl⟩ := okWide_slice Tryd.underlying30 (hval 1 30 v1 rfl rfl)
  have k1 := h1
  have lt1 : ∀ x ∈ p1, x.block < W.heap.size := by obtain ⟨m, hm⟩ := k1; exact DataW.trod_lt m _ _ _ hm
  obtain ⟨L1, w1⟩ := open_ptrs h1
  obtain ⟨a2, len2, cap2, rfl⟩ := okWide_slice Tryd.underlying22 (hval 2 22 v2 rfl rfl)
  have k2 := h2
  have lt2 : ∀ x ∈ p2, x.block < W.heap.size := by obtain ⟨m, hm⟩ := k2; exact DataW.trod_lt m _ _ _ hm
  obtain ⟨z2, w2⟩ : ∃ zs, IsRow .u8 W a2 len2 cap2 zs := by
    obtain ⟨fuel, hf⟩ := h2
    rcases open_ints Tryd.underlying22 Tryd.underlying5 (by kernel_rfl) hf with ⟨hcs, _⟩ | ⟨x, l, c, zs, hcs, _, hl, hm, hz, _, hcell, hwz⟩
    · simp [Value.cells] at hcs
      obtain ⟨rfl, rfl, rfl⟩ := hcs
      exact ⟨[], .inl ⟨rfl, rfl, rfl, rfl⟩⟩
    · simp [Value.cells] at hcs
      obtain ⟨rfl, rfl, rfl⟩ := hcs
      exact ⟨zs, .inr ⟨_, rfl, hl, hm, by simpa using hz, hcell, hwz⟩⟩
  clear hA0 hval0
  refine (ptrBytes_walk z0 a1 len1 cap1 L1 a2 len2 cap2 _ W (szs_of_laid hL) w0 w1 (bsl_of_row w2)).mono fun e W' ⟨he, bel⟩ => ?_
  subst he
  exact ⟨_, rfl, _, _, _, [], _, [], hW', trodAll_mk1 (shut_bool Tryd.underlying4 _), (trodAll_cons_mk (Below.trod laidOut (by kernel_rfl) (of_decide_eq_true (by kernel_rfl)) k0 bel lt0) (trodAll_cons_mk (Below.trod laidOut (by kernel_rfl) (of_decide_eq_true (by kernel_rfl)) k1 bel lt1) (trodAll_cons_mk (Below.trod laidOut (by kernel_rfl) (of_decide_eq_true (by kernel_rfl)) k2 bel lt2) trodAll_mk0))), rfl, bel.frame _, fun h => by cases h⟩

theorem over : Rows.PtrBytesSaid :=
  OpenClaim.holds_of_wide 4 Tryd.f4 rfl rfl rfl rfl rfl rfl rfl ⟨rfl, rfl, rfl, rfl, rfl⟩ rfl rfl rfl rfl rfl (by kernel_rfl) Tryd.func4 (by kernel_rfl)
    (of_decide_eq_true (by kernel_rfl)) (by unfold Func.isWrapper; first | (rw [if_pos (by decide +kernel)]; kernel_rfl) | (rw [if_neg (by decide +kernel)]; exact ⟨rfl, rfl⟩))
    (fun os started H enc _ => lifted os started H enc)

/-- The statement. -/
theorem proved : Rows.PtrBytesCardSaid :=
  Claim7.holds_tied_plain_at .later [] [.data] true _ false
    over (fun _ h => by cases h) (by kernel_rfl) (fun _ h => by cases h) ptrBytes_row_tie rfl ⟨rfl, rfl⟩ (by kernel_rfl) rfl
    (fun f fn hf hfn => by
      obtain rfl : f = 4 := Option.some.inj ((show Tryd.prog.funcNamed "charterhouse/charterhouselaw10.PtrBytes" = some 4 by kernel_rfl).symm.trans hf) |>.symm
      obtain rfl : fn = Tryd.f4 := (Option.some.inj (Tryd.func4.symm.trans hfn)).symm
      exact ⟨by kernel_rfl, fun j t ht => by
        rw [Tryd.params4] at ht
        have hm : t ∈ [28, 30, 22] := by simpa using Array.mem_of_getElem? ht
        have hall : ([28, 30, 22].all fun u => !Tryd.prog.wantsStandIn u) = true := by kernel_rfl
        exact (show Tryd.prog.wantsStandIn t = false by simpa using List.all_eq_true.1 hall t hm)⟩)
    (by kernel_rfl)
end Go.Proofs.YtlogglmdfnakkaaDoor.ptrBytes
