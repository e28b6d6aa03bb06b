/-
  PtrBackCardSaid: for any pointer and bytes (of more than 10,000 bytes the law itself answers what its example answers) what is written is read as it was, and what is read is written as just these bytes. No condition but the tied one: ptr.sizes reads as its own initialiser lays it.
-/
import Derived.Test.YtlogglmdfnakkaaDoorLawPtrA
namespace Go.Proofs.YtlogglmdfnakkaaDoor
open Go.RowKit Go.Shelf
set_option maxRecDepth 100000

theorem readO_bytes {p : Pt} (h : MayP p) (hw : WfP p) : readO (bytesP p) = (p, 0) := by
  rw [readO, if_pos (bytesP_length p), getP_bytesP h hw, if_pos h]
theorem eqPt_00 (w : World) : (Op.equalIn 10000 28 (.agg #[.int .i64 0, .int .u32 0, .int .u32 0, .int .u32 0, .int .u32 0]) (.agg #[.int .i64 0, .int .u32 0, .int .u32 0, .int .u32 0, .int .u32 0])).run Tryd.prog w = .ok true w := eqPt p0 p0 w
theorem eqPt_self (p : Pt) (w : World) : (Op.equalIn 10000 28 (ptV p) (ptV p)).run Tryd.prog w = .ok true w := by
  rw [eqPt, (eqP_iff p p).2 rfl]
set_option maxHeartbeats 4000000 in
theorem ptrBack_walk (p : Pt) (A : Option Addr) (len cap : Nat) (s : List UInt8) (w : World) (hz : Szs w) (hp : WfP p) (hA : Bsl w w.heap.size A len cap s) : Calls Tryd.prog 5 #[ptV p, .slice A len cap] w fun e w' => e = .returned (.bool true) ∧ Below w.heap.size w w' := by
  have hmx : Tryd.prog.follows Departure.mixedOrders = true := by kernel_rfl
  have i0 : (0 : Int) ≤ (len : Int) := by omega
  have i1 : (len : Int) ≤ 9223372036854775807 := by have h1 := hA.2.1; have h2 := hA.2.2.1; unfold maxLen at h2; omega
  have hl := hA.1
  have HAL := Lib.hid (fun W hz => alive_any W hz)
  have hwp := fun W hz => Write_any p hp W hz
  have hck := fun W => Check_any p W
  have hread := fun W hB hz => Read_any A len cap s W hB hz
  have hr2 := fun (h : MayP p) => readO_bytes h hp
  have hself := eqPt_self p
  have h00 := eqPt_00
  obtain ⟨a, b, c, d, e⟩ := p
  obtain ⟨w2, hw2⟩ : ∃ w2, w.alloc (.cells #[.int .i64 (a : Int), .int .u32 (b : Int), .int .u32 (c : Int), .int .u32 (d : Int), .int .u32 (e : Int)] 28) = w2 := ⟨_, rfl⟩
  have hb2 : Below w.heap.size w w2 := by rw [← hw2]; exact (Below.refl _ w).alloc (Nat.le_refl _) _
  have hk0 : Blk w2 w.heap.size 28 #[.int .i64 (a : Int), .int .u32 (b : Int), .int .u32 (c : Int), .int .u32 (d : Int), .int .u32 (e : Int)] := by rw [← hw2]; exact Blk.new w _ _
  have HW2 := Lib.hid hw2
  have HB2 := Lib.hid hb2
  have HK0 := Lib.hid hk0
  have HZ := Lib.hid hz
  have HA := Lib.hid hA
  have tok1 : True := trivial
  have tok2 : True := trivial
  clear hw2 hb2 hk0 hz hp hA
  rw [writeO] at hwp
  rw [checkO] at hck
  by_cases h1 : MayP (a, b, c, d, e)
  · rw [if_pos h1] at hwp
    have hr3 := hr2 h1
    have HR2 := Lib.hid hr3
    have HWP := Lib.hid hwp
    clear hwp hr2 hr3 hck h1
    by_cases hbig : 10000 < len
    · have i2 : (10000 : Int) < (len : Int) := by omega
      clear hread hl
      go_enter Tryd.func5, Tryd.ntmps5
      go_wp2_with (first
        | (go_at_call 13
           rw [HW2.out]
           refine (HAL.out w2 (HZ.out.step HB2.out)).mono ?_
           rintro ev w3 ⟨rfl, b3⟩
           have HB3 := Lib.hid (HB2.out.trans (b3.mono HB2.out.size))
           have HK03 := Lib.hid (HK0.out.below b3 HK0.out.lt)
           obtain ⟨c0, c1, c2, c3, c4⟩ := HK03.out.five
           have hcp := HWP.out w3 (HZ.out.step HB3.out)
           have HCP := Lib.hid hcp
           clear b3 hcp)
        | (go_at_call 9
           have _t := tok1
           clear _t tok1
           refine HCP.out.mono ?_
           rintro ev w4 ⟨v4, rfl, o4, b4⟩
           have HB4 := Lib.hid (HB3.out.trans (b4.mono HB3.out.size))
           have HK04 := Lib.hid (HK03.out.below b4 HK03.out.lt)
           clear c0 c1 c2 c3 c4
           rw [bytesP_length] at o4
           obtain ⟨A4, C4, rfl, s4⟩ := own_to o4
           have hcr := Read_any A4 16 C4 _ w4 s4 (HZ.out.step HB4.out)
           rw [HR2.out] at hcr
           have HCR := Lib.hid hcr
           clear hcr s4
           clear b4 o4)
        | (go_at_call 12
           have _t := tok2
           clear _t tok2
           refine HCR.out.mono ?_
           rintro ev w5 ⟨rfl, b5⟩
           have HB5 := Lib.hid (HB4.out.trans (b5.mono HB4.out.size))
           have hk5 := HK04.out.below b5 HK04.out.lt
           have c0 := fun o => (hk5.alloc o).five.1
           have c1 := fun o => (hk5.alloc o).five.2.1
           have c2 := fun o => (hk5.alloc o).five.2.2.1
           have c3 := fun o => (hk5.alloc o).five.2.2.2.1
           have c4 := fun o => (hk5.alloc o).five.2.2.2.2
           have HB6 := Lib.hid (HB5.out.alloc HB5.out.size (.cells #[.int .i64 (a : Int), .int .u32 (b : Int), .int .u32 (c : Int), .int .u32 (d : Int), .int .u32 (e : Int)] 28))
           clear b5 hk5)
        )
      go_ret
      exact ⟨rfl, HB6.out⟩
    · have i2 : ¬ (10000 : Int) < (len : Int) := by omega
      rw [readO] at hread
      by_cases h16 : s.length = 16
      · rw [if_pos h16] at hread
        obtain rfl : len = 16 := by omega
        by_cases hm : MayP (getP s)
        · rw [if_pos hm] at hread
          have hsx := bytesP_getP h16
          have hwx := fun W hz => Write_any (getP s) (wf_getP s) W hz
          rw [writeO, if_pos hm] at hwx
          obtain ⟨X, hX⟩ : ∃ X, getP s = X := ⟨_, rfl⟩
          rw [hX] at hread hsx hwx
          clear hX hm h16 hl
          obtain ⟨x0, x1, x2, x3, x4⟩ := X
          have HRD := Lib.hid hread
          have HSX := Lib.hid hsx
          have HWX := Lib.hid hwx
          clear hread hsx hwx
          go_enter Tryd.func5, Tryd.ntmps5
          go_wp2_with (first
            | (go_at_call 13
               rw [HW2.out]
               refine (HAL.out w2 (HZ.out.step HB2.out)).mono ?_
               rintro ev w3 ⟨rfl, b3⟩
               have HB3 := Lib.hid (HB2.out.trans (b3.mono HB2.out.size))
               have HK03 := Lib.hid (HK0.out.below b3 HK0.out.lt)
               obtain ⟨c0, c1, c2, c3, c4⟩ := HK03.out.five
               have hcp := HWP.out w3 (HZ.out.step HB3.out)
               have HCP := Lib.hid hcp
               clear b3 hcp)
            | (go_at_call 9
               have _t := tok1
               clear _t tok1
               refine HCP.out.mono ?_
               rintro ev w4 ⟨v4, rfl, o4, b4⟩
               have HB4 := Lib.hid (HB3.out.trans (b4.mono HB3.out.size))
               have HK04 := Lib.hid (HK03.out.below b4 HK03.out.lt)
               clear c0 c1 c2 c3 c4
               rw [bytesP_length] at o4
               obtain ⟨A4, C4, rfl, s4⟩ := own_to o4
               have hcr := Read_any A4 16 C4 _ w4 s4 (HZ.out.step HB4.out)
               rw [HR2.out] at hcr
               have HCR := Lib.hid hcr
               clear hcr s4
               clear b4 o4)
            | (go_at_call 12
               have _t := tok2
               clear _t tok2
               refine HCR.out.mono ?_
               rintro ev w5 ⟨rfl, b5⟩
               have HB5 := Lib.hid (HB4.out.trans (b5.mono HB4.out.size))
               have hk5 := HK04.out.below b5 HK04.out.lt
               have c0 := fun o => (hk5.alloc o).five.1
               have c1 := fun o => (hk5.alloc o).five.2.1
               have c2 := fun o => (hk5.alloc o).five.2.2.1
               have c3 := fun o => (hk5.alloc o).five.2.2.2.1
               have c4 := fun o => (hk5.alloc o).five.2.2.2.2
               have HB6 := Lib.hid (HB5.out.alloc HB5.out.size (.cells #[.int .i64 (a : Int), .int .u32 (b : Int), .int .u32 (c : Int), .int .u32 (d : Int), .int .u32 (e : Int)] 28))
               clear b5 hk5)
            | (go_at_call 12
               refine (HRD.out (w5.alloc (.cells #[.int .i64 (a : Int), .int .u32 (b : Int), .int .u32 (c : Int), .int .u32 (d : Int), .int .u32 (e : Int)] 28)) (HA.out.step HB6.out) (HZ.out.step HB6.out)).mono ?_
               rintro ev w7 ⟨rfl, b7⟩
               have HB7 := Lib.hid (HB6.out.trans (b7.mono HB6.out.size))
               have HB8 := Lib.hid (HB7.out.alloc HB7.out.size (.cells #[.int .i64 x0, .int .u32 (x1 : Int), .int .u32 (x2 : Int), .int .u32 (x3 : Int), .int .u32 (x4 : Int)] 28))
               clear b7)
            | (go_at_call 9
               refine (HWX.out (w7.alloc (.cells #[.int .i64 x0, .int .u32 (x1 : Int), .int .u32 (x2 : Int), .int .u32 (x3 : Int), .int .u32 (x4 : Int)] 28)) (HZ.out.step HB8.out)).mono ?_
               rintro ev w9 ⟨v9, rfl, o9, b9⟩
               have HB9 := Lib.hid (HB8.out.trans (b9.mono HB8.out.size))
               rw [bytesP_length] at o9
               obtain ⟨A9, C9, rfl, s9⟩ := own_to o9
               have cv9 := s9.conv
               rw [HSX.out] at cv9
               have cva := (HA.out.step HB9.out).conv
               clear o9 s9 b9)
            )
          go_ret
          exact ⟨rfl, HB9.out⟩
        · rw [if_neg hm] at hread
          have HRD := Lib.hid hread
          clear hread hm h16 hl
          go_enter Tryd.func5, Tryd.ntmps5
          go_wp2_with (first
            | (go_at_call 13
               rw [HW2.out]
               refine (HAL.out w2 (HZ.out.step HB2.out)).mono ?_
               rintro ev w3 ⟨rfl, b3⟩
               have HB3 := Lib.hid (HB2.out.trans (b3.mono HB2.out.size))
               have HK03 := Lib.hid (HK0.out.below b3 HK0.out.lt)
               obtain ⟨c0, c1, c2, c3, c4⟩ := HK03.out.five
               have hcp := HWP.out w3 (HZ.out.step HB3.out)
               have HCP := Lib.hid hcp
               clear b3 hcp)
            | (go_at_call 9
               have _t := tok1
               clear _t tok1
               refine HCP.out.mono ?_
               rintro ev w4 ⟨v4, rfl, o4, b4⟩
               have HB4 := Lib.hid (HB3.out.trans (b4.mono HB3.out.size))
               have HK04 := Lib.hid (HK03.out.below b4 HK03.out.lt)
               clear c0 c1 c2 c3 c4
               rw [bytesP_length] at o4
               obtain ⟨A4, C4, rfl, s4⟩ := own_to o4
               have hcr := Read_any A4 16 C4 _ w4 s4 (HZ.out.step HB4.out)
               rw [HR2.out] at hcr
               have HCR := Lib.hid hcr
               clear hcr s4
               clear b4 o4)
            | (go_at_call 12
               have _t := tok2
               clear _t tok2
               refine HCR.out.mono ?_
               rintro ev w5 ⟨rfl, b5⟩
               have HB5 := Lib.hid (HB4.out.trans (b5.mono HB4.out.size))
               have hk5 := HK04.out.below b5 HK04.out.lt
               have c0 := fun o => (hk5.alloc o).five.1
               have c1 := fun o => (hk5.alloc o).five.2.1
               have c2 := fun o => (hk5.alloc o).five.2.2.1
               have c3 := fun o => (hk5.alloc o).five.2.2.2.1
               have c4 := fun o => (hk5.alloc o).five.2.2.2.2
               have HB6 := Lib.hid (HB5.out.alloc HB5.out.size (.cells #[.int .i64 (a : Int), .int .u32 (b : Int), .int .u32 (c : Int), .int .u32 (d : Int), .int .u32 (e : Int)] 28))
               clear b5 hk5)
            | (go_at_call 12
               refine (HRD.out (w5.alloc (.cells #[.int .i64 (a : Int), .int .u32 (b : Int), .int .u32 (c : Int), .int .u32 (d : Int), .int .u32 (e : Int)] 28)) (HA.out.step HB6.out) (HZ.out.step HB6.out)).mono ?_
               rintro ev w7 ⟨rfl, b7⟩
               have HB7 := Lib.hid (HB6.out.trans (b7.mono HB6.out.size))
               have HB8 := Lib.hid (HB7.out.alloc HB7.out.size (.cells #[.int .i64 0, .int .u32 0, .int .u32 0, .int .u32 0, .int .u32 0] 28))
               clear b7)
            )
          go_ret
          exact ⟨rfl, HB8.out⟩
      · rw [if_neg h16] at hread
        have hne : ¬ (len : Int) = 16 := by omega
        have hne2 : ((len : Int) != 16) = true := by simpa using hne
        have HRD := Lib.hid hread
        clear hread h16 hl
        go_enter Tryd.func5, Tryd.ntmps5
        go_wp2_with (first
          | (go_at_call 13
             rw [HW2.out]
             refine (HAL.out w2 (HZ.out.step HB2.out)).mono ?_
             rintro ev w3 ⟨rfl, b3⟩
             have HB3 := Lib.hid (HB2.out.trans (b3.mono HB2.out.size))
             have HK03 := Lib.hid (HK0.out.below b3 HK0.out.lt)
             obtain ⟨c0, c1, c2, c3, c4⟩ := HK03.out.five
             have hcp := HWP.out w3 (HZ.out.step HB3.out)
             have HCP := Lib.hid hcp
             clear b3 hcp)
          | (go_at_call 9
             have _t := tok1
             clear _t tok1
             refine HCP.out.mono ?_
             rintro ev w4 ⟨v4, rfl, o4, b4⟩
             have HB4 := Lib.hid (HB3.out.trans (b4.mono HB3.out.size))
             have HK04 := Lib.hid (HK03.out.below b4 HK03.out.lt)
             clear c0 c1 c2 c3 c4
             rw [bytesP_length] at o4
             obtain ⟨A4, C4, rfl, s4⟩ := own_to o4
             have hcr := Read_any A4 16 C4 _ w4 s4 (HZ.out.step HB4.out)
             rw [HR2.out] at hcr
             have HCR := Lib.hid hcr
             clear hcr s4
             clear b4 o4)
          | (go_at_call 12
             have _t := tok2
             clear _t tok2
             refine HCR.out.mono ?_
             rintro ev w5 ⟨rfl, b5⟩
             have HB5 := Lib.hid (HB4.out.trans (b5.mono HB4.out.size))
             have hk5 := HK04.out.below b5 HK04.out.lt
             have c0 := fun o => (hk5.alloc o).five.1
             have c1 := fun o => (hk5.alloc o).five.2.1
             have c2 := fun o => (hk5.alloc o).five.2.2.1
             have c3 := fun o => (hk5.alloc o).five.2.2.2.1
             have c4 := fun o => (hk5.alloc o).five.2.2.2.2
             have HB6 := Lib.hid (HB5.out.alloc HB5.out.size (.cells #[.int .i64 (a : Int), .int .u32 (b : Int), .int .u32 (c : Int), .int .u32 (d : Int), .int .u32 (e : Int)] 28))
             clear b5 hk5)
          | (go_at_call 12
             refine (HRD.out (w5.alloc (.cells #[.int .i64 (a : Int), .int .u32 (b : Int), .int .u32 (c : Int), .int .u32 (d : Int), .int .u32 (e : Int)] 28)) (HA.out.step HB6.out) (HZ.out.step HB6.out)).mono ?_
             rintro ev w7 ⟨rfl, b7⟩
             have HB7 := Lib.hid (HB6.out.trans (b7.mono HB6.out.size))
             have HB8 := Lib.hid (HB7.out.alloc HB7.out.size (.cells #[.int .i64 0, .int .u32 0, .int .u32 0, .int .u32 0, .int .u32 0] 28))
             clear b7)
          )
        go_ret
        exact ⟨rfl, HB8.out⟩
  · rw [if_neg h1] at hwp hck
    have HCK := Lib.hid hck
    have HWP := Lib.hid hwp
    clear hwp hr2 hck h1 tok2
    by_cases hbig : 10000 < len
    · have i2 : (10000 : Int) < (len : Int) := by omega
      clear hread hl
      go_enter Tryd.func5, Tryd.ntmps5
      go_wp2_with (first
        | (go_at_call 13
           rw [HW2.out]
           refine (HAL.out w2 (HZ.out.step HB2.out)).mono ?_
           rintro ev w3 ⟨rfl, b3⟩
           have HB3 := Lib.hid (HB2.out.trans (b3.mono HB2.out.size))
           have HK03 := Lib.hid (HK0.out.below b3 HK0.out.lt)
           obtain ⟨c0, c1, c2, c3, c4⟩ := HK03.out.five
           have hcp := HWP.out w3 (HZ.out.step HB3.out)
           have HCP := Lib.hid hcp
           clear b3 hcp)
        | (go_at_call 9
           have _t := tok1
           clear _t tok1
           refine HCP.out.mono ?_
           rintro ev w4 ⟨v4, rfl, o4, b4⟩
           have HB4 := Lib.hid (HB3.out.trans (b4.mono HB3.out.size))
           have HK04 := Lib.hid (HK03.out.below b4 HK03.out.lt)
           clear c0 c1 c2 c3 c4
           obtain ⟨A4, C4, rfl, s4⟩ := own_to o4
           obtain ⟨c0, c1, c2, c3, c4⟩ := HK04.out.five
           clear s4
           clear b4 o4)
        | (go_at_call 14
           refine (HCK.out w4).mono ?_
           rintro ev w6 ⟨rfl, b6⟩
           have HB6 := Lib.hid (HB4.out.trans (b6.mono HB4.out.size))
           clear b6 c0 c1 c2 c3 c4)
        )
      go_ret
      exact ⟨rfl, HB6.out⟩
    · have i2 : ¬ (10000 : Int) < (len : Int) := by omega
      rw [readO] at hread
      by_cases h16 : s.length = 16
      · rw [if_pos h16] at hread
        obtain rfl : len = 16 := by omega
        by_cases hm : MayP (getP s)
        · rw [if_pos hm] at hread
          have hsx := bytesP_getP h16
          have hwx := fun W hz => Write_any (getP s) (wf_getP s) W hz
          rw [writeO, if_pos hm] at hwx
          obtain ⟨X, hX⟩ : ∃ X, getP s = X := ⟨_, rfl⟩
          rw [hX] at hread hsx hwx
          clear hX hm h16 hl
          obtain ⟨x0, x1, x2, x3, x4⟩ := X
          have HRD := Lib.hid hread
          have HSX := Lib.hid hsx
          have HWX := Lib.hid hwx
          clear hread hsx hwx
          go_enter Tryd.func5, Tryd.ntmps5
          go_wp2_with (first
            | (go_at_call 13
               rw [HW2.out]
               refine (HAL.out w2 (HZ.out.step HB2.out)).mono ?_
               rintro ev w3 ⟨rfl, b3⟩
               have HB3 := Lib.hid (HB2.out.trans (b3.mono HB2.out.size))
               have HK03 := Lib.hid (HK0.out.below b3 HK0.out.lt)
               obtain ⟨c0, c1, c2, c3, c4⟩ := HK03.out.five
               have hcp := HWP.out w3 (HZ.out.step HB3.out)
               have HCP := Lib.hid hcp
               clear b3 hcp)
            | (go_at_call 9
               have _t := tok1
               clear _t tok1
               refine HCP.out.mono ?_
               rintro ev w4 ⟨v4, rfl, o4, b4⟩
               have HB4 := Lib.hid (HB3.out.trans (b4.mono HB3.out.size))
               have HK04 := Lib.hid (HK03.out.below b4 HK03.out.lt)
               clear c0 c1 c2 c3 c4
               obtain ⟨A4, C4, rfl, s4⟩ := own_to o4
               obtain ⟨c0, c1, c2, c3, c4⟩ := HK04.out.five
               clear s4
               clear b4 o4)
            | (go_at_call 14
               refine (HCK.out w4).mono ?_
               rintro ev w6 ⟨rfl, b6⟩
               have HB6 := Lib.hid (HB4.out.trans (b6.mono HB4.out.size))
               clear b6 c0 c1 c2 c3 c4)
            | (go_at_call 12
               refine (HRD.out w6 (HA.out.step HB6.out) (HZ.out.step HB6.out)).mono ?_
               rintro ev w7 ⟨rfl, b7⟩
               have HB7 := Lib.hid (HB6.out.trans (b7.mono HB6.out.size))
               have HB8 := Lib.hid (HB7.out.alloc HB7.out.size (.cells #[.int .i64 x0, .int .u32 (x1 : Int), .int .u32 (x2 : Int), .int .u32 (x3 : Int), .int .u32 (x4 : Int)] 28))
               clear b7)
            | (go_at_call 9
               refine (HWX.out (w7.alloc (.cells #[.int .i64 x0, .int .u32 (x1 : Int), .int .u32 (x2 : Int), .int .u32 (x3 : Int), .int .u32 (x4 : Int)] 28)) (HZ.out.step HB8.out)).mono ?_
               rintro ev w9 ⟨v9, rfl, o9, b9⟩
               have HB9 := Lib.hid (HB8.out.trans (b9.mono HB8.out.size))
               rw [bytesP_length] at o9
               obtain ⟨A9, C9, rfl, s9⟩ := own_to o9
               have cv9 := s9.conv
               rw [HSX.out] at cv9
               have cva := (HA.out.step HB9.out).conv
               clear o9 s9 b9)
            )
          go_ret
          exact ⟨rfl, HB9.out⟩
        · rw [if_neg hm] at hread
          have HRD := Lib.hid hread
          clear hread hm h16 hl
          go_enter Tryd.func5, Tryd.ntmps5
          go_wp2_with (first
            | (go_at_call 13
               rw [HW2.out]
               refine (HAL.out w2 (HZ.out.step HB2.out)).mono ?_
               rintro ev w3 ⟨rfl, b3⟩
               have HB3 := Lib.hid (HB2.out.trans (b3.mono HB2.out.size))
               have HK03 := Lib.hid (HK0.out.below b3 HK0.out.lt)
               obtain ⟨c0, c1, c2, c3, c4⟩ := HK03.out.five
               have hcp := HWP.out w3 (HZ.out.step HB3.out)
               have HCP := Lib.hid hcp
               clear b3 hcp)
            | (go_at_call 9
               have _t := tok1
               clear _t tok1
               refine HCP.out.mono ?_
               rintro ev w4 ⟨v4, rfl, o4, b4⟩
               have HB4 := Lib.hid (HB3.out.trans (b4.mono HB3.out.size))
               have HK04 := Lib.hid (HK03.out.below b4 HK03.out.lt)
               clear c0 c1 c2 c3 c4
               obtain ⟨A4, C4, rfl, s4⟩ := own_to o4
               obtain ⟨c0, c1, c2, c3, c4⟩ := HK04.out.five
               clear s4
               clear b4 o4)
            | (go_at_call 14
               refine (HCK.out w4).mono ?_
               rintro ev w6 ⟨rfl, b6⟩
               have HB6 := Lib.hid (HB4.out.trans (b6.mono HB4.out.size))
               clear b6 c0 c1 c2 c3 c4)
            | (go_at_call 12
               refine (HRD.out w6 (HA.out.step HB6.out) (HZ.out.step HB6.out)).mono ?_
               rintro ev w7 ⟨rfl, b7⟩
               have HB7 := Lib.hid (HB6.out.trans (b7.mono HB6.out.size))
               have HB8 := Lib.hid (HB7.out.alloc HB7.out.size (.cells #[.int .i64 0, .int .u32 0, .int .u32 0, .int .u32 0, .int .u32 0] 28))
               clear b7)
            )
          go_ret
          exact ⟨rfl, HB8.out⟩
      · rw [if_neg h16] at hread
        have hne : ¬ (len : Int) = 16 := by omega
        have hne2 : ((len : Int) != 16) = true := by simpa using hne
        have HRD := Lib.hid hread
        clear hread h16 hl
        go_enter Tryd.func5, Tryd.ntmps5
        go_wp2_with (first
          | (go_at_call 13
             rw [HW2.out]
             refine (HAL.out w2 (HZ.out.step HB2.out)).mono ?_
             rintro ev w3 ⟨rfl, b3⟩
             have HB3 := Lib.hid (HB2.out.trans (b3.mono HB2.out.size))
             have HK03 := Lib.hid (HK0.out.below b3 HK0.out.lt)
             obtain ⟨c0, c1, c2, c3, c4⟩ := HK03.out.five
             have hcp := HWP.out w3 (HZ.out.step HB3.out)
             have HCP := Lib.hid hcp
             clear b3 hcp)
          | (go_at_call 9
             have _t := tok1
             clear _t tok1
             refine HCP.out.mono ?_
             rintro ev w4 ⟨v4, rfl, o4, b4⟩
             have HB4 := Lib.hid (HB3.out.trans (b4.mono HB3.out.size))
             have HK04 := Lib.hid (HK03.out.below b4 HK03.out.lt)
             clear c0 c1 c2 c3 c4
             obtain ⟨A4, C4, rfl, s4⟩ := own_to o4
             obtain ⟨c0, c1, c2, c3, c4⟩ := HK04.out.five
             clear s4
             clear b4 o4)
          | (go_at_call 14
             refine (HCK.out w4).mono ?_
             rintro ev w6 ⟨rfl, b6⟩
             have HB6 := Lib.hid (HB4.out.trans (b6.mono HB4.out.size))
             clear b6 c0 c1 c2 c3 c4)
          | (go_at_call 12
             refine (HRD.out w6 (HA.out.step HB6.out) (HZ.out.step HB6.out)).mono ?_
             rintro ev w7 ⟨rfl, b7⟩
             have HB7 := Lib.hid (HB6.out.trans (b7.mono HB6.out.size))
             have HB8 := Lib.hid (HB7.out.alloc HB7.out.size (.cells #[.int .i64 0, .int .u32 0, .int .u32 0, .int .u32 0, .int .u32 0] 28))
             clear b7)
          )
        go_ret
        exact ⟨rfl, HB8.out⟩
end Go.Proofs.YtlogglmdfnakkaaDoor
namespace Go.Proofs.YtlogglmdfnakkaaDoor.ptrBack
open Go.ChangeShapes Go.WideShapes Go.ChangeAt Go.RowKit
set_option linter.unusedVariables false

theorem own : ownKnob Tryd.prog.godebug = none := by kernel_rfl
theorem laidOut : laidOutB Tryd.prog = true := by kernel_rfl

set_option maxRecDepth 100000 in
theorem lifted (os : Os) (started : os.Started) (H : Type) (enc : TypeId × Value → H) :
    ReturnsInHanded {} Tryd.checked os 5 .any (fun w args => (Rows.ptrBackSpec.pre enc Tryd.prog Tryd.f5 [] false w args ∧ laidMetH Tryd.prog [("charterhouse/ptr.sizes", Rows.laid_charterhouse_ptr_sizes)] w) ∧ sizedMet enc Tryd.prog Tryd.f5 (OpenSpec.ofChange Rows.ptrBackSpec) false w args)
      (Rows.ptrBackSpec.post enc Tryd.prog Tryd.f5 false true false false) := by
  refine returnsInHanded_of_change_and (C := Tryd.checked) (X := fun w _ => laidMetH Tryd.prog [("charterhouse/ptr.sizes", Rows.laid_charterhouse_ptr_sizes)] w) (fun _ _ _ hh h => h.of_heap hh) own started (by kernel_rfl) Tryd.func5
    (ChangeSpec.witness_shaped (enc := enc) (C := Tryd.checked) (os := os) (X := fun w _ => laidMetH Tryd.prog [("charterhouse/ptr.sizes", Rows.laid_charterhouse_ptr_sizes)] w) false (World.doorLaid Tryd.prog 400 os) #[.agg #[.int .i64 0, .int .u32 0, .int .u32 0, .int .u32 0, .int .u32 0], .slice none 0 0] 8 rfl (World.shaped_of_RefB (by kernel_rfl) (by kernel_rfl)) (by kernel_rfl) (by kernel_rfl) (by kernel_rfl) (door_met os _)) ?_
  intro W base args ds gs before hval0 hW _ _ hL _
  have hval : ∀ (j : Nat) t v, Tryd.f5.params[j]? = some t → args[j]? = some v → Value.okWide Tryd.prog W .any base t v := hval0
  have hW' := hW
  obtain ⟨p, q, hA0, hV, rfl, hfz, hnd⟩ := hW
  have hA : DataW.TrodAll enc Tryd.prog W 0 (fun _ => true) true Tryd.f5.params.toList args.toList ds p := hA0
  rw [Tryd.params5] at hA hval
  obtain ⟨v0, vs0, d0, ds0, p0, q0, hargs, rfl, rfl, h0, r0⟩ := trodAll_cons hA
  obtain ⟨v1, vs1, d1, ds1, p1, q1, rfl, rfl, rfl, h1, r1⟩ := trodAll_cons r0
  obtain ⟨rfl, rfl, rfl⟩ := trodAll_nil r1
  obtain rfl : args = #[v0, v1] := by cases args; simp_all
  obtain ⟨rfl, rfl⟩ := trodVars_none hV
  have k0 := h0
  have lt0 : ∀ x ∈ p0, x.block < W.heap.size := by obtain ⟨m, hm⟩ := k0; exact DataW.trod_lt m _ _ _ hm
  obtain ⟨z0, rfl, w0⟩ := open_ptr (hval 0 28 v0 rfl rfl) h0
  obtain ⟨a1, len1, cap1, rfl⟩ := okWide_slice Tryd.underlying22 (hval 1 22 v1 rfl rfl)
  have k1 := h1
  have lt1 : ∀ x ∈ p1, x.block < W.heap.size := by obtain ⟨m, hm⟩ := k1; exact DataW.trod_lt m _ _ _ hm
  obtain ⟨z1, w1⟩ : ∃ zs, IsRow .u8 W a1 len1 cap1 zs := by
    obtain ⟨fuel, hf⟩ := h1
    rcases open_ints Tryd.underlying22 Tryd.underlying5 (by kernel_rfl) hf with ⟨hcs, _⟩ | ⟨x, l, c, zs, hcs, _, hl, hm, hz, _, hcell, hwz⟩
    · simp [Value.cells] at hcs
      obtain ⟨rfl, rfl, rfl⟩ := hcs
      exact ⟨[], .inl ⟨rfl, rfl, rfl, rfl⟩⟩
    · simp [Value.cells] at hcs
      obtain ⟨rfl, rfl, rfl⟩ := hcs
      exact ⟨zs, .inr ⟨_, rfl, hl, hm, by simpa using hz, hcell, hwz⟩⟩
  clear hA0 hval0
  refine (ptrBack_walk z0 a1 len1 cap1 _ W (szs_of_laid hL) w0 (bsl_of_row w1)).mono fun e W' ⟨he, bel⟩ => ?_
  subst he
  exact ⟨_, rfl, _, _, _, [], _, [], hW', trodAll_mk1 (shut_bool Tryd.underlying4 _), (trodAll_cons_mk (Below.trod laidOut (by kernel_rfl) (of_decide_eq_true (by kernel_rfl)) k0 bel lt0) (trodAll_cons_mk (Below.trod laidOut (by kernel_rfl) (of_decide_eq_true (by kernel_rfl)) k1 bel lt1) trodAll_mk0)), rfl, bel.frame _, fun h => by cases h⟩

theorem over : Rows.PtrBackSaid :=
  OpenClaim.holds_of_wide 5 Tryd.f5 rfl rfl rfl rfl rfl rfl rfl ⟨rfl, rfl, rfl, rfl, rfl⟩ rfl rfl rfl rfl rfl (by kernel_rfl) Tryd.func5 (by kernel_rfl)
    (of_decide_eq_true (by kernel_rfl)) (by unfold Func.isWrapper; first | (rw [if_pos (by decide +kernel)]; kernel_rfl) | (rw [if_neg (by decide +kernel)]; exact ⟨rfl, rfl⟩))
    (fun os started H enc _ => lifted os started H enc)

/-- The statement. -/
theorem proved : Rows.PtrBackCardSaid :=
  Claim7.holds_tied_plain_at .later [] [.data] true _ false
    over (fun _ h => by cases h) (by kernel_rfl) (fun _ h => by cases h) ptrBack_row_tie rfl ⟨rfl, rfl⟩ (by kernel_rfl) rfl
    (fun f fn hf hfn => by
      obtain rfl : f = 5 := Option.some.inj ((show Tryd.prog.funcNamed "charterhouse/charterhouselaw10.PtrBack" = some 5 by kernel_rfl).symm.trans hf) |>.symm
      obtain rfl : fn = Tryd.f5 := (Option.some.inj (Tryd.func5.symm.trans hfn)).symm
      exact ⟨by kernel_rfl, fun j t ht => by
        rw [Tryd.params5] at ht
        have hm : t ∈ [28, 22] := by simpa using Array.mem_of_getElem? ht
        have hall : ([28, 22].all fun u => !Tryd.prog.wantsStandIn u) = true := by kernel_rfl
        exact (show Tryd.prog.wantsStandIn t = false by simpa using List.all_eq_true.1 hall t hm)⟩)
    (by kernel_rfl)
end Go.Proofs.YtlogglmdfnakkaaDoor.ptrBack
