/-
  mix.turns, mix.word and mix.take: so many turns; a word of a piece; a piece taken in; nothing that was there is written.
-/
import Derived.Test.YtoednighmdoooaaTurn
import Derived.Deep.RegionHeld3
namespace Go.Proofs.Ytoednighmdoooaa
open Go.RowKit Go.Shelf
set_option maxRecDepth 100000

set_option maxHeartbeats 1000000 in
theorem turns_any (x : W4) (n : Nat) (hn : n ≤ 1000) (w : World) : Calls Try.prog 65 #[ag x, .int .i64 n] w fun e w' => e = .returned (ag (turnsW n x)) ∧ Below w.heap.size w w' := by
  have hb0 : Blk ((w.alloc (.cells (cl x) 78)).alloc (.cells #[.int .u32 0, .int .u32 0, .int .u32 0, .int .u32 0] 78)) w.heap.size 78 (cl x) := (Blk.new w _ _).alloc _
  have hr0 := Blk.new (w.alloc (.cells (cl x) 78)) 78 #[.int .u32 0, .int .u32 0, .int .u32 0, .int .u32 0]
  have hB0 : Below w.heap.size w ((w.alloc (.cells (cl x) 78)).alloc (.cells #[.int .u32 0, .int .u32 0, .int .u32 0, .int .u32 0] 78)) := ((Below.refl _ w).alloc (Nat.le_refl _) _).alloc (by simp) _
  rw [World.size_alloc] at hr0
  have HB0 := Lib.hid hb0; clear hb0
  have HR0 := Lib.hid hr0; clear hr0
  have HBe := Lib.hid hB0; clear hB0
  have hn' : (n : Int) ≤ 1000 := by omega
  go_enter Try.func65, Try.ntmps65
  go_wp2_with fail
  go_loopw [6] (fun i wr => ∃ k : Nat, k ≤ n ∧ i = .int .i64 k ∧ Blk wr w.heap.size 78 (cl (turnsW k x)) ∧ Blk wr (w.heap.size + 1) 78 #[.int .u32 0, .int .u32 0, .int .u32 0, .int .u32 0] ∧ Below w.heap.size w wr) (fun i _ => n - (intOf i).toNat)
  case atStart => exact ⟨0, Nat.zero_le _, rfl, HB0.out, HR0.out, HBe.out⟩
  case round =>
    obtain ⟨k, hk, rfl, hb, hr, hbe⟩ := hrel
    have c0 := hb.cell 0
    have c1 := hb.cell 1
    have c2 := hb.cell 2
    have c3 := hb.cell 3
    have HB := Lib.hid hb; clear hb
    have HR := Lib.hid hr; clear hr
    have HE := Lib.hid hbe; clear hbe
    by_cases hlt : k < n
    · go_wp2_with fail
      refine (turn_any _ _).mono ?_
      rintro e w1 ⟨rfl, b1⟩
      have hb1 := HB.out.below b1 HB.out.lt
      have f := fun i => hb1.frozen i
      have d0 := hb1.cell 0
      have d1 := hb1.cell 1
      have d2 := hb1.cell 2
      have d3 := hb1.cell 3
      have HB1 := Lib.hid hb1; clear hb1
      have hr1 := HR.out.below b1 HR.out.lt
      have HR1 := Lib.hid hr1; clear hr1
      have he1 := HE.out.trans (b1.mono HE.out.size)
      have HE1 := Lib.hid he1; clear he1 b1
      clear c0 c1 c2 c3
      go_wp2_with fail
      go_roundw
      case rel => exact ⟨k + 1, by omega, by go_num, HB1.out.set4 _ _ _ _, (((HR1.out.far (by simp) _).far (by simp) _).far (by simp) _).far (by simp) _, below_set4 HE1.out (Nat.le_refl _) _ _ _ _⟩
      case measure => simp [intOf]; omega
    · obtain rfl : k = n := by omega
      have d0 := HR.out.cell 0
      have d1 := HR.out.cell 1
      have d2 := HR.out.cell 2
      have d3 := HR.out.cell 3
      have f := fun i => HR.out.frozen i
      go_wp2_with fail
      have hR := HR.out.set4 (.int .u32 ((turnsW k x).a.toNat : Int)) (.int .u32 ((turnsW k x).b.toNat : Int)) (.int .u32 ((turnsW k x).c.toNat : Int)) (.int .u32 ((turnsW k x).d.toNat : Int))
      have e0 := hR.cell 0
      have e1 := hR.cell 1
      have e2 := hR.cell 2
      have e3 := hR.cell 3
      have E := below_set4 HE.out (g := w.heap.size + 1) (by omega) (.int .u32 ((turnsW k x).a.toNat : Int)) (.int .u32 ((turnsW k x).b.toNat : Int)) (.int .u32 ((turnsW k x).c.toNat : Int)) (.int .u32 ((turnsW k x).d.toNat : Int))
      clear hR
      exact bodyPost_ret (v := ag (turnsW k x)) (by simp [results, Try.results65, go_sem, e0, e1, e2, e3]) rfl ⟨rfl, E⟩

/-- The number of four bytes of a piece. -/
theorem word_any (b off cap i : Nat) (s : List UInt8) (hs : s.length = 8) (hc8 : 8 ≤ cap) (hcm : cap ≤ 9223372036854775807) (hi : i + 4 ≤ 8) (w : World) (hb : b < w.heap.size)
    (hc : ∀ i (h : i < s.length), w.cell? ⟨b, off + i, none⟩ = some (.int .u8 ((s[i]).toNat : Int))) :
    Calls Try.prog 75 #[.slice (some ⟨b, off, none⟩) 8 cap, .int .i64 i] w fun e w' => e = .returned (.int .u32 (leN ((s.drop i).take 4) : Nat)) ∧ Below w.heap.size w w' := by
  have hlt : leN ((s.drop i).take 4) < 4294967296 := by
    have h1 := leN_lt ((s.drop i).take 4)
    have h2 : ((s.drop i).take 4).length = 4 := by simp; omega
    rw [h2] at h1
    exact h1
  have hg := get_ok b off 8 cap i 4 s hs hc8 hcm (by omega) (by omega) (by omega) w hb hc
  have HG := Lib.hid hg; clear hg hc hs
  obtain ⟨m, hm⟩ : ∃ m : Nat, leN ((s.drop i).take 4) = m := ⟨_, rfl⟩
  rw [hm] at hlt HG ⊢
  clear hm
  have h0 : (0 : Int) ≤ m := by omega
  have h1 : (m : Int) ≤ 4294967295 := by omega
  go_enter Try.func75, Try.ntmps75
  go_wp2_with fail
  refine HG.out.mono ?_
  rintro e w1 ⟨rfl, b1⟩
  go_wp2_with fail
  go_ret
  exact ⟨rfl, b1⟩

set_option maxHeartbeats 2000000 in
theorem take_any (x : W4) (b off cap : Nat) (s : List UInt8) (hs : s.length = 8) (hc8 : 8 ≤ cap) (hcm : cap ≤ 9223372036854775807) (w : World) (hb : b < w.heap.size)
    (hc : ∀ i (h : i < s.length), w.cell? ⟨b, off + i, none⟩ = some (.int .u8 ((s[i]).toNat : Int))) :
    Calls Try.prog 64 #[ag x, .slice (some ⟨b, off, none⟩) 8 cap] w fun e w' => e = .returned (ag (stepW x (BitVec.ofNat 32 (leN (s.take 4))) (BitVec.ofNat 32 (leN ((s.drop 4).take 4))))) ∧ Below w.heap.size w w' := by
  have r2 := xor32
  have hb0 : Blk ((w.alloc (.cells (cl x) 78)).alloc (.cells #[.int .u32 0, .int .u32 0, .int .u32 0, .int .u32 0] 78)) w.heap.size 78 (cl x) := (Blk.new w _ _).alloc _
  have hr0 := Blk.new (w.alloc (.cells (cl x) 78)) 78 #[.int .u32 0, .int .u32 0, .int .u32 0, .int .u32 0]
  have hB0 : Below w.heap.size w ((w.alloc (.cells (cl x) 78)).alloc (.cells #[.int .u32 0, .int .u32 0, .int .u32 0, .int .u32 0] 78)) := ((Below.refl _ w).alloc (Nat.le_refl _) _).alloc (by simp) _
  rw [World.size_alloc] at hr0
  have wd : ∀ (z : Int) (i : Nat), z = i → i + 4 ≤ 8 → ∀ W, Below w.heap.size w W → Calls Try.prog 75 #[.slice (some ⟨b, off, none⟩) 8 cap, .int .i64 z] W fun e w' => e = .returned (.int .u32 ((BitVec.ofNat 32 (leN ((s.drop i).take 4))).toNat : Int)) ∧ Below W.heap.size W w' := fun z i hz hi W hW => by
    subst hz
    have e1 : (BitVec.ofNat 32 (leN ((s.drop i).take 4))).toNat = leN ((s.drop i).take 4) := by
      rw [BitVec.toNat_ofNat]
      have h1 := leN_lt ((s.drop i).take 4)
      have h2 : ((s.drop i).take 4).length = 4 := by simp; omega
      rw [h2] at h1
      exact Nat.mod_eq_of_lt h1
    rw [e1]
    exact word_any b off cap i s hs hc8 hcm hi W (Nat.lt_of_lt_of_le hb hW.size) (fun j hj => (hW.cell (p := ⟨b, off + j, none⟩) hb).trans (hc j hj))
  obtain ⟨m, hm⟩ : ∃ m, BitVec.ofNat 32 (leN (s.take 4)) = m := ⟨_, rfl⟩
  obtain ⟨n, hn⟩ : ∃ n, BitVec.ofNat 32 (leN ((s.drop 4).take 4)) = n := ⟨_, rfl⟩
  have wd0 := wd 0 0 rfl (by omega)
  have wd4 := wd 4 4 rfl (by omega)
  rw [List.drop_zero, hm] at wd0
  rw [hn] at wd4
  rw [hm, hn]
  clear hc hs wd hm hn
  have WD0 := Lib.hid wd0; clear wd0
  have WD4 := Lib.hid wd4; clear wd4
  obtain ⟨w0, hw0⟩ : ∃ w0, ((w.alloc (.cells (cl x) 78)).alloc (.cells #[.int .u32 0, .int .u32 0, .int .u32 0, .int .u32 0] 78)) = w0 := ⟨_, rfl⟩
  rw [hw0] at hb0 hr0 hB0
  have HW0 := Lib.hid hw0; clear hw0
  obtain ⟨a, bb, c, d⟩ := x
  have c0 := hb0.cell 0
  have f := fun i => hb0.frozen i
  have HB0 := Lib.hid hb0; clear hb0
  have HR0 := Lib.hid hr0; clear hr0
  have HBe := Lib.hid hB0; clear hB0
  go_enter Try.func64, Try.ntmps64
  go_wp2_with fail
  rw [HW0.out]
  go_region_with (first | (go_at_call 75; (refine (WD0.out _ ?_).mono ?_); exact HBe.out.drew; rintro e w1 ⟨rfl, b1⟩; have fr1 := (HB0.out.drew.below b1 HB0.out.lt).frozen 0; have cr1 := (HB0.out.drew.below b1 HB0.out.lt).cell 0))
  all_goals
    obtain ⟨w2, hw2⟩ : ∃ w2, w1.setCell ⟨w.heap.size, 0, none⟩ (.int .u32 ((xo a m).toNat : Int)) = w2 := ⟨_, rfl⟩
    have hb2 : Blk w2 w.heap.size 78 (cl ⟨xo a m, bb, c, d⟩) := hw2 ▸ (HB0.out.drew.below b1 HB0.out.lt).set_ 0 _
    have hr2 : Blk w2 (w.heap.size + 1) 78 #[.int .u32 0, .int .u32 0, .int .u32 0, .int .u32 0] := hw2 ▸ (HR0.out.drew.below b1 HR0.out.lt).far (by simp) _
    have he2 : Below w.heap.size w w2 := hw2 ▸ (HBe.out.drew.trans (b1.mono HBe.out.size)).setCell (p := ⟨w.heap.size, 0, none⟩) (Nat.le_refl _) _
    have HW2 := Lib.hid hw2; clear hw2
    clear b1 fr1 cr1 c0 f
    have c2 := hb2.cell 2
    have f := fun i => hb2.frozen i
    have HB2 := Lib.hid hb2; clear hb2
    have HR2 := Lib.hid hr2; clear hr2
    have HE2 := Lib.hid he2; clear he2
    rw [HW2.out]
    go_wp2_with fail
    go_region_with (first | (go_at_call 75; (refine (WD4.out _ ?_).mono ?_); exact HE2.out.drew; rintro e w3 ⟨rfl, b3⟩; have fr1 := (HB2.out.drew.below b3 HB2.out.lt).frozen 2; have cr1 := (HB2.out.drew.below b3 HB2.out.lt).cell 2))
    all_goals
      obtain ⟨w4, hw4⟩ : ∃ w4, w3.setCell ⟨w.heap.size, 2, none⟩ (.int .u32 ((xo c n).toNat : Int)) = w4 := ⟨_, rfl⟩
      have hb4 : Blk w4 w.heap.size 78 (cl ⟨xo a m, bb, xo c n, d⟩) := hw4 ▸ (HB2.out.drew.below b3 HB2.out.lt).set_ 2 _
      have hr4 : Blk w4 (w.heap.size + 1) 78 #[.int .u32 0, .int .u32 0, .int .u32 0, .int .u32 0] := hw4 ▸ (HR2.out.drew.below b3 HR2.out.lt).far (by simp) _
      have he4 : Below w.heap.size w w4 := hw4 ▸ (HE2.out.drew.trans (b3.mono HE2.out.size)).setCell (p := ⟨w.heap.size, 2, none⟩) (Nat.le_refl _) _
      have HW4 := Lib.hid hw4; clear hw4
      clear b3 fr1 cr1 c2 f
      have c0 := hb4.cell 0
      have c1 := hb4.cell 1
      have c2 := hb4.cell 2
      have c3 := hb4.cell 3
      have HB4 := Lib.hid hb4; clear hb4
      have HR4 := Lib.hid hr4; clear hr4
      have HE4 := Lib.hid he4; clear he4
      rw [HW4.out]
      go_wp2_with fail
      refine (turns_any ⟨xo a m, bb, xo c n, d⟩ 4 (by omega) _).mono ?_
      rintro e w5 ⟨rfl, b5⟩
      have hr5 := HR4.out.below b5 HR4.out.lt
      have he5 := HE4.out.trans (b5.mono HE4.out.size)
      have f := fun i => hr5.frozen i
      have d0 := hr5.cell 0
      have d1 := hr5.cell 1
      have d2 := hr5.cell 2
      have d3 := hr5.cell 3
      have HR5 := Lib.hid hr5; clear hr5
      have HE5 := Lib.hid he5; clear he5 b5
      obtain ⟨y, hy⟩ : ∃ y, turnsW 4 ⟨xo a m, bb, xo c n, d⟩ = y := ⟨_, rfl⟩
      rw [hy]
      have HY := Lib.hid hy; clear hy
      go_wp2_with fail
      have hR := HR5.out.set4 (.int .u32 (y.a.toNat : Int)) (.int .u32 (y.b.toNat : Int)) (.int .u32 (y.c.toNat : Int)) (.int .u32 (y.d.toNat : Int))
      have e0 := hR.cell 0
      have e1 := hR.cell 1
      have e2 := hR.cell 2
      have e3 := hR.cell 3
      have E := below_set4 HE5.out (g := w.heap.size + 1) (by omega) (.int .u32 (y.a.toNat : Int)) (.int .u32 (y.b.toNat : Int)) (.int .u32 (y.c.toNat : Int)) (.int .u32 (y.d.toNat : Int))
      clear hR
      exact bodyPost_ret (v := ag y) (by simp [results, Try.results64, go_sem, e0, e1, e2, e3]) rfl ⟨by rw [← HY.out]; rfl, E⟩
end Go.Proofs.Ytoednighmdoooaa
