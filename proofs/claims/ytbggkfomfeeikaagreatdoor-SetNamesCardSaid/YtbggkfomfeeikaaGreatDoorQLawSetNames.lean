/-
  SetNamesSaid: the limits and errors have their numbers, and the chapter's examples are so. No condition but the tied one: ptr.sizes reads as its own initialiser lays it.
-/
import Derived.Test.YtbggkfomfeeikaaGreatDoorPkSA5
namespace Go.Proofs.YtbggkfomfeeikaaGreatDoor
open Go.RowKit Go.Shelf
set_option maxRecDepth 100000

theorem made_walk3 {Z : List UInt8} (h : Z.length = 256) : walkSO (madeS Z) (madeR Z) 3 = ([madeR Z, madeT Z, madeP 13 5 Z], 0) := by
  rw [walkSO_may (made_may h) (made_mayR Z), made_young Z (by omega)]
  rfl
theorem made_walk5 {Z : List UInt8} (h : Z.length = 256) : walkSO (madeS Z) (madeR Z) 5 = ([], 0) := by
  rw [walkSO_may (made_may h) (made_mayR Z), made_old]
theorem made_obj2 {Z : List UInt8} (h : Z.length = 256) : objSO (madeS Z) (madeR Z) 2 = (madeO Z, 0) := by
  have e := objSO_at (n := 2) (made_may h) (made_mayR Z) (by omega) (made_row Z)
  rw [show (fillL (madeL Z)).getD 2 p0 = madeT Z from rfl, madeS_one] at e
  exact e
theorem made_obj3 {Z : List UInt8} (h : Z.length = 256) : objSO (madeS Z) (madeR Z) 3 = (ob0, 6) := by
  have e := objSO_at (n := 3) (made_may h) (made_mayR Z) (by omega) (made_row Z)
  rw [show (fillL (madeL Z)).getD 3 p0 = p0 from rfl, oneSO_none] at e
  exact e
theorem made_obj16 {Z : List UInt8} (h : Z.length = 256) : objSO (madeS Z) (madeR Z) 16 = (ob0, 2) := objSO_arg (made_may h) (made_mayR Z) (by omega)
theorem made_ptrs {Z : List UInt8} (h : Z.length = 256) : ptrsSO (madeS Z) p0 = (List.replicate 16 p0, 0) := by rw [ptrsSO_may (made_may h) may_p0, rowSO_none]
set_option linter.unusedSimpArgs false in
set_option maxHeartbeats 16000000 in
theorem setNames_walk (w : World) (hz : Szs w) : Calls Tryz.prog 3 #[] w fun e w' => e = .returned (.bool true) ∧ Below w.heap.size w w' := by
  have HAL := Lib.hid (seAlive_any w hz)
  have HZ := Lib.hid hz
  have HZ0 := Lib.hid hz
  have HB := Lib.hid (Below.refl w.heap.size w)
  clear hz
  go_enter Tryz.func3, Tryz.ntmps3
  go_wp2_with fail
  refine HAL.out.mono ?_
  rintro e w0 ⟨rfl, b0⟩
  replace HB := Lib.hid (HB.out.trans (b0.mono HB.out.size))
  replace HZ := Lib.hid (HZ.out.step b0)
  clear b0 HAL
  have HM := Lib.hid (seMade_any w0 HZ.out)
  go_wp2_with fail
  refine HM.out.mono ?_
  rintro e w1 ⟨y, Z, hl, rfl, hy, b1⟩
  have HT := Lib.hid hy
  have HLW := Lib.hid (Nat.zero_le w1.heap.size)
  replace HB := Lib.hid (HB.out.trans (b1.mono HB.out.size))
  replace HZ := Lib.hid (HZ.out.step b1)
  have HWF := Lib.hid (made_wfS (made_may hl))
  have HWP := Lib.hid (made_wfR Z)
  have h1 := made_walk3 hl
  have h2 := made_walk5 hl
  have h3 := made_obj2 hl
  have h4 := made_obj3 hl
  have h5 := made_obj16 hl
  have h6 := made_ptrs hl
  have hn1 : [madeR Z, madeT Z, madeP 13 5 Z].length = 3 := rfl
  have hn3 : (madeO Z).2.2.2.length = 15 := rfl
  have hg4 : (madeO Z).2.2.2.getD 4 p0 = madeP 13 5 Z := rfl
  have hg0 : (madeO Z).2.2.2.getD 0 p0 = madeP 12 3 Z := rfl
  have ha5 : (madeP 13 5 Z).2.1 = 5 := rfl
  have ha3 : (madeP 12 3 Z).2.1 = 3 := rfl
  obtain ⟨LA, hLA⟩ : ∃ X, [madeR Z, madeT Z, madeP 13 5 Z] = X := ⟨_, rfl⟩
  obtain ⟨⟨k3, l3, r3, M3⟩, hO3⟩ : ∃ X, madeO Z = X := ⟨_, rfl⟩
  obtain ⟨⟨k4, l4, r4, M4⟩, hO4⟩ : ∃ X, ob0 = X := ⟨_, rfl⟩
  obtain ⟨S, hS⟩ : ∃ X, madeS Z = X := ⟨_, rfl⟩
  obtain ⟨⟨pa, pb, pi, pt, ps⟩, hR⟩ : ∃ X, madeR Z = X := ⟨_, rfl⟩
  obtain ⟨⟨xa, xb, xi, xt, xs⟩, hx⟩ : ∃ X, madeP 13 5 Z = X := ⟨_, rfl⟩
  obtain ⟨⟨za, zb, zi, zt, zs⟩, hzz⟩ : ∃ X, madeP 12 3 Z = X := ⟨_, rfl⟩
  obtain ⟨L6, hL6⟩ : ∃ X, List.replicate 16 p0 = X := ⟨_, rfl⟩
  have hn6 : L6.length = 16 := by rw [← hL6]; exact List.length_replicate ..
  rw [hLA] at h1 hn1
  rw [hO3] at h3 hn3 hg4 hg0
  rw [hO4] at h4 h5
  rw [hL6] at h6
  rw [hS] at h1 h2 h3 h4 h5 h6 HT HWF ⊢
  rw [hR] at h1 h2 h3 h4 h5 HWP ⊢
  rw [hx] at hg4 ha5
  rw [hzz] at hg0 ha3
  have e5 : xb = 5 := ha5
  have e3 : zb = 3 := ha3
  subst e5 e3
  simp only at hn3 hg4 hg0
  have O1 := Lib.hid h1
  have O2 := Lib.hid h2
  have O3 := Lib.hid h3
  have O4 := Lib.hid h4
  have O5 := Lib.hid h5
  have O6 := Lib.hid h6
  have N1 := Lib.hid hn1
  have N3 := Lib.hid hn3
  have N6 := Lib.hid hn6
  have G4 := Lib.hid hg4
  have G0 := Lib.hid hg0
  clear h1 h2 h3 h4 h5 h6 hn1 hn3 hn6 hg4 hg0 ha5 ha3 hLA hO3 hO4 hS hR hx hzz hL6 hy b1 HM hl
  obtain ⟨w2, hw2, b2, _, q1, q2⟩ := two_al w1 stZ ptZ 30 32
  obtain ⟨g, hg⟩ : ∃ g, w1.heap.size = g := ⟨_, rfl⟩
  obtain ⟨g1, hg1⟩ : ∃ g1, g + 1 = g1 := ⟨_, rfl⟩
  have HGHX := Lib.hid (show w.heap.size ≤ g by have := HB.out.size; omega)
  have HGHQ := Lib.hid (show w.heap.size ≤ g1 by have := HB.out.size; omega)
  have HNE := Lib.hid (show g ≠ g1 by omega)
  rw [hg] at q1 q2
  rw [hg1] at q2
  replace HT := Lib.hid (HT.out.bel b2)
  replace HB := Lib.hid (HB.out.trans (b2.mono HB.out.size))
  replace HZ := Lib.hid (HZ.out.step b2)
  replace HLW := Lib.hid (Nat.le_trans HLW.out b2.size)
  have HX := Lib.hid q1
  have HQ := Lib.hid q2
  clear b2 q1 q2
  have m0 := stZ0 HX.out
  have m1 := stZ1 HX.out
  have m2 := stZ2 HX.out
  have m3 := stZ3 HX.out
  have m4 := stZ4 HX.out
  have mf := fun i => HX.out.frozen i
  obtain ⟨xa, ka, ba⟩ := box_five (L := 0) HX.out (by decide) (Nat.zero_le _) HB.out HGHX.out (.slice y.d.ba S.1.1.length y.d.bc) (.slice y.d.wa S.1.2.length y.d.wc) (.slice y.a S.2.1.length y.c) (.int .u32 (S.2.2.1 : Int)) (.int .u32 (S.2.2.2 : Int))
  have yHQ := far5_bl HQ.out HNE.out.symm (.slice y.d.ba S.1.1.length y.d.bc) (.slice y.d.wa S.1.2.length y.d.wc) (.slice y.a S.2.1.length y.c) (.int .u32 (S.2.2.1 : Int)) (.int .u32 (S.2.2.2 : Int))
  obtain ⟨w3, mn⟩ : ∃ X, set5 w2 g (.slice y.d.ba S.1.1.length y.d.bc) (.slice y.d.wa S.1.2.length y.d.wc) (.slice y.a S.2.1.length y.c) (.int .u32 (S.2.2.1 : Int)) (.int .u32 (S.2.2.2 : Int)) = X := ⟨_, rfl⟩
  rw [mn] at xa ka ba yHQ
  simp only [set5] at mn
  replace HT := Lib.hid (HT.out.step ka)
  replace HX := Lib.hid xa
  replace HQ := Lib.hid yHQ
  replace HB := Lib.hid ba
  clear xa ka ba yHQ
  have n0 := ptZ0 HQ.out
  have n1 := ptZ1 HQ.out
  have n2 := ptZ2 HQ.out
  have n3 := ptZ3 HQ.out
  have n4 := ptZ4 HQ.out
  have nf := fun i => HQ.out.frozen i
  obtain ⟨xa, ka, ba⟩ := box_five (L := 0) HQ.out (by decide) (Nat.zero_le _) HB.out HGHQ.out (.int .i64 pa) (.int .u32 (pb : Int)) (.int .u32 (pi : Int)) (.int .u32 (pt : Int)) (.int .u32 (ps : Int))
  have yHX := far5_bl HX.out HNE.out (.int .i64 pa) (.int .u32 (pb : Int)) (.int .u32 (pi : Int)) (.int .u32 (pt : Int)) (.int .u32 (ps : Int))
  obtain ⟨w4, nn⟩ : ∃ X, set5 w3 g1 (.int .i64 pa) (.int .u32 (pb : Int)) (.int .u32 (pi : Int)) (.int .u32 (pt : Int)) (.int .u32 (ps : Int)) = X := ⟨_, rfl⟩
  rw [nn] at xa ka ba yHX
  simp only [set5] at nn
  replace HT := Lib.hid (HT.out.step ka)
  replace HQ := Lib.hid xa
  replace HX := Lib.hid yHX
  replace HB := Lib.hid ba
  clear xa ka ba yHX
  replace HZ := Lib.hid (HZ0.out.step HB.out)
  replace HLW := Lib.hid (Nat.zero_le w4.heap.size)
  clear HZ0
  have d0 := bx0 HX.out
  have d1 := bx1 HX.out
  have d2 := bx2 HX.out
  have d3 := bx3 HX.out
  have d4 := bx4 HX.out
  have q0 := bx0 HQ.out
  have q1 := bx1 HQ.out
  have q2 := bx2 HQ.out
  have q3 := bx3 HQ.out
  have q4 := bx4 HQ.out
  simp only [stV, ptV]
  go_wp2_with fail
  clear m0 m1 m2 m3 m4 mf mn
  clear n0 n1 n2 n3 n4 nf nn
  clear hw2 hg hg1
  clear d0 d1 d2 d3 d4
  clear q0 q1 q2 q3 q4
  have hc := setWalk_any 0 y S (pa, pb, pi, pt, ps) 3 w4 HT.out HWF.out HWP.out (by omega) HLW.out HZ.out
  rw [O1.out] at hc
  have HC := Lib.hid hc
  clear hc
  refine HC.out.mono ?_
  rintro e w5 ⟨a1, c1, rfl, ht, _, bq⟩
  simp only [N1.out] at ht ⊢
  replace HT := Lib.hid (HT.out.bel bq)
  replace HB := Lib.hid (HB.out.trans (bq.mono HB.out.size))
  replace HX := Lib.hid (HX.out.below bq HX.out.lt)
  replace HQ := Lib.hid (HQ.out.below bq HQ.out.lt)
  replace HZ := Lib.hid (HZ.out.step bq)
  replace HLW := Lib.hid (Nat.le_trans HLW.out bq.size)
  have P1 := Lib.hid ht
  clear bq ht HC
  have ez : ((((0 : Nat)) : Int)) = 0 := rfl
  try rw [ez]
  clear ez
  have d0 := bx0 HX.out
  have d1 := bx1 HX.out
  have d2 := bx2 HX.out
  have d3 := bx3 HX.out
  have d4 := bx4 HX.out
  have q0 := bx0 HQ.out
  have q1 := bx1 HQ.out
  have q2 := bx2 HQ.out
  have q3 := bx3 HQ.out
  have q4 := bx4 HQ.out
  go_wp2_with fail
  clear d0 d1 d2 d3 d4
  clear q0 q1 q2 q3 q4
  have hc := setWalk_any 0 y S (pa, pb, pi, pt, ps) 5 w5 HT.out HWF.out HWP.out (by omega) HLW.out HZ.out
  rw [O2.out] at hc
  have HC := Lib.hid hc
  clear hc
  refine HC.out.mono ?_
  rintro e w6 ⟨a2, c2, rfl, ht, _, bq⟩
  simp only [List.length_nil] at ht ⊢
  replace HT := Lib.hid (HT.out.bel bq)
  replace HB := Lib.hid (HB.out.trans (bq.mono HB.out.size))
  replace HX := Lib.hid (HX.out.below bq HX.out.lt)
  replace HQ := Lib.hid (HQ.out.below bq HQ.out.lt)
  replace HZ := Lib.hid (HZ.out.step bq)
  replace P1 := Lib.hid (P1.out.step bq)
  replace HLW := Lib.hid (Nat.le_trans HLW.out bq.size)
  have P2 := Lib.hid ht
  clear bq ht HC
  have ez : ((((0 : Nat)) : Int)) = 0 := rfl
  try rw [ez]
  clear ez
  have d0 := bx0 HX.out
  have d1 := bx1 HX.out
  have d2 := bx2 HX.out
  have d3 := bx3 HX.out
  have d4 := bx4 HX.out
  have q0 := bx0 HQ.out
  have q1 := bx1 HQ.out
  have q2 := bx2 HQ.out
  have q3 := bx3 HQ.out
  have q4 := bx4 HQ.out
  go_wp2_with fail
  clear d0 d1 d2 d3 d4
  clear q0 q1 q2 q3 q4
  have hc := setObject_any 0 y S (pa, pb, pi, pt, ps) 2 w6 HT.out HWF.out HWP.out HLW.out HZ.out (by omega)
  rw [O3.out] at hc
  have HC := Lib.hid hc
  clear hc
  refine HC.out.mono ?_
  rintro e w7 ⟨a3, c3, rfl, ht, _, bq⟩
  simp only [N3.out] at ht ⊢
  replace HT := Lib.hid (HT.out.bel bq)
  replace HB := Lib.hid (HB.out.trans (bq.mono HB.out.size))
  replace HX := Lib.hid (HX.out.below bq HX.out.lt)
  replace HQ := Lib.hid (HQ.out.below bq HQ.out.lt)
  replace HZ := Lib.hid (HZ.out.step bq)
  replace P1 := Lib.hid (P1.out.step bq)
  replace P2 := Lib.hid (P2.out.step bq)
  replace HLW := Lib.hid (Nat.le_trans HLW.out bq.size)
  have P3 := Lib.hid ht
  clear bq ht HC
  have ez : ((((0 : Nat)) : Int)) = 0 := rfl
  try rw [ez]
  clear ez
  have H3 := Lib.hid (Blk.new w7 40 #[.int .u8 (k3 : Int), .int .i64 l3, .int .i64 r3, .slice a3 15 c3])
  have bq := (Below.refl w7.heap.size w7).alloc (Nat.le_refl _) (.cells #[.int .u8 (k3 : Int), .int .i64 l3, .int .i64 r3, .slice a3 15 c3] 40)
  replace HT := Lib.hid (HT.out.bel bq)
  replace HB := Lib.hid (HB.out.trans (bq.mono HB.out.size))
  replace HX := Lib.hid (HX.out.below bq HX.out.lt)
  replace HQ := Lib.hid (HQ.out.below bq HQ.out.lt)
  replace HZ := Lib.hid (HZ.out.step bq)
  replace P1 := Lib.hid (P1.out.step bq)
  replace P2 := Lib.hid (P2.out.step bq)
  replace P3 := Lib.hid (P3.out.step bq)
  replace HLW := Lib.hid (Nat.le_trans HLW.out bq.size)
  clear bq
  obtain ⟨w8, hv⟩ : ∃ X, w7.alloc (.cells #[.int .u8 (k3 : Int), .int .i64 l3, .int .i64 r3, .slice a3 15 c3] 40) = X := ⟨_, rfl⟩
  obtain ⟨g3, hg⟩ : ∃ X, w7.heap.size = X := ⟨_, rfl⟩
  rw [hv] at HT HB HZ HX HQ P1 P2 P3 H3 HLW
  rw [hg] at H3
  have d0 := bx0 HX.out
  have d1 := bx1 HX.out
  have d2 := bx2 HX.out
  have d3 := bx3 HX.out
  have d4 := bx4 HX.out
  have q0 := bx0 HQ.out
  have q1 := bx1 HQ.out
  have q2 := bx2 HQ.out
  have q3 := bx3 HQ.out
  have q4 := bx4 HQ.out
  rw [← hv] at d0 d1 d2 d3 d4 q0 q1 q2 q3 q4
  have HV := Lib.hid hv
  have HG := Lib.hid hg
  clear hv hg
  go_wp2_with fail
  rw [HV.out]
  try rw [HG.out]
  clear d0 d1 d2 d3 d4 q0 q1 q2 q3 q4 HV HG
  have hc := setObject_any 0 y S (pa, pb, pi, pt, ps) 3 w8 HT.out HWF.out HWP.out HLW.out HZ.out (by omega)
  rw [O4.out] at hc
  have HC := Lib.hid hc
  clear hc
  refine HC.out.mono ?_
  rintro e w9 ⟨a4, c4, rfl, ht, _, bq⟩
  simp only [] at ht ⊢
  replace HT := Lib.hid (HT.out.bel bq)
  replace HB := Lib.hid (HB.out.trans (bq.mono HB.out.size))
  replace HX := Lib.hid (HX.out.below bq HX.out.lt)
  replace HQ := Lib.hid (HQ.out.below bq HQ.out.lt)
  replace H3 := Lib.hid (H3.out.below bq H3.out.lt)
  replace HZ := Lib.hid (HZ.out.step bq)
  replace P3 := Lib.hid (P3.out.step bq)
  replace HLW := Lib.hid (Nat.le_trans HLW.out bq.size)
  have P4 := Lib.hid ht
  clear bq ht HC
  have ez : ((((6 : Nat)) : Int)) = 6 := rfl
  try rw [ez]
  clear ez
  have H4 := Lib.hid (Blk.new w9 40 #[.int .u8 (k4 : Int), .int .i64 l4, .int .i64 r4, .slice a4 M4.length c4])
  have bq := (Below.refl w9.heap.size w9).alloc (Nat.le_refl _) (.cells #[.int .u8 (k4 : Int), .int .i64 l4, .int .i64 r4, .slice a4 M4.length c4] 40)
  replace HT := Lib.hid (HT.out.bel bq)
  replace HB := Lib.hid (HB.out.trans (bq.mono HB.out.size))
  replace HX := Lib.hid (HX.out.below bq HX.out.lt)
  replace HQ := Lib.hid (HQ.out.below bq HQ.out.lt)
  replace H3 := Lib.hid (H3.out.below bq H3.out.lt)
  replace HZ := Lib.hid (HZ.out.step bq)
  replace P3 := Lib.hid (P3.out.step bq)
  replace HLW := Lib.hid (Nat.le_trans HLW.out bq.size)
  clear bq
  obtain ⟨w10, hv⟩ : ∃ X, w9.alloc (.cells #[.int .u8 (k4 : Int), .int .i64 l4, .int .i64 r4, .slice a4 M4.length c4] 40) = X := ⟨_, rfl⟩
  obtain ⟨g4, hg⟩ : ∃ X, w9.heap.size = X := ⟨_, rfl⟩
  rw [hv] at HT HB HZ HX HQ P3 H3 H4 HLW
  rw [hg] at H4
  have d0 := bx0 HX.out
  have d1 := bx1 HX.out
  have d2 := bx2 HX.out
  have d3 := bx3 HX.out
  have d4 := bx4 HX.out
  have q0 := bx0 HQ.out
  have q1 := bx1 HQ.out
  have q2 := bx2 HQ.out
  have q3 := bx3 HQ.out
  have q4 := bx4 HQ.out
  rw [← hv] at d0 d1 d2 d3 d4 q0 q1 q2 q3 q4
  have HV := Lib.hid hv
  have HG := Lib.hid hg
  clear hv hg
  go_wp2_with fail
  rw [HV.out]
  try rw [HG.out]
  clear d0 d1 d2 d3 d4 q0 q1 q2 q3 q4 HV HG
  have hc := setObject_any 0 y S (pa, pb, pi, pt, ps) 16 w10 HT.out HWF.out HWP.out HLW.out HZ.out (by omega)
  rw [O5.out] at hc
  have HC := Lib.hid hc
  clear hc
  refine HC.out.mono ?_
  rintro e w11 ⟨a5, c5, rfl, ht, _, bq⟩
  simp only [] at ht ⊢
  replace HT := Lib.hid (HT.out.bel bq)
  replace HB := Lib.hid (HB.out.trans (bq.mono HB.out.size))
  replace HX := Lib.hid (HX.out.below bq HX.out.lt)
  replace HQ := Lib.hid (HQ.out.below bq HQ.out.lt)
  replace H3 := Lib.hid (H3.out.below bq H3.out.lt)
  replace HZ := Lib.hid (HZ.out.step bq)
  replace P3 := Lib.hid (P3.out.step bq)
  replace HLW := Lib.hid (Nat.le_trans HLW.out bq.size)
  have P5 := Lib.hid ht
  clear bq ht HC
  have ez : ((((2 : Nat)) : Int)) = 2 := rfl
  try rw [ez]
  clear ez
  have H5 := Lib.hid (Blk.new w11 40 #[.int .u8 (k4 : Int), .int .i64 l4, .int .i64 r4, .slice a5 M4.length c5])
  have bq := (Below.refl w11.heap.size w11).alloc (Nat.le_refl _) (.cells #[.int .u8 (k4 : Int), .int .i64 l4, .int .i64 r4, .slice a5 M4.length c5] 40)
  replace HT := Lib.hid (HT.out.bel bq)
  replace HB := Lib.hid (HB.out.trans (bq.mono HB.out.size))
  replace HX := Lib.hid (HX.out.below bq HX.out.lt)
  replace HQ := Lib.hid (HQ.out.below bq HQ.out.lt)
  replace H3 := Lib.hid (H3.out.below bq H3.out.lt)
  replace HZ := Lib.hid (HZ.out.step bq)
  replace P3 := Lib.hid (P3.out.step bq)
  replace HLW := Lib.hid (Nat.le_trans HLW.out bq.size)
  clear bq
  obtain ⟨w12, hv⟩ : ∃ X, w11.alloc (.cells #[.int .u8 (k4 : Int), .int .i64 l4, .int .i64 r4, .slice a5 M4.length c5] 40) = X := ⟨_, rfl⟩
  obtain ⟨g5, hg⟩ : ∃ X, w11.heap.size = X := ⟨_, rfl⟩
  rw [hv] at HT HB HZ HX HQ P3 H3 H5 HLW
  rw [hg] at H5
  have d0 := bx0 HX.out
  have d1 := bx1 HX.out
  have d2 := bx2 HX.out
  have d3 := bx3 HX.out
  have d4 := bx4 HX.out
  rw [← hv] at d0 d1 d2 d3 d4
  have HV := Lib.hid hv
  have HG := Lib.hid hg
  clear hv hg
  go_wp2_with fail
  rw [HV.out]
  try rw [HG.out]
  clear d0 d1 d2 d3 d4 HV HG
  have hc := setPtrs_any 0 y S p0 w12 HT.out HWF.out wf_p0 HLW.out HZ.out
  rw [O6.out] at hc
  have HC := Lib.hid hc
  clear hc
  refine HC.out.mono ?_
  rintro e w13 ⟨a6, c6, rfl, ht, _, bq⟩
  simp only [N6.out] at ht ⊢
  replace HT := Lib.hid (HT.out.bel bq)
  replace HB := Lib.hid (HB.out.trans (bq.mono HB.out.size))
  replace HX := Lib.hid (HX.out.below bq HX.out.lt)
  replace HQ := Lib.hid (HQ.out.below bq HQ.out.lt)
  replace H3 := Lib.hid (H3.out.below bq H3.out.lt)
  replace HZ := Lib.hid (HZ.out.step bq)
  replace P3 := Lib.hid (P3.out.step bq)
  replace HLW := Lib.hid (Nat.le_trans HLW.out bq.size)
  have P6 := Lib.hid ht
  clear bq ht HC
  have ez : ((((0 : Nat)) : Int)) = 0 := rfl
  try rw [ez]
  clear ez
  have o3 := ox3 H3.out
  obtain ⟨b3, f3, ea, _, _, u0_, u1_, u2_, u3_, u4_⟩ := P3.out.cells 4 (by omega)
  subst ea
  obtain ⟨_, _, eb, _, _, v0_, v1_, v2_, v3_, v4_⟩ := P3.out.cells 0 (by omega)
  cases eb
  rw [G4.out] at u0_ u1_ u2_ u3_ u4_
  rw [G0.out] at v0_ v1_ v2_ v3_ v4_
  simp only [Nat.zero_mul, Nat.add_zero, Nat.reduceMul, Nat.add_assoc, Nat.reduceAdd] at u0_ u1_ u2_ u3_ u4_ v0_ v1_ v2_ v3_ v4_
  go_wp2_with fail
  go_ret
  exact ⟨rfl, HB.out⟩
end Go.Proofs.YtbggkfomfeeikaaGreatDoor
namespace Go.Proofs.YtbggkfomfeeikaaGreatDoor.setNames
open Go.ChangeShapes Go.WideShapes Go.ChangeAt Go.RowKit
set_option linter.unusedVariables false

theorem own : ownKnob Tryz.prog.godebug = none := by kernel_rfl
theorem laidOut : laidOutB Tryz.prog = true := by kernel_rfl

set_option maxRecDepth 100000 in
theorem lifted (os : Os) (started : os.Started) (H : Type) (enc : TypeId × Value → H) :
    ReturnsInHanded {} Tryz.checked os 3 .any (fun w args => (Rows.setNamesSpec.pre enc Tryz.prog Tryz.f3 [] false w args ∧ laidMetH Tryz.prog [("charterhouse/ptr.sizes", Rows.laid_charterhouse_ptr_sizes)] w) ∧ sizedMet enc Tryz.prog Tryz.f3 (OpenSpec.ofChange Rows.setNamesSpec) false w args)
      (Rows.setNamesSpec.post enc Tryz.prog Tryz.f3 false true false false) := by
  refine returnsInHanded_of_change_and (C := Tryz.checked) (X := fun w _ => laidMetH Tryz.prog [("charterhouse/ptr.sizes", Rows.laid_charterhouse_ptr_sizes)] w) (fun _ _ _ hh h => h.of_heap hh) own started (by kernel_rfl) Tryz.func3
    (ChangeSpec.witness_shaped (enc := enc) (C := Tryz.checked) (os := os) (X := fun w _ => laidMetH Tryz.prog [("charterhouse/ptr.sizes", Rows.laid_charterhouse_ptr_sizes)] w) false (World.doorLaid Tryz.prog 400 os) #[] 8 rfl (World.shaped_of_RefB (by kernel_rfl) (by kernel_rfl)) (by kernel_rfl) (by kernel_rfl) (by kernel_rfl) (door_met os _)) ?_
  intro W base args ds gs before hval0 hW _ _ hL _
  have hval : ∀ (j : Nat) t v, Tryz.f3.params[j]? = some t → args[j]? = some v → Value.okWide Tryz.prog W .any base t v := hval0
  have hW' := hW
  obtain ⟨p, q, hA0, hV, rfl, hfz, hnd⟩ := hW
  have hA : DataW.TrodAll enc Tryz.prog W 0 (fun _ => true) true Tryz.f3.params.toList args.toList ds p := hA0
  rw [Tryz.params3] at hA hval
  obtain ⟨rfl, rfl, rfl⟩ := trodAll_none hA
  obtain ⟨rfl, rfl⟩ := trodVars_none hV
  clear hA0 hval0
  refine (setNames_walk  W (szs_of_laid hL)).mono fun e W' ⟨he, bel⟩ => ?_
  subst he
  exact ⟨_, rfl, _, _, _, [], _, [], hW', trodAll_mk1 (shut_bool Tryz.underlying4 _), rfl, rfl, bel.frame _, fun h => by cases h⟩

theorem over : Rows.SetNamesSaid :=
  OpenClaim.holds_of_wide 3 Tryz.f3 rfl rfl rfl rfl rfl rfl rfl ⟨rfl, rfl, rfl, rfl, rfl⟩ rfl rfl rfl rfl rfl (by kernel_rfl) Tryz.func3 (by kernel_rfl)
    (of_decide_eq_true (by kernel_rfl)) (by unfold Func.isWrapper; first | (rw [if_pos (by decide +kernel)]; kernel_rfl) | (rw [if_neg (by decide +kernel)]; exact ⟨rfl, rfl⟩))
    (fun os started H enc _ => lifted os started H enc)

/-- The statement. -/
theorem proved : Rows.SetNamesCardSaid :=
  Claim7.holds_tied_plain_at .later [] [.data] true _ false
    over (fun _ h => by cases h) (by kernel_rfl) (fun _ h => by cases h) setNames_row_tie rfl ⟨rfl, rfl⟩ (by kernel_rfl) rfl
    (fun f fn hf hfn => by
      obtain rfl : f = 3 := Option.some.inj ((show Tryz.prog.funcNamed "charterhouse/charterhouselaw15.SetNames" = some 3 by kernel_rfl).symm.trans hf) |>.symm
      obtain rfl : fn = Tryz.f3 := (Option.some.inj (Tryz.func3.symm.trans hfn)).symm
      exact ⟨by kernel_rfl, fun j t ht => by
        rw [Tryz.params3] at ht
        simp at ht⟩)
    (by kernel_rfl)
end Go.Proofs.YtbggkfomfeeikaaGreatDoor.setNames
