/-
  SetTellsSaid: for any store, root, number and sync (where the store is great the law itself answers true) Ptrs, Object and Walk answer what the document's own answer, and the store stays. No condition but the tied one: ptr.sizes reads as its own initialiser lays it.
-/
import Derived.Test.YtbggkfomfeeikaaGreatDoorPkST5
namespace Go.Proofs.YtbggkfomfeeikaaGreatDoor
open Go.RowKit Go.Shelf
set_option maxRecDepth 100000

set_option linter.unusedSimpArgs false in
set_option maxHeartbeats 16000000 in
theorem setTells_at (x : SAt) (S : StL) (p : Pt) (n : Int) (af : Nat) (w : World) (hz : Szs w) (h : Str w w.heap.size x S) (hnear : Near S.1) (hwf : WfS S) (hwp : WfP p) (hn : -9223372036854775808 ≤ n ∧ n ≤ 9223372036854775807) (haf : af < 4294967296) : Calls Tryz.prog 4 #[stV x S, ptV p, .int .i64 n, .int .u32 (af : Int)] w fun e w' => e = .returned (.bool true) ∧ Below w.heap.size w w' := by
  have h := h.lasts (Nat.le_refl _)
  obtain ⟨L, hLe⟩ : ∃ L, w.heap.size = L := ⟨_, rfl⟩
  rw [hLe] at h
  have hL : L ≤ w.heap.size := Nat.le_of_eq hLe.symm
  clear hLe
  have af0 : (0 : Int) ≤ (af : Int) := by omega
  have af9 : (af : Int) ≤ 4294967295 := by omega
  have hn0 := hn.1
  have hn9 := hn.2
  obtain ⟨pa, pb, pi, pt, ps⟩ := p
  obtain ⟨w0, hw0, b0, z0, q1, q2⟩ := two_al w (stC x S) (ptA (pa, pb, pi, pt, ps)) 30 32
  obtain ⟨g, hg⟩ : ∃ g, w.heap.size = g := ⟨_, rfl⟩
  obtain ⟨g1, hg1⟩ : ∃ g1, g + 1 = g1 := ⟨_, rfl⟩
  rw [hg] at q1 q2
  rw [hg1] at q2
  have HX := Lib.hid q1
  have HQ := Lib.hid q2
  have HT := Lib.hid (h.bel b0)
  have HB := Lib.hid b0
  have HLW := Lib.hid (show L ≤ w0.heap.size from Nat.le_trans hL b0.size)
  simp only [stC, ptA] at hw0
  clear h b0 z0 q1 q2 hL
  have HZ := Lib.hid (hz.step HB.out)
  have HWF := Lib.hid hwf
  have HWP := Lib.hid hwp
  have HNE := Lib.hid hnear
  have HAF := Lib.hid haf
  have HNN := Lib.hid hn
  clear hwf hwp hz hnear haf hn
  have HG := Lib.hid (rtGreat_any L x S w0 HT.out HNE.out)
  have d0 := bx0 HX.out
  have d1 := bx1 HX.out
  have d2 := bx2 HX.out
  have d3 := bx3 HX.out
  have d4 := bx4 HX.out
  go_enter Tryz.func4, Tryz.ntmps4
  go_wp2_with fail
  try rw [hw0]
  try rw [hg]
  try rw [hg1]
  clear hw0 hg hg1
  clear d0 d1 d2 d3 d4
  refine HG.out.mono ?_
  rintro e w2 ⟨gr, rfl, hsm, b2⟩
  replace HX := Lib.hid (HX.out.below b2 HX.out.lt)
  replace HQ := Lib.hid (HQ.out.below b2 HQ.out.lt)
  replace HT := Lib.hid (HT.out.bel b2)
  replace HB := Lib.hid (HB.out.trans (b2.mono HB.out.size))
  replace HZ := Lib.hid (HZ.out.step b2)
  replace HLW := Lib.hid (Nat.le_trans HLW.out b2.size)
  clear b2 HG
  cases gr with
  | true =>
    go_wp2_with fail
    go_ret
    exact ⟨rfl, HB.out⟩
  | false =>
    have HSM := Lib.hid (hsm rfl)
    clear hsm
    have HTW := Lib.hid (rtTwin_any L x S w2 HT.out (small_fits HSM.out.1) (by have := HSM.out.2; omega) HLW.out)
    have d0 := bx0 HX.out
    have d1 := bx1 HX.out
    have d2 := bx2 HX.out
    have d3 := bx3 HX.out
    have d4 := bx4 HX.out
    go_wp2_with fail
    clear d0 d1 d2 d3 d4
    refine HTW.out.mono ?_
    rintro e w3 ⟨y, rfl, hy, b3⟩
    replace HX := Lib.hid (HX.out.below b3 HX.out.lt)
    replace HQ := Lib.hid (HQ.out.below b3 HQ.out.lt)
    replace HT := Lib.hid (HT.out.bel b3)
    replace HB := Lib.hid (HB.out.trans (b3.mono HB.out.size))
    replace HZ := Lib.hid (HZ.out.step b3)
    replace HLW := Lib.hid (Nat.le_trans HLW.out b3.size)
    have HY := Lib.hid (hy.any (L := L))
    clear b3 hy HTW
    obtain ⟨⟨l1, e1⟩, h1⟩ : ∃ o, ptrsSO S (pa, pb, pi, pt, ps) = o := ⟨_, rfl⟩
    obtain ⟨⟨⟨k5, l5, r5, L5⟩, e2⟩, h2⟩ : ∃ o, objSO S (pa, pb, pi, pt, ps) n = o := ⟨_, rfl⟩
    obtain ⟨⟨l3, e3⟩, h3⟩ : ∃ o, walkSO S (pa, pb, pi, pt, ps) af = o := ⟨_, rfl⟩
    have O1 := Lib.hid h1
    have O2 := Lib.hid h2
    have O3 := Lib.hid h3
    clear h1 h2 h3
    have H5 := Lib.hid (Blk.new w3 30 (stC y S))
    have bq := (Below.refl w3.heap.size w3).alloc (Nat.le_refl _) (.cells (stC y S) 30)
    replace HX := Lib.hid (HX.out.below bq HX.out.lt)
    replace HQ := Lib.hid (HQ.out.below bq HQ.out.lt)
    replace HT := Lib.hid (HT.out.bel bq)
    replace HB := Lib.hid (HB.out.trans (bq.mono HB.out.size))
    replace HY := Lib.hid (HY.out.bel bq)
    replace HZ := Lib.hid (HZ.out.step bq)
    replace HLW := Lib.hid (Nat.le_trans HLW.out bq.size)
    clear bq
    obtain ⟨w4, hv⟩ : ∃ X, w3.alloc (.cells (stC y S) 30) = X := ⟨_, rfl⟩
    obtain ⟨g5, hg⟩ : ∃ X, w3.heap.size = X := ⟨_, rfl⟩
    rw [hv] at HX HQ HT HB HZ HY H5 HLW
    rw [hg] at H5
    have d0 := bx0 H5.out
    have d1 := bx1 H5.out
    have d2 := bx2 H5.out
    have d3 := bx3 H5.out
    have d4 := bx4 H5.out
    have q0 := bx0 HQ.out
    have q1 := bx1 HQ.out
    have q2 := bx2 HQ.out
    have q3 := bx3 HQ.out
    have q4 := bx4 HQ.out
    simp only [stC] at hv
    rw [← hv] at d0 d1 d2 d3 d4 q0 q1 q2 q3 q4
    have HV := Lib.hid hv
    have HG := Lib.hid hg
    clear hv hg
    go_wp2_with fail
    rw [HV.out]
    try rw [HG.out]
    clear d0 d1 d2 d3 d4 q0 q1 q2 q3 q4 HV HG
    have hc := setPtrs_any L y S (pa, pb, pi, pt, ps) w4 HY.out HWF.out HWP.out HLW.out HZ.out
    rw [O1.out] at hc
    have HC := Lib.hid hc
    clear hc
    refine HC.out.mono ?_
    rintro e w5 ⟨a1, c1, rfl, ht, _, bq⟩
    simp only at ht ⊢
    replace HX := Lib.hid (HX.out.below bq HX.out.lt)
    replace HQ := Lib.hid (HQ.out.below bq HQ.out.lt)
    replace HT := Lib.hid (HT.out.bel bq)
    replace HB := Lib.hid (HB.out.trans (bq.mono HB.out.size))
    replace HY := Lib.hid (HY.out.bel bq)
    replace H5 := Lib.hid (H5.out.below bq H5.out.lt)
    replace HZ := Lib.hid (HZ.out.step bq)
    replace HLW := Lib.hid (Nat.le_trans HLW.out bq.size)
    have P1 := Lib.hid ht
    clear bq ht HC
    have d0 := bx0 HX.out
    have d1 := bx1 HX.out
    have d2 := bx2 HX.out
    have d3 := bx3 HX.out
    have d4 := bx4 HX.out
    have q0 := bx0 HQ.out
    have q1 := bx1 HQ.out
    have q2 := bx2 HQ.out
    have q3 := bx3 HQ.out
    have q4 := bx4 HQ.out
    go_wp2_with fail
    clear d0 d1 d2 d3 d4
    clear q0 q1 q2 q3 q4
    have hc := rsPtrs_any L x S (pa, pb, pi, pt, ps) w5 HT.out HLW.out
    rw [O1.out] at hc
    have HC := Lib.hid hc
    clear hc
    refine HC.out.mono ?_
    rintro e w6 ⟨a2, c2, rfl, ht, _, bq⟩
    simp only at ht ⊢
    replace HX := Lib.hid (HX.out.below bq HX.out.lt)
    replace HQ := Lib.hid (HQ.out.below bq HQ.out.lt)
    replace HT := Lib.hid (HT.out.bel bq)
    replace HB := Lib.hid (HB.out.trans (bq.mono HB.out.size))
    replace HY := Lib.hid (HY.out.bel bq)
    replace H5 := Lib.hid (H5.out.below bq H5.out.lt)
    replace HZ := Lib.hid (HZ.out.step bq)
    replace P1 := Lib.hid (P1.out.step bq)
    replace HLW := Lib.hid (Nat.le_trans HLW.out bq.size)
    have P2 := Lib.hid ht
    clear bq ht HC
    have d0 := bx0 H5.out
    have d1 := bx1 H5.out
    have d2 := bx2 H5.out
    have d3 := bx3 H5.out
    have d4 := bx4 H5.out
    have q0 := bx0 HQ.out
    have q1 := bx1 HQ.out
    have q2 := bx2 HQ.out
    have q3 := bx3 HQ.out
    have q4 := bx4 HQ.out
    go_wp2_with fail
    clear d0 d1 d2 d3 d4
    clear q0 q1 q2 q3 q4
    have hc := setObject_any L y S (pa, pb, pi, pt, ps) n w6 HY.out HWF.out HWP.out HLW.out HZ.out HNN.out
    rw [O2.out] at hc
    have HC := Lib.hid hc
    clear hc
    refine HC.out.mono ?_
    rintro e w7 ⟨a3, c3, rfl, ht, _, bq⟩
    simp only at ht ⊢
    replace HX := Lib.hid (HX.out.below bq HX.out.lt)
    replace HQ := Lib.hid (HQ.out.below bq HQ.out.lt)
    replace HT := Lib.hid (HT.out.bel bq)
    replace HB := Lib.hid (HB.out.trans (bq.mono HB.out.size))
    replace HY := Lib.hid (HY.out.bel bq)
    replace H5 := Lib.hid (H5.out.below bq H5.out.lt)
    replace HZ := Lib.hid (HZ.out.step bq)
    replace P1 := Lib.hid (P1.out.step bq)
    replace P2 := Lib.hid (P2.out.step bq)
    replace HLW := Lib.hid (Nat.le_trans HLW.out bq.size)
    have P3 := Lib.hid ht
    clear bq ht HC
    have H6 := Lib.hid (Blk.new w7 40 #[.int .u8 (k5 : Int), .int .i64 l5, .int .i64 r5, .slice a3 L5.length c3])
    have bq := (Below.refl w7.heap.size w7).alloc (Nat.le_refl _) (.cells #[.int .u8 (k5 : Int), .int .i64 l5, .int .i64 r5, .slice a3 L5.length c3] 40)
    replace HX := Lib.hid (HX.out.below bq HX.out.lt)
    replace HQ := Lib.hid (HQ.out.below bq HQ.out.lt)
    replace HT := Lib.hid (HT.out.bel bq)
    replace HB := Lib.hid (HB.out.trans (bq.mono HB.out.size))
    replace HY := Lib.hid (HY.out.bel bq)
    replace H5 := Lib.hid (H5.out.below bq H5.out.lt)
    replace HZ := Lib.hid (HZ.out.step bq)
    replace P1 := Lib.hid (P1.out.step bq)
    replace P2 := Lib.hid (P2.out.step bq)
    replace P3 := Lib.hid (P3.out.step bq)
    replace HLW := Lib.hid (Nat.le_trans HLW.out bq.size)
    clear bq
    obtain ⟨w8, hv⟩ : ∃ X, w7.alloc (.cells #[.int .u8 (k5 : Int), .int .i64 l5, .int .i64 r5, .slice a3 L5.length c3] 40) = X := ⟨_, rfl⟩
    obtain ⟨g6, hg⟩ : ∃ X, w7.heap.size = X := ⟨_, rfl⟩
    rw [hv] at HX HQ HT HB HZ HY H5 P1 P2 P3 H6 HLW
    rw [hg] at H6
    have d0 := bx0 HX.out
    have d1 := bx1 HX.out
    have d2 := bx2 HX.out
    have d3 := bx3 HX.out
    have d4 := bx4 HX.out
    have q0 := bx0 HQ.out
    have q1 := bx1 HQ.out
    have q2 := bx2 HQ.out
    have q3 := bx3 HQ.out
    have q4 := bx4 HQ.out
    rw [← hv] at d0 d1 d2 d3 d4 q0 q1 q2 q3 q4
    have HV := Lib.hid hv
    have HG := Lib.hid hg
    clear hv hg
    go_wp2_with fail
    rw [HV.out]
    try rw [HG.out]
    clear d0 d1 d2 d3 d4 q0 q1 q2 q3 q4 HV HG
    have hc := rsObject_any L x S (pa, pb, pi, pt, ps) n w8 HT.out HLW.out HNN.out
    rw [O2.out] at hc
    have HC := Lib.hid hc
    clear hc
    refine HC.out.mono ?_
    rintro e w9 ⟨a4, c4, rfl, ht, _, bq⟩
    simp only at ht ⊢
    replace HX := Lib.hid (HX.out.below bq HX.out.lt)
    replace HQ := Lib.hid (HQ.out.below bq HQ.out.lt)
    replace HT := Lib.hid (HT.out.bel bq)
    replace HB := Lib.hid (HB.out.trans (bq.mono HB.out.size))
    replace HY := Lib.hid (HY.out.bel bq)
    replace H5 := Lib.hid (H5.out.below bq H5.out.lt)
    replace H6 := Lib.hid (H6.out.below bq H6.out.lt)
    replace HZ := Lib.hid (HZ.out.step bq)
    replace P1 := Lib.hid (P1.out.step bq)
    replace P2 := Lib.hid (P2.out.step bq)
    replace P3 := Lib.hid (P3.out.step bq)
    replace HLW := Lib.hid (Nat.le_trans HLW.out bq.size)
    have P4 := Lib.hid ht
    clear bq ht HC
    have H7 := Lib.hid (Blk.new w9 40 #[.int .u8 (k5 : Int), .int .i64 l5, .int .i64 r5, .slice a4 L5.length c4])
    have bq := (Below.refl w9.heap.size w9).alloc (Nat.le_refl _) (.cells #[.int .u8 (k5 : Int), .int .i64 l5, .int .i64 r5, .slice a4 L5.length c4] 40)
    replace HX := Lib.hid (HX.out.below bq HX.out.lt)
    replace HQ := Lib.hid (HQ.out.below bq HQ.out.lt)
    replace HT := Lib.hid (HT.out.bel bq)
    replace HB := Lib.hid (HB.out.trans (bq.mono HB.out.size))
    replace HY := Lib.hid (HY.out.bel bq)
    replace H5 := Lib.hid (H5.out.below bq H5.out.lt)
    replace H6 := Lib.hid (H6.out.below bq H6.out.lt)
    replace HZ := Lib.hid (HZ.out.step bq)
    replace P1 := Lib.hid (P1.out.step bq)
    replace P2 := Lib.hid (P2.out.step bq)
    replace P3 := Lib.hid (P3.out.step bq)
    replace P4 := Lib.hid (P4.out.step bq)
    replace HLW := Lib.hid (Nat.le_trans HLW.out bq.size)
    clear bq
    obtain ⟨w10, hv⟩ : ∃ X, w9.alloc (.cells #[.int .u8 (k5 : Int), .int .i64 l5, .int .i64 r5, .slice a4 L5.length c4] 40) = X := ⟨_, rfl⟩
    obtain ⟨g7, hg⟩ : ∃ X, w9.heap.size = X := ⟨_, rfl⟩
    rw [hv] at HX HQ HT HB HZ HY H5 P1 P2 P3 H6 P4 H7 HLW
    rw [hg] at H7
    have d0 := bx0 H5.out
    have d1 := bx1 H5.out
    have d2 := bx2 H5.out
    have d3 := bx3 H5.out
    have d4 := bx4 H5.out
    have q0 := bx0 HQ.out
    have q1 := bx1 HQ.out
    have q2 := bx2 HQ.out
    have q3 := bx3 HQ.out
    have q4 := bx4 HQ.out
    rw [← hv] at d0 d1 d2 d3 d4 q0 q1 q2 q3 q4
    have HV := Lib.hid hv
    have HG := Lib.hid hg
    clear hv hg
    go_wp2_with fail
    rw [HV.out]
    try rw [HG.out]
    clear d0 d1 d2 d3 d4 q0 q1 q2 q3 q4 HV HG
    have hc := setWalk_any L y S (pa, pb, pi, pt, ps) af w10 HY.out HWF.out HWP.out HAF.out HLW.out HZ.out
    rw [O3.out] at hc
    have HC := Lib.hid hc
    clear hc
    refine HC.out.mono ?_
    rintro e w11 ⟨a5, c5, rfl, ht, _, bq⟩
    simp only at ht ⊢
    replace HX := Lib.hid (HX.out.below bq HX.out.lt)
    replace HQ := Lib.hid (HQ.out.below bq HQ.out.lt)
    replace HT := Lib.hid (HT.out.bel bq)
    replace HB := Lib.hid (HB.out.trans (bq.mono HB.out.size))
    replace HY := Lib.hid (HY.out.bel bq)
    replace H5 := Lib.hid (H5.out.below bq H5.out.lt)
    replace H6 := Lib.hid (H6.out.below bq H6.out.lt)
    replace H7 := Lib.hid (H7.out.below bq H7.out.lt)
    replace HZ := Lib.hid (HZ.out.step bq)
    replace P1 := Lib.hid (P1.out.step bq)
    replace P2 := Lib.hid (P2.out.step bq)
    replace P3 := Lib.hid (P3.out.step bq)
    replace P4 := Lib.hid (P4.out.step bq)
    replace HLW := Lib.hid (Nat.le_trans HLW.out bq.size)
    have P5 := Lib.hid ht
    clear bq ht HC
    have d0 := bx0 HX.out
    have d1 := bx1 HX.out
    have d2 := bx2 HX.out
    have d3 := bx3 HX.out
    have d4 := bx4 HX.out
    have q0 := bx0 HQ.out
    have q1 := bx1 HQ.out
    have q2 := bx2 HQ.out
    have q3 := bx3 HQ.out
    have q4 := bx4 HQ.out
    go_wp2_with fail
    clear d0 d1 d2 d3 d4
    clear q0 q1 q2 q3 q4
    have hc := rsWalk_any L x S (pa, pb, pi, pt, ps) af w11 HT.out HWP.out HAF.out HLW.out
    rw [O3.out] at hc
    have HC := Lib.hid hc
    clear hc
    refine HC.out.mono ?_
    rintro e w12 ⟨a6, c6, rfl, ht, _, bq⟩
    simp only at ht ⊢
    replace HX := Lib.hid (HX.out.below bq HX.out.lt)
    replace HQ := Lib.hid (HQ.out.below bq HQ.out.lt)
    replace HT := Lib.hid (HT.out.bel bq)
    replace HB := Lib.hid (HB.out.trans (bq.mono HB.out.size))
    replace HY := Lib.hid (HY.out.bel bq)
    replace H5 := Lib.hid (H5.out.below bq H5.out.lt)
    replace H6 := Lib.hid (H6.out.below bq H6.out.lt)
    replace H7 := Lib.hid (H7.out.below bq H7.out.lt)
    replace HZ := Lib.hid (HZ.out.step bq)
    replace P1 := Lib.hid (P1.out.step bq)
    replace P2 := Lib.hid (P2.out.step bq)
    replace P3 := Lib.hid (P3.out.step bq)
    replace P4 := Lib.hid (P4.out.step bq)
    replace P5 := Lib.hid (P5.out.step bq)
    replace HLW := Lib.hid (Nat.le_trans HLW.out bq.size)
    have P6 := Lib.hid ht
    clear bq ht HC
    go_wp2_with fail
    have HC := Lib.hid (rpSame_any a1 l1.length c1 l1 a2 l1.length c2 l1 w12 P1.out P2.out)
    refine HC.out.mono ?_
    rintro e w13 ⟨rfl, bq⟩
    replace HX := Lib.hid (HX.out.below bq HX.out.lt)
    replace HQ := Lib.hid (HQ.out.below bq HQ.out.lt)
    replace HT := Lib.hid (HT.out.bel bq)
    replace HB := Lib.hid (HB.out.trans (bq.mono HB.out.size))
    replace HY := Lib.hid (HY.out.bel bq)
    replace H5 := Lib.hid (H5.out.below bq H5.out.lt)
    replace H6 := Lib.hid (H6.out.below bq H6.out.lt)
    replace H7 := Lib.hid (H7.out.below bq H7.out.lt)
    replace HZ := Lib.hid (HZ.out.step bq)
    replace P1 := Lib.hid (P1.out.step bq)
    replace P2 := Lib.hid (P2.out.step bq)
    replace P3 := Lib.hid (P3.out.step bq)
    replace P4 := Lib.hid (P4.out.step bq)
    replace P5 := Lib.hid (P5.out.step bq)
    replace P6 := Lib.hid (P6.out.step bq)
    replace HLW := Lib.hid (Nat.le_trans HLW.out bq.size)
    clear bq HC
    rw [decide_eq_true (show l1 = l1 from rfl)]
    have d0 := ox0 H6.out
    have d1 := ox1 H6.out
    have d2 := ox2 H6.out
    have d3 := ox3 H6.out
    have q0 := ox0 H7.out
    have q1 := ox1 H7.out
    have q2 := ox2 H7.out
    have q3 := ox3 H7.out
    have f1 : ((e1 : Int) == e1) = true := by simp
    go_wp2_with fail
    clear f1 d0 q0 d1 q1 d2 q2 d3 q3
    have HC := Lib.hid (roSame_any a3 c3 (k5, l5, r5, L5) a4 c4 (k5, l5, r5, L5) w13 P3.out P4.out true (by simp))
    refine HC.out.mono ?_
    rintro e w14 ⟨rfl, bq⟩
    replace HX := Lib.hid (HX.out.below bq HX.out.lt)
    replace HQ := Lib.hid (HQ.out.below bq HQ.out.lt)
    replace HT := Lib.hid (HT.out.bel bq)
    replace HB := Lib.hid (HB.out.trans (bq.mono HB.out.size))
    replace HY := Lib.hid (HY.out.bel bq)
    replace H5 := Lib.hid (H5.out.below bq H5.out.lt)
    replace H6 := Lib.hid (H6.out.below bq H6.out.lt)
    replace H7 := Lib.hid (H7.out.below bq H7.out.lt)
    replace HZ := Lib.hid (HZ.out.step bq)
    replace P1 := Lib.hid (P1.out.step bq)
    replace P2 := Lib.hid (P2.out.step bq)
    replace P3 := Lib.hid (P3.out.step bq)
    replace P4 := Lib.hid (P4.out.step bq)
    replace P5 := Lib.hid (P5.out.step bq)
    replace P6 := Lib.hid (P6.out.step bq)
    replace HLW := Lib.hid (Nat.le_trans HLW.out bq.size)
    clear bq HC
    have f2 : ((e2 : Int) == e2) = true := by simp
    go_wp2_with fail
    clear f2
    have HC := Lib.hid (rpSame_any a5 l3.length c5 l3 a6 l3.length c6 l3 w14 P5.out P6.out)
    refine HC.out.mono ?_
    rintro e w15 ⟨rfl, bq⟩
    replace HX := Lib.hid (HX.out.below bq HX.out.lt)
    replace HQ := Lib.hid (HQ.out.below bq HQ.out.lt)
    replace HT := Lib.hid (HT.out.bel bq)
    replace HB := Lib.hid (HB.out.trans (bq.mono HB.out.size))
    replace HY := Lib.hid (HY.out.bel bq)
    replace H5 := Lib.hid (H5.out.below bq H5.out.lt)
    replace H6 := Lib.hid (H6.out.below bq H6.out.lt)
    replace H7 := Lib.hid (H7.out.below bq H7.out.lt)
    replace HZ := Lib.hid (HZ.out.step bq)
    replace P1 := Lib.hid (P1.out.step bq)
    replace P2 := Lib.hid (P2.out.step bq)
    replace P3 := Lib.hid (P3.out.step bq)
    replace P4 := Lib.hid (P4.out.step bq)
    replace P5 := Lib.hid (P5.out.step bq)
    replace P6 := Lib.hid (P6.out.step bq)
    replace HLW := Lib.hid (Nat.le_trans HLW.out bq.size)
    clear bq HC
    rw [decide_eq_true (show l3 = l3 from rfl)]
    have d0 := bx0 H5.out
    have d1 := bx1 H5.out
    have d2 := bx2 H5.out
    have d3 := bx3 H5.out
    have d4 := bx4 H5.out
    have m0 := bx0 HX.out
    have m1 := bx1 HX.out
    have m2 := bx2 HX.out
    have m3 := bx3 HX.out
    have m4 := bx4 HX.out
    have f3 : ((e3 : Int) == e3) = true := by simp
    go_wp2_with fail
    clear f3
    clear d0 d1 d2 d3 d4
    clear m0 m1 m2 m3 m4
    have HC := Lib.hid (rtSame_any L y x S S w15 HY.out HT.out ⟨by have := HSM.out.1.1; omega, by have := HSM.out.1.2.2.1; omega⟩ true (by simp))
    refine HC.out.mono ?_
    rintro e w16 ⟨rfl, bq⟩
    replace HX := Lib.hid (HX.out.below bq HX.out.lt)
    replace HQ := Lib.hid (HQ.out.below bq HQ.out.lt)
    replace HT := Lib.hid (HT.out.bel bq)
    replace HB := Lib.hid (HB.out.trans (bq.mono HB.out.size))
    replace HY := Lib.hid (HY.out.bel bq)
    replace H5 := Lib.hid (H5.out.below bq H5.out.lt)
    replace H6 := Lib.hid (H6.out.below bq H6.out.lt)
    replace H7 := Lib.hid (H7.out.below bq H7.out.lt)
    replace HZ := Lib.hid (HZ.out.step bq)
    replace P1 := Lib.hid (P1.out.step bq)
    replace P2 := Lib.hid (P2.out.step bq)
    replace P3 := Lib.hid (P3.out.step bq)
    replace P4 := Lib.hid (P4.out.step bq)
    replace P5 := Lib.hid (P5.out.step bq)
    replace P6 := Lib.hid (P6.out.step bq)
    replace HLW := Lib.hid (Nat.le_trans HLW.out bq.size)
    clear bq HC
    go_wp2_with fail
    go_ret
    exact ⟨rfl, HB.out⟩
theorem setTells_walk (x : SAt) (S : StL) (p : Pt) (n a : Int) (w : World) (hz : Szs w) (h : Str w w.heap.size x S) (hnear : Near S.1) (hwf : WfS S) (hwp : WfP p) (hn : (Lit.int .i64 n).wf = true) (ha : (Lit.int .u32 a).wf = true) : Calls Tryz.prog 4 #[stV x S, ptV p, .int .i64 n, .int .u32 a] w fun e w' => e = .returned (.bool true) ∧ Below w.heap.size w w' := by
  obtain ⟨m, rfl, hm⟩ := u32_wf ha
  exact setTells_at x S p n m w hz h hnear hwf hwp (i64_wf hn) hm
end Go.Proofs.YtbggkfomfeeikaaGreatDoor
namespace Go.Proofs.YtbggkfomfeeikaaGreatDoor.setTells
open Go.ChangeShapes Go.WideShapes Go.ChangeAt Go.RowKit
set_option linter.unusedVariables false

theorem own : ownKnob Tryz.prog.godebug = none := by kernel_rfl
theorem laidOut : laidOutB Tryz.prog = true := by kernel_rfl

set_option maxRecDepth 100000 in
theorem lifted (os : Os) (started : os.Started) (H : Type) (enc : TypeId × Value → H) :
    ReturnsInHanded {} Tryz.checked os 4 .any (fun w args => (Rows.setTellsSpec.pre enc Tryz.prog Tryz.f4 [] false w args ∧ laidMetH Tryz.prog [("charterhouse/ptr.sizes", Rows.laid_charterhouse_ptr_sizes)] w) ∧ sizedMet enc Tryz.prog Tryz.f4 (OpenSpec.ofChange Rows.setTellsSpec) false w args)
      (Rows.setTellsSpec.post enc Tryz.prog Tryz.f4 false true false false) := by
  refine returnsInHanded_of_change_and (C := Tryz.checked) (X := fun w _ => laidMetH Tryz.prog [("charterhouse/ptr.sizes", Rows.laid_charterhouse_ptr_sizes)] w) (fun _ _ _ hh h => h.of_heap hh) own started (by kernel_rfl) Tryz.func4
    (ChangeSpec.witness_shaped (enc := enc) (C := Tryz.checked) (os := os) (X := fun w _ => laidMetH Tryz.prog [("charterhouse/ptr.sizes", Rows.laid_charterhouse_ptr_sizes)] w) false (World.doorLaid Tryz.prog 400 os) #[.agg #[.slice none 0 0, .slice none 0 0, .slice none 0 0, .int .u32 0, .int .u32 0], .agg #[.int .i64 0, .int .u32 0, .int .u32 0, .int .u32 0, .int .u32 0], .int .i64 0, .int .u32 0] 8 rfl (World.shaped_of_RefB (by kernel_rfl) (by kernel_rfl)) (by kernel_rfl) (by kernel_rfl) (by kernel_rfl) (door_met os _)) ?_
  intro W base args ds gs before hval0 hW _ hsz hL _
  have hval : ∀ (j : Nat) t v, Tryz.f4.params[j]? = some t → args[j]? = some v → Value.okWide Tryz.prog W .any base t v := hval0
  have hW' := hW
  obtain ⟨p, q, hA0, hV, rfl, hfz, hnd⟩ := hW
  have hA : DataW.TrodAll enc Tryz.prog W 0 (fun _ => true) true Tryz.f4.params.toList args.toList ds p := hA0
  rw [Tryz.params4] at hA hval
  obtain ⟨v0, vs0, d0, ds0, p0, q0, hargs, rfl, rfl, h0, r0⟩ := trodAll_cons hA
  obtain ⟨v1, vs1, d1, ds1, p1, q1, rfl, rfl, rfl, h1, r1⟩ := trodAll_cons r0
  obtain ⟨v2, vs2, d2, ds2, p2, q2, rfl, rfl, rfl, h2, r2⟩ := trodAll_cons r1
  obtain ⟨v3, vs3, d3, ds3, p3, q3, rfl, rfl, rfl, h3, r3⟩ := trodAll_cons r2
  obtain ⟨rfl, rfl, rfl⟩ := trodAll_nil r3
  obtain rfl : args = #[v0, v1, v2, v3] := by cases args; simp_all
  obtain ⟨rfl, rfl⟩ := trodVars_none hV
  have k0 := h0
  have lt0 : ∀ x ∈ p0, x.block < W.heap.size := by obtain ⟨m, hm⟩ := k0; exact DataW.trod_lt m _ _ _ hm
  obtain ⟨x0, S0, rfl, w0, m0, f0⟩ := open_store (hval 0 30 v0 rfl rfl) h0 (fun n hn => by
    have := List.all_eq_true.1 hsz n (DataW.weights_mem_each (j := 0) (t := 30) (by kernel_rfl) rfl n hn)
    simpa using this)
  have k1 := h1
  have lt1 : ∀ x ∈ p1, x.block < W.heap.size := by obtain ⟨m, hm⟩ := k1; exact DataW.trod_lt m _ _ _ hm
  obtain ⟨z1, rfl, w1⟩ := open_ptr (hval 1 32 v1 rfl rfl) h1
  obtain ⟨a2, rfl, rfl, rfl, w2⟩ := open_int Tryz.underlying3 (hval 2 3 v2 rfl rfl) h2
  obtain ⟨a3, rfl, rfl, rfl, w3⟩ := open_int Tryz.underlying28 (hval 3 28 v3 rfl rfl) h3
  clear hA0 hval0
  refine (setTells_walk x0 S0 z1 a2 a3 W (szs_of_laid hL) w0 m0 f0 w1 w2 w3).mono fun e W' ⟨he, bel⟩ => ?_
  subst he
  exact ⟨_, rfl, _, _, _, [], _, [], hW', trodAll_mk1 (shut_bool Tryz.underlying4 _), (trodAll_cons_mk (Below.trod laidOut (by kernel_rfl) (of_decide_eq_true (by kernel_rfl)) k0 bel lt0) (trodAll_cons_mk (Below.trod laidOut (by kernel_rfl) (of_decide_eq_true (by kernel_rfl)) k1 bel lt1) (trodAll_cons_mk (shut_int Tryz.underlying3 w2) (trodAll_cons_mk (shut_int Tryz.underlying28 w3) trodAll_mk0)))), rfl, bel.frame _, fun h => by cases h⟩

theorem over : Rows.SetTellsSaid :=
  OpenClaim.holds_of_wide 4 Tryz.f4 rfl rfl rfl rfl rfl rfl rfl ⟨rfl, rfl, rfl, rfl, rfl⟩ rfl rfl rfl rfl rfl (by kernel_rfl) Tryz.func4 (by kernel_rfl)
    (of_decide_eq_true (by kernel_rfl)) (by unfold Func.isWrapper; first | (rw [if_pos (by decide +kernel)]; kernel_rfl) | (rw [if_neg (by decide +kernel)]; exact ⟨rfl, rfl⟩))
    (fun os started H enc _ => lifted os started H enc)

/-- The statement. -/
theorem proved : Rows.SetTellsCardSaid :=
  Claim7.holds_tied_plain_at .later [] [.data] true _ false
    over (fun _ h => by cases h) (by kernel_rfl) (fun _ h => by cases h) setTells_row_tie rfl ⟨rfl, rfl⟩ (by kernel_rfl) rfl
    (fun f fn hf hfn => by
      obtain rfl : f = 4 := Option.some.inj ((show Tryz.prog.funcNamed "charterhouse/charterhouselaw15.SetTells" = some 4 by kernel_rfl).symm.trans hf) |>.symm
      obtain rfl : fn = Tryz.f4 := (Option.some.inj (Tryz.func4.symm.trans hfn)).symm
      exact ⟨by kernel_rfl, fun j t ht => by
        rw [Tryz.params4] at ht
        have hm : t ∈ [30, 32, 3, 28] := by simpa using Array.mem_of_getElem? ht
        have hall : ([30, 32, 3, 28].all fun u => !Tryz.prog.wantsStandIn u) = true := by kernel_rfl
        exact (show Tryz.prog.wantsStandIn t = false by simpa using List.all_eq_true.1 hall t hm)⟩)
    (by kernel_rfl)
end Go.Proofs.YtbggkfomfeeikaaGreatDoor.setTells
