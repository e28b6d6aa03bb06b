/-
  StoreReadsSaid: for any two stores, pointer and key (where they are great the law itself answers true) stores are checked, compared, copied, blocks looked at, opened and given up as the document's own do it; what was handed in stays where what was answered is turned. No condition.
-/
import Derived.Test.YtdpmdlibgabjaaaGreatRows
import Derived.Test.YtdpmdlibgabjaaaGreatPkSZ6
namespace Go.Proofs.YtdpmdlibgabjaaaGreat
open Go.RowKit Go.Shelf
set_option maxRecDepth 100000

/-- The three boxes that the law compares. -/
def Box3 (g1 g2 g3 : Nat) (c1 c2 c3 : Array Value) (X : World) : Prop := Blk X g1 29 c1 ∧ Blk X g2 29 c2 ∧ Blk X g3 29 c3
set_option maxHeartbeats 32000000 in
theorem storeReads_at (x : SAt) (S : StL) (x2 : SAt) (S2 : StL) (p : Pt) (B : Option Addr) (ck : Nat) (key : List UInt8) (w : World) (h : Str w w.heap.size x S) (hnear : Near S.1) (hwf : WfS S) (h2 : Str w w.heap.size x2 S2) (hnear2 : Near S2.1) (_hwf2 : WfS S2) (hwp : WfP p) (hK : Bsl w w.heap.size B key.length ck key) :
    Calls Tryz.prog 4 #[stV x S, stV x2 S2, ptV p, .slice B key.length ck] w fun e w' => e = .returned (.bool true) ∧ Below w.heap.size w w' := by
  have hmx : Tryz.prog.follows Departure.mixedOrders = true := by kernel_rfl
  have h1 := h.lasts (Nat.le_refl _)
  have h3 := h2.lasts (Nat.le_refl _)
  have HST := Lib.hid h
  have lk9 := hK.len_le
  have lk0 : (0 : Int) ≤ key.length := by omega
  obtain ⟨L, hL⟩ : ∃ L, w.heap.size = L := ⟨_, rfl⟩
  rw [hL] at h1 h3
  obtain ⟨w0, hw0, b0, z0, q1, q2, q3⟩ := three_al w (stC x S) (stC x2 S2) (ptA p) 29 29 33
  obtain ⟨g, hg⟩ : ∃ g, w.heap.size = g := ⟨_, rfl⟩
  obtain ⟨g1, hg1⟩ : ∃ g1, g + 1 = g1 := ⟨_, rfl⟩
  obtain ⟨g2, hg2⟩ : ∃ g2, g1 + 1 = g2 := ⟨_, rfl⟩
  rw [hg] at q1 q2 q3
  rw [hg1] at q2
  rw [show g + 2 = g1 + 1 by omega, hg2] at q3
  have HX := Lib.hid q1
  have HX2 := Lib.hid q2
  have HQ := Lib.hid q3
  have HT := Lib.hid (h1.bel b0)
  have HT2 := Lib.hid (h3.bel b0)
  have HLW := Lib.hid (show L ≤ w0.heap.size by rw [← hL]; exact b0.size)
  have HB := Lib.hid b0
  have HN := Lib.hid hnear
  have HN2 := Lib.hid hnear2
  have HWF := Lib.hid hwf
  have HWP := Lib.hid hwp
  have HKY := Lib.hid (hK.step b0)
  simp only [stC, ptA] at hw0
  clear h h1 h2 h3 hL b0 z0 q1 q2 q3 hnear hnear2 hwf hwp hK
  have HGR := Lib.hid (rtGreat_any L x S w0 HT.out HN.out)
  have d0 := bx0 HX.out
  have d1 := bx1 HX.out
  have d2 := bx2 HX.out
  have d3 := bx3 HX.out
  have d4 := bx4 HX.out
  go_enter Tryz.func4, Tryz.ntmps4
  go_wp2_with fail
  try rw [hw0]
  try rw [hg]
  try rw [hg1]
  try rw [hg2]
  clear hw0 hg hg1 hg2
  clear d0 d1 d2 d3 d4
  refine HGR.out.mono ?_
  rintro e w1 ⟨gr, rfl, hsm, b2⟩
  replace HX := Lib.hid (HX.out.below b2 HX.out.lt)
  replace HX2 := Lib.hid (HX2.out.below b2 HX2.out.lt)
  replace HQ := Lib.hid (HQ.out.below b2 HQ.out.lt)
  replace HT := Lib.hid (HT.out.bel b2)
  replace HT2 := Lib.hid (HT2.out.bel b2)
  replace HKY := Lib.hid (HKY.out.step b2)
  replace HB := Lib.hid (HB.out.trans (b2.mono HB.out.size))
  replace HLW := Lib.hid (Nat.le_trans HLW.out b2.size)
  clear b2 HGR
  cases gr with
  | true =>
    go_wp2_with fail
    go_ret
    exact ⟨rfl, HB.out⟩
  | false =>
    have HOK := Lib.hid (show OkS S from ⟨small_fits (hsm rfl).1, by have := (hsm rfl).2; omega, HWF.out⟩)
    have HSM := Lib.hid (hsm rfl)
    clear hsm
    have HGR := Lib.hid (rtGreat_any L x2 S2 w1 HT2.out HN2.out)
    have d0 := bx0 HX2.out
    have d1 := bx1 HX2.out
    have d2 := bx2 HX2.out
    have d3 := bx3 HX2.out
    have d4 := bx4 HX2.out
    go_wp2_with fail
    clear d0 d1 d2 d3 d4
    refine HGR.out.mono ?_
    rintro e w2 ⟨gr, rfl, hsm, b2⟩
    replace HX := Lib.hid (HX.out.below b2 HX.out.lt)
    replace HX2 := Lib.hid (HX2.out.below b2 HX2.out.lt)
    replace HQ := Lib.hid (HQ.out.below b2 HQ.out.lt)
    replace HT := Lib.hid (HT.out.bel b2)
    replace HT2 := Lib.hid (HT2.out.bel b2)
    replace HKY := Lib.hid (HKY.out.step b2)
    replace HB := Lib.hid (HB.out.trans (b2.mono HB.out.size))
    replace HLW := Lib.hid (Nat.le_trans HLW.out b2.size)
    clear b2 HGR hsm
    cases gr with
    | true =>
      go_wp2_with fail
      go_ret
      exact ⟨rfl, HB.out⟩
    | false =>
      by_cases h1 : (10000 : Int) < key.length
      · go_wp2_with fail
        go_ret
        exact ⟨rfl, HB.out⟩
      · have HTW := Lib.hid (rtTwin_any L x S w2 HT.out HOK.out.1 (by have := HSM.out.2; omega) HLW.out)
        have d0 := bx0 HX.out
        have d1 := bx1 HX.out
        have d2 := bx2 HX.out
        have d3 := bx3 HX.out
        have d4 := bx4 HX.out
        go_wp2_with fail
        clear d0 d1 d2 d3 d4
        clear h1
        refine HTW.out.mono ?_
        rintro e w3 ⟨y, rfl, hy, b3⟩
        replace HX := Lib.hid (HX.out.below b3 HX.out.lt)
        replace HX2 := Lib.hid (HX2.out.below b3 HX2.out.lt)
        replace HQ := Lib.hid (HQ.out.below b3 HQ.out.lt)
        replace HT := Lib.hid (HT.out.bel b3)
        replace HT2 := Lib.hid (HT2.out.bel b3)
        replace HKY := Lib.hid (HKY.out.step b3)
        replace HB := Lib.hid (HB.out.trans (b3.mono HB.out.size))
        replace HLW := Lib.hid (Nat.le_trans HLW.out b3.size)
        have HY := Lib.hid hy
        clear b3 hy HTW
        have H5 := Lib.hid (Blk.new w3 29 (stC y S))
        have b4 := (Below.refl w3.heap.size w3).alloc (Nat.le_refl _) (.cells (stC y S) 29)
        replace HX := Lib.hid (HX.out.below b4 HX.out.lt)
        replace HX2 := Lib.hid (HX2.out.below b4 HX2.out.lt)
        replace HQ := Lib.hid (HQ.out.below b4 HQ.out.lt)
        replace HT := Lib.hid (HT.out.bel b4)
        replace HT2 := Lib.hid (HT2.out.bel b4)
        replace HKY := Lib.hid (HKY.out.step b4)
        replace HB := Lib.hid (HB.out.trans (b4.mono HB.out.size))
        replace HY := Lib.hid (HY.out.bel b4)
        replace HLW := Lib.hid (Nat.le_trans HLW.out b4.size)
        clear b4
        obtain ⟨w4, hw4⟩ : ∃ X, w3.alloc (.cells (stC y S) 29) = X := ⟨_, rfl⟩
        obtain ⟨g5, hg5⟩ : ∃ X, w3.heap.size = X := ⟨_, rfl⟩
        rw [hw4] at HX HX2 HQ HT HT2 HKY HB HY H5 HLW
        rw [hg5] at H5
        have HK1 := Lib.hid (Below.refl w4.heap.size w4)
        have HOWN := Lib.hid HY.out.now
        have H50 := Lib.hid H5.out
        have HXO := Lib.hid HX.out
        have HB1 := Lib.hid HB.out
        have m0 := bx0 H5.out
        have m1 := bx1 H5.out
        have m2 := bx2 H5.out
        have m3 := bx3 H5.out
        have m4 := bx4 H5.out
        have q0 := bx0 HQ.out
        have q1 := bx1 HQ.out
        have q2 := bx2 HQ.out
        have q3 := bx3 HQ.out
        have q4 := bx4 HQ.out
        simp only [stC] at hw4
        rw [← hw4] at m0 m1 m2 m3 m4 q0 q1 q2 q3 q4
        have HW4 := Lib.hid hw4
        have HG5 := Lib.hid hg5
        clear hw4 hg5
        obtain ⟨⟨la, ea⟩, hla⟩ : ∃ o, lookO S p = o := ⟨_, rfl⟩
        obtain ⟨⟨lc, ec⟩, hlc⟩ : ∃ o, openO S p key = o := ⟨_, rfl⟩
        obtain ⟨⟨TG, eg⟩, hlg⟩ : ∃ o, giveSO S p = o := ⟨_, rfl⟩
        have hsg := give_small S p
        rw [hlg] at hsg
        have HLA := Lib.hid hla
        have HLC := Lib.hid hlc
        have HLG := Lib.hid hlg
        have HSG := Lib.hid hsg
        clear hla hlc hlg hsg
        go_wp2_with fail
        rw [HW4.out]
        try rw [HG5.out]
        clear m0 m1 m2 m3 m4 q0 q1 q2 q3 q4 HW4 HG5
        have HK1L := Lib.hid (Nat.le_refl w4.heap.size)
        have hc := stLook_any L y S p w4 (StP.any (L := L) HY.out) HOK.out HWP.out HLW.out
        rw [HLA.out] at hc
        have HC := Lib.hid hc
        clear hc
        refine HC.out.mono ?_
        rintro e w5 ⟨va, rfl, hv, b7⟩
        replace HX := Lib.hid (HX.out.below b7 HX.out.lt)
        replace HX2 := Lib.hid (HX2.out.below b7 HX2.out.lt)
        replace HQ := Lib.hid (HQ.out.below b7 HQ.out.lt)
        replace HT := Lib.hid (HT.out.bel b7)
        replace HT2 := Lib.hid (HT2.out.bel b7)
        replace HKY := Lib.hid (HKY.out.step b7)
        replace HB := Lib.hid (HB.out.trans (b7.mono HB.out.size))
        replace HY := Lib.hid (HY.out.bel b7)
        replace H5 := Lib.hid (H5.out.below b7 H5.out.lt)
        replace HK1 := Lib.hid (HK1.out.trans (b7.mono HK1.out.size))
        replace HLW := Lib.hid (Nat.le_trans HLW.out b7.size)
        simp only at hv
        obtain ⟨aa, ca, rfl⟩ := own_slice hv
        have HA := Lib.hid (own_mono hv HK1L.out)
        clear b7 hv HC
        have d0 := bx0 HX.out
        have d1 := bx1 HX.out
        have d2 := bx2 HX.out
        have d3 := bx3 HX.out
        have d4 := bx4 HX.out
        have q0 := bx0 HQ.out
        have q1 := bx1 HQ.out
        have q2 := bx2 HQ.out
        have q3 := bx3 HQ.out
        have q4 := bx4 HQ.out
        go_wp2_with fail
        clear d0 d1 d2 d3 d4
        clear q0 q1 q2 q3 q4
        have hc := rtLook_any L x S p w5 HT.out HLW.out
        rw [HLA.out] at hc
        have HC := Lib.hid hc
        clear hc
        refine HC.out.mono ?_
        rintro e w6 ⟨vb, rfl, hv, b7⟩
        replace HX := Lib.hid (HX.out.below b7 HX.out.lt)
        replace HX2 := Lib.hid (HX2.out.below b7 HX2.out.lt)
        replace HQ := Lib.hid (HQ.out.below b7 HQ.out.lt)
        replace HT := Lib.hid (HT.out.bel b7)
        replace HT2 := Lib.hid (HT2.out.bel b7)
        replace HKY := Lib.hid (HKY.out.step b7)
        replace HB := Lib.hid (HB.out.trans (b7.mono HB.out.size))
        replace HY := Lib.hid (HY.out.bel b7)
        replace H5 := Lib.hid (H5.out.below b7 H5.out.lt)
        replace HK1 := Lib.hid (HK1.out.trans (b7.mono HK1.out.size))
        replace HA := Lib.hid (own_below HA.out b7)
        replace HLW := Lib.hid (Nat.le_trans HLW.out b7.size)
        simp only at hv
        obtain ⟨ab, cb, rfl⟩ := own_slice hv
        have HAB := Lib.hid hv
        clear b7 hv HC
        have d0 := bx0 H5.out
        have d1 := bx1 H5.out
        have d2 := bx2 H5.out
        have d3 := bx3 H5.out
        have d4 := bx4 H5.out
        have q0 := bx0 HQ.out
        have q1 := bx1 HQ.out
        have q2 := bx2 HQ.out
        have q3 := bx3 HQ.out
        have q4 := bx4 HQ.out
        go_wp2_with fail
        clear d0 d1 d2 d3 d4
        clear q0 q1 q2 q3 q4
        have hc := stOpen_any L y S p B ck key w6 (StP.any (L := L) HY.out) HKY.out HOK.out HWP.out HLW.out
        rw [HLC.out] at hc
        have HC := Lib.hid hc
        clear hc
        refine HC.out.mono ?_
        rintro e w7 ⟨vc, rfl, hv, b7⟩
        replace HX := Lib.hid (HX.out.below b7 HX.out.lt)
        replace HX2 := Lib.hid (HX2.out.below b7 HX2.out.lt)
        replace HQ := Lib.hid (HQ.out.below b7 HQ.out.lt)
        replace HT := Lib.hid (HT.out.bel b7)
        replace HT2 := Lib.hid (HT2.out.bel b7)
        replace HKY := Lib.hid (HKY.out.step b7)
        replace HB := Lib.hid (HB.out.trans (b7.mono HB.out.size))
        replace HY := Lib.hid (HY.out.bel b7)
        replace H5 := Lib.hid (H5.out.below b7 H5.out.lt)
        replace HK1 := Lib.hid (HK1.out.trans (b7.mono HK1.out.size))
        replace HA := Lib.hid (own_below HA.out b7)
        replace HAB := Lib.hid (own_below HAB.out b7)
        replace HLW := Lib.hid (Nat.le_trans HLW.out b7.size)
        simp only at hv
        obtain ⟨ac, cc, rfl⟩ := own_slice hv
        have HAC := Lib.hid hv
        clear b7 hv HC
        have d0 := bx0 HX.out
        have d1 := bx1 HX.out
        have d2 := bx2 HX.out
        have d3 := bx3 HX.out
        have d4 := bx4 HX.out
        have q0 := bx0 HQ.out
        have q1 := bx1 HQ.out
        have q2 := bx2 HQ.out
        have q3 := bx3 HQ.out
        have q4 := bx4 HQ.out
        go_wp2_with fail
        clear d0 d1 d2 d3 d4
        clear q0 q1 q2 q3 q4
        have hc := rtOpen_any L x S p B ck key w7 HT.out HKY.out HWP.out HLW.out
        rw [HLC.out] at hc
        have HC := Lib.hid hc
        clear hc
        refine HC.out.mono ?_
        rintro e w8 ⟨ad, cd, rfl, hv, b7⟩
        replace HX := Lib.hid (HX.out.below b7 HX.out.lt)
        replace HX2 := Lib.hid (HX2.out.below b7 HX2.out.lt)
        replace HQ := Lib.hid (HQ.out.below b7 HQ.out.lt)
        replace HT := Lib.hid (HT.out.bel b7)
        replace HT2 := Lib.hid (HT2.out.bel b7)
        replace HKY := Lib.hid (HKY.out.step b7)
        replace HB := Lib.hid (HB.out.trans (b7.mono HB.out.size))
        replace HY := Lib.hid (HY.out.bel b7)
        replace H5 := Lib.hid (H5.out.below b7 H5.out.lt)
        replace HK1 := Lib.hid (HK1.out.trans (b7.mono HK1.out.size))
        replace HA := Lib.hid (own_below HA.out b7)
        replace HAB := Lib.hid (own_below HAB.out b7)
        replace HAC := Lib.hid (own_below HAC.out b7)
        replace HLW := Lib.hid (Nat.le_trans HLW.out b7.size)
        simp only at hv
        have HAD := Lib.hid hv
        clear b7 hv HC
        have HK2 := Lib.hid (Below.refl w8.heap.size w8)
        have HA8 := Lib.hid HA.out
        have HK18 := Lib.hid HK1.out
        have d0 := bx0 H5.out
        have d1 := bx1 H5.out
        have d2 := bx2 H5.out
        have d3 := bx3 H5.out
        have d4 := bx4 H5.out
        have q0 := bx0 HQ.out
        have q1 := bx1 HQ.out
        have q2 := bx2 HQ.out
        have q3 := bx3 HQ.out
        have q4 := bx4 HQ.out
        go_wp2_with fail
        clear d0 d1 d2 d3 d4
        clear q0 q1 q2 q3 q4
        have hc := stGive_any L y S p w8 (StP.any (L := L) HY.out) HOK.out HWP.out HLW.out
        rw [HLG.out] at hc
        have HC := Lib.hid hc
        clear hc
        refine HC.out.mono ?_
        rintro e w9 ⟨y9, rfl, hy, hh, b7⟩
        replace HX := Lib.hid (HX.out.below b7 HX.out.lt)
        replace HX2 := Lib.hid (HX2.out.below b7 HX2.out.lt)
        replace HQ := Lib.hid (HQ.out.below b7 HQ.out.lt)
        replace HT := Lib.hid (HT.out.bel b7)
        replace HT2 := Lib.hid (HT2.out.bel b7)
        replace HKY := Lib.hid (HKY.out.step b7)
        replace HB := Lib.hid (HB.out.trans (b7.mono HB.out.size))
        replace HY := Lib.hid (HY.out.bel b7)
        replace H5 := Lib.hid (H5.out.below b7 H5.out.lt)
        replace HK1 := Lib.hid (HK1.out.trans (b7.mono HK1.out.size))
        replace HA := Lib.hid (own_below HA.out b7)
        replace HAB := Lib.hid (own_below HAB.out b7)
        replace HAC := Lib.hid (own_below HAC.out b7)
        replace HAD := Lib.hid (HAD.out.step b7)
        replace HK2 := Lib.hid (HK2.out.trans (b7.mono HK2.out.size))
        replace HLW := Lib.hid (Nat.le_trans HLW.out b7.size)
        have HYG := Lib.hid (hy.any (L := L))
        have HHG := Lib.hid (hh.lower (Nat.le_refl w8.heap.size))
        have H9 := Lib.hid (Blk.new w9 29 (stC y9 TG))
        have b8 := (Below.refl w9.heap.size w9).alloc (Nat.le_refl _) (.cells (stC y9 TG) 29)
        clear b7 hy hh HC
        replace HX := Lib.hid (HX.out.below b8 HX.out.lt)
        replace HX2 := Lib.hid (HX2.out.below b8 HX2.out.lt)
        replace HQ := Lib.hid (HQ.out.below b8 HQ.out.lt)
        replace HT := Lib.hid (HT.out.bel b8)
        replace HT2 := Lib.hid (HT2.out.bel b8)
        replace HKY := Lib.hid (HKY.out.step b8)
        replace HB := Lib.hid (HB.out.trans (b8.mono HB.out.size))
        replace HY := Lib.hid (HY.out.bel b8)
        replace H5 := Lib.hid (H5.out.below b8 H5.out.lt)
        replace HK1 := Lib.hid (HK1.out.trans (b8.mono HK1.out.size))
        replace HA := Lib.hid (own_below HA.out b8)
        replace HAB := Lib.hid (own_below HAB.out b8)
        replace HAC := Lib.hid (own_below HAC.out b8)
        replace HAD := Lib.hid (HAD.out.step b8)
        replace HK2 := Lib.hid (HK2.out.trans (b8.mono HK2.out.size))
        replace HYG := Lib.hid (HYG.out.bel b8)
        replace HHG := Lib.hid (HHG.out.keeps (Keeps.of_below (L := 0) b8))
        replace HLW := Lib.hid (Nat.le_trans HLW.out b8.size)
        clear b8
        obtain ⟨w10, hw10⟩ : ∃ X, w9.alloc (.cells (stC y9 TG) 29) = X := ⟨_, rfl⟩
        obtain ⟨g9, hg9⟩ : ∃ X, w9.heap.size = X := ⟨_, rfl⟩
        rw [hw10] at HX HX2 HQ HT HT2 HKY HB HY H5 HK1 HA HAB HAC HAD HK2 HYG HHG H9 HLW
        rw [hg9] at H9
        have d0 := bx0 HX.out
        have d1 := bx1 HX.out
        have d2 := bx2 HX.out
        have d3 := bx3 HX.out
        have d4 := bx4 HX.out
        have q0 := bx0 HQ.out
        have q1 := bx1 HQ.out
        have q2 := bx2 HQ.out
        have q3 := bx3 HQ.out
        have q4 := bx4 HQ.out
        simp only [stC] at hw10
        rw [← hw10] at d0 d1 d2 d3 d4 q0 q1 q2 q3 q4
        have HW10 := Lib.hid hw10
        have HG9 := Lib.hid hg9
        clear hw10 hg9
        go_wp2_with fail
        rw [HW10.out]
        try rw [HG9.out]
        clear d0 d1 d2 d3 d4 q0 q1 q2 q3 q4 HW10 HG9
        have hc := rtGive_any L x S p w10 HT.out HLW.out
        rw [HLG.out] at hc
        have HC := Lib.hid hc
        clear hc
        refine HC.out.mono ?_
        rintro e w11 ⟨y11, rfl, hy, b7⟩
        replace HX := Lib.hid (HX.out.below b7 HX.out.lt)
        replace HX2 := Lib.hid (HX2.out.below b7 HX2.out.lt)
        replace HQ := Lib.hid (HQ.out.below b7 HQ.out.lt)
        replace HT := Lib.hid (HT.out.bel b7)
        replace HT2 := Lib.hid (HT2.out.bel b7)
        replace HKY := Lib.hid (HKY.out.step b7)
        replace HB := Lib.hid (HB.out.trans (b7.mono HB.out.size))
        replace HY := Lib.hid (HY.out.bel b7)
        replace H5 := Lib.hid (H5.out.below b7 H5.out.lt)
        replace HK1 := Lib.hid (HK1.out.trans (b7.mono HK1.out.size))
        replace HA := Lib.hid (own_below HA.out b7)
        replace HAB := Lib.hid (own_below HAB.out b7)
        replace HAC := Lib.hid (own_below HAC.out b7)
        replace HAD := Lib.hid (HAD.out.step b7)
        replace HK2 := Lib.hid (HK2.out.trans (b7.mono HK2.out.size))
        replace HYG := Lib.hid (HYG.out.bel b7)
        replace H9 := Lib.hid (H9.out.below b7 H9.out.lt)
        replace HHG := Lib.hid (HHG.out.keeps (Keeps.of_below (L := 0) b7))
        replace HLW := Lib.hid (Nat.le_trans HLW.out b7.size)
        have HYR := Lib.hid hy
        have H11 := Lib.hid (Blk.new w11 29 (stC y11 TG))
        have b8 := (Below.refl w11.heap.size w11).alloc (Nat.le_refl _) (.cells (stC y11 TG) 29)
        clear b7 hy HC
        replace HX := Lib.hid (HX.out.below b8 HX.out.lt)
        replace HX2 := Lib.hid (HX2.out.below b8 HX2.out.lt)
        replace HQ := Lib.hid (HQ.out.below b8 HQ.out.lt)
        replace HT := Lib.hid (HT.out.bel b8)
        replace HT2 := Lib.hid (HT2.out.bel b8)
        replace HKY := Lib.hid (HKY.out.step b8)
        replace HB := Lib.hid (HB.out.trans (b8.mono HB.out.size))
        replace HY := Lib.hid (HY.out.bel b8)
        replace H5 := Lib.hid (H5.out.below b8 H5.out.lt)
        replace HK1 := Lib.hid (HK1.out.trans (b8.mono HK1.out.size))
        replace HA := Lib.hid (own_below HA.out b8)
        replace HAB := Lib.hid (own_below HAB.out b8)
        replace HAC := Lib.hid (own_below HAC.out b8)
        replace HAD := Lib.hid (HAD.out.step b8)
        replace HK2 := Lib.hid (HK2.out.trans (b8.mono HK2.out.size))
        replace HYG := Lib.hid (HYG.out.bel b8)
        replace H9 := Lib.hid (H9.out.below b8 H9.out.lt)
        replace HYR := Lib.hid (HYR.out.bel b8)
        replace HHG := Lib.hid (HHG.out.keeps (Keeps.of_below (L := 0) b8))
        replace HLW := Lib.hid (Nat.le_trans HLW.out b8.size)
        clear b8
        obtain ⟨w12, hw12⟩ : ∃ X, w11.alloc (.cells (stC y11 TG) 29) = X := ⟨_, rfl⟩
        obtain ⟨g11, hg11⟩ : ∃ X, w11.heap.size = X := ⟨_, rfl⟩
        rw [hw12] at HX HX2 HQ HT HT2 HKY HB HY H5 HK1 HA HAB HAC HAD HK2 HYG HHG H9 HYR H11 HLW
        rw [hg11] at H11
        have d0 := bx0 H9.out
        have d1 := bx1 H9.out
        have d2 := bx2 H9.out
        have d3 := bx3 H9.out
        have d4 := bx4 H9.out
        have q0 := bx0 H11.out
        have q1 := bx1 H11.out
        have q2 := bx2 H11.out
        have q3 := bx3 H11.out
        have q4 := bx4 H11.out
        have V1 := (own_bsl HA.out).conv
        have V2 := (own_bsl HAB.out).conv
        have V3 := (own_bsl HAC.out).conv
        have V4 := HAD.out.conv
        have e1 : ((strOf la).toList == (strOf la).toList) = true := by simp
        have e2 : ((strOf lc).toList == (strOf lc).toList) = true := by simp
        have e3 : ((ea : Int) != ea) = false := by simp
        have e4 : ((ec : Int) != ec) = false := by simp
        have e5 : ((eg : Int) != eg) = false := by simp
        simp only [stC] at hw12
        rw [← hw12] at d0 d1 d2 d3 d4 q0 q1 q2 q3 q4 V1 V2 V3 V4
        have HW12 := Lib.hid hw12
        have HG11 := Lib.hid hg11
        clear hw12 hg11
        go_wp2_with fail
        rw [HW12.out]
        try rw [HG11.out]
        clear d0 d1 d2 d3 d4 q0 q1 q2 q3 q4 V1 V2 V3 V4 e1 e2 e3 e4 HW12 HG11
        have HC := Lib.hid (rtSame_any L y9 y11 TG TG w12 HYG.out HYR.out ⟨HSG.out.1, HSG.out.2.1⟩ true (by simp))
        refine HC.out.mono ?_
        rintro e w13 ⟨rfl, b9⟩
        replace HX := Lib.hid (HX.out.below b9 HX.out.lt)
        replace HX2 := Lib.hid (HX2.out.below b9 HX2.out.lt)
        replace HQ := Lib.hid (HQ.out.below b9 HQ.out.lt)
        replace HT := Lib.hid (HT.out.bel b9)
        replace HT2 := Lib.hid (HT2.out.bel b9)
        replace HKY := Lib.hid (HKY.out.step b9)
        replace HB := Lib.hid (HB.out.trans (b9.mono HB.out.size))
        replace HY := Lib.hid (HY.out.bel b9)
        replace H5 := Lib.hid (H5.out.below b9 H5.out.lt)
        replace HK1 := Lib.hid (HK1.out.trans (b9.mono HK1.out.size))
        replace HA := Lib.hid (own_below HA.out b9)
        replace HAB := Lib.hid (own_below HAB.out b9)
        replace HAC := Lib.hid (own_below HAC.out b9)
        replace HAD := Lib.hid (HAD.out.step b9)
        replace HK2 := Lib.hid (HK2.out.trans (b9.mono HK2.out.size))
        replace HYG := Lib.hid (HYG.out.bel b9)
        replace H9 := Lib.hid (H9.out.below b9 H9.out.lt)
        replace HYR := Lib.hid (HYR.out.bel b9)
        replace H11 := Lib.hid (H11.out.below b9 H11.out.lt)
        replace HHG := Lib.hid (HHG.out.keeps (Keeps.of_below (L := 0) b9))
        replace HLW := Lib.hid (Nat.le_trans HLW.out b9.size)
        clear b9 HC
        go_wp2_with fail
        clear e5
        obtain ⟨wd, hwd⟩ : ∃ wd, w13.drew = wd := ⟨_, rfl⟩
        have bb : Below w13.heap.size w13 wd := by rw [← hwd]; exact (Below.refl _ w13).drew
        replace HX := Lib.hid (HX.out.below bb HX.out.lt)
        replace HX2 := Lib.hid (HX2.out.below bb HX2.out.lt)
        replace HQ := Lib.hid (HQ.out.below bb HQ.out.lt)
        replace HT := Lib.hid (HT.out.bel bb)
        replace HT2 := Lib.hid (HT2.out.bel bb)
        replace HKY := Lib.hid (HKY.out.step bb)
        replace HB := Lib.hid (HB.out.trans (bb.mono HB.out.size))
        replace HY := Lib.hid (HY.out.bel bb)
        replace H5 := Lib.hid (H5.out.below bb H5.out.lt)
        replace HK1 := Lib.hid (HK1.out.trans (bb.mono HK1.out.size))
        replace HA := Lib.hid (own_below HA.out bb)
        replace HK2 := Lib.hid (HK2.out.trans (bb.mono HK2.out.size))
        replace HYG := Lib.hid (HYG.out.bel bb)
        replace H9 := Lib.hid (H9.out.below bb H9.out.lt)
        replace HHG := Lib.hid (HHG.out.keeps (Keeps.of_below (L := 0) bb))
        replace HLW := Lib.hid (Nat.le_trans HLW.out bb.size)
        clear bb
        obtain ⟨CK, hck⟩ : ∃ n : Nat, (MayS S → n = 0) ∧ (¬ MayS S → n = 8) := by
          by_cases hm : MayS S
          · exact ⟨0, fun _ => rfl, fun h => absurd hm h⟩
          · exact ⟨8, fun h => absurd h hm, fun _ => rfl⟩
        obtain ⟨RS, hrs⟩ : ∃ R : Bool, R = true ↔ S = S2 := by classical exact ⟨decide (S = S2), decide_eq_true_iff⟩
        have HCK := Lib.hid hck
        have HRS := Lib.hid hrs
        have f1 : ((CK : Int) != CK) = false := by simp
        have f2 : (RS != RS) = false := by simp
        clear hck hrs
        have hb0 : (Box3 g5 g g1 (stC y S) (stC x S) (stC x2 S2)) wd := ⟨H5.out, HX.out, HX2.out⟩
        refine wpI_start (Box3 g5 g g1 (stC y S) (stC x S) (stC x2 S2)) [0, 2, 1, 3, 4, 5, 6, 7, 9, 10, 8, 11, 12, 13, 14, 15, 17, 16, 18, 19, 20, 21, 22, 23, 24, 25, 26] hmx rfl hwd ?_
        clear hwd
        iterate 2 (
          refine wpI_read (v := ?_) hb0 rfl (by kernel_rfl) (by kernel_rfl) (by kernel_rfl) (fun _ _ _ h => h) (.inl ⟨by rfl, ?_⟩) ?_
          rotate_left
          · intro X hX
            obtain ⟨x5, x4, x6⟩ := hX
            have j0 := stC0 x5
            have j1 := stC1 x5
            have j2 := stC2 x5
            have j3 := stC3 x5
            have j4 := stC4 x5
            have k0 := stC0 x4
            have k1 := stC1 x4
            have k2 := stC2 x4
            have k3 := stC3 x4
            have k4 := stC4 x4
            have l0 := stC0 x6
            have l1 := stC1 x6
            have l2 := stC2 x6
            have l3 := stC3 x6
            have l4 := stC4 x6
            go_simp
            with_reducible rfl
          try simp only [Act.put, List.setIfInBounds_toArray, List.set_cons_zero, List.set_cons_succ])
        have HC := Lib.hid (stCheck_any L y S wd (StP.any (L := L) HY.out) HOK.out HLW.out CK HCK.out)
        refine wpI_lone rfl (by kernel_rfl) (fun K hK => ?_)
        go_simp
        refine HC.out.mono ?_
        rintro ev w14 ⟨rfl, b9⟩
        replace HX := Lib.hid (HX.out.below b9 HX.out.lt)
        replace HX2 := Lib.hid (HX2.out.below b9 HX2.out.lt)
        replace HQ := Lib.hid (HQ.out.below b9 HQ.out.lt)
        replace HT := Lib.hid (HT.out.bel b9)
        replace HT2 := Lib.hid (HT2.out.bel b9)
        replace HKY := Lib.hid (HKY.out.step b9)
        replace HB := Lib.hid (HB.out.trans (b9.mono HB.out.size))
        replace HY := Lib.hid (HY.out.bel b9)
        replace H5 := Lib.hid (H5.out.below b9 H5.out.lt)
        replace HK1 := Lib.hid (HK1.out.trans (b9.mono HK1.out.size))
        replace HA := Lib.hid (own_below HA.out b9)
        replace HK2 := Lib.hid (HK2.out.trans (b9.mono HK2.out.size))
        replace HYG := Lib.hid (HYG.out.bel b9)
        replace H9 := Lib.hid (H9.out.below b9 H9.out.lt)
        replace HHG := Lib.hid (HHG.out.keeps (Keeps.of_below (L := 0) b9))
        replace HLW := Lib.hid (Nat.le_trans HLW.out b9.size)
        have hb14 : (Box3 g5 g g1 (stC y S) (stC x S) (stC x2 S2)) w14 := ⟨H5.out, HX.out, HX2.out⟩
        refine hK _ _ hb14 ?_
        clear hK K hb0 b9 HC
        try simp only [Act.put, List.setIfInBounds_toArray, List.set_cons_zero, List.set_cons_succ]
        have HC := Lib.hid (rtCheck_any L x S w14 HT.out CK HCK.out)
        refine wpI_lone rfl (by kernel_rfl) (fun K hK => ?_)
        go_simp
        refine HC.out.mono ?_
        rintro ev w15 ⟨rfl, b9⟩
        replace HX := Lib.hid (HX.out.below b9 HX.out.lt)
        replace HX2 := Lib.hid (HX2.out.below b9 HX2.out.lt)
        replace HQ := Lib.hid (HQ.out.below b9 HQ.out.lt)
        replace HT := Lib.hid (HT.out.bel b9)
        replace HT2 := Lib.hid (HT2.out.bel b9)
        replace HKY := Lib.hid (HKY.out.step b9)
        replace HB := Lib.hid (HB.out.trans (b9.mono HB.out.size))
        replace HY := Lib.hid (HY.out.bel b9)
        replace H5 := Lib.hid (H5.out.below b9 H5.out.lt)
        replace HK1 := Lib.hid (HK1.out.trans (b9.mono HK1.out.size))
        replace HA := Lib.hid (own_below HA.out b9)
        replace HK2 := Lib.hid (HK2.out.trans (b9.mono HK2.out.size))
        replace HYG := Lib.hid (HYG.out.bel b9)
        replace H9 := Lib.hid (H9.out.below b9 H9.out.lt)
        replace HHG := Lib.hid (HHG.out.keeps (Keeps.of_below (L := 0) b9))
        replace HLW := Lib.hid (Nat.le_trans HLW.out b9.size)
        have hb15 : (Box3 g5 g g1 (stC y S) (stC x S) (stC x2 S2)) w15 := ⟨H5.out, HX.out, HX2.out⟩
        refine hK _ _ hb15 ?_
        clear hK K hb14 b9 HC
        try simp only [Act.put, List.setIfInBounds_toArray, List.set_cons_zero, List.set_cons_succ]
        iterate 2 (
          refine wpI_read (v := ?_) hb15 rfl (by kernel_rfl) (by kernel_rfl) (by kernel_rfl) (fun _ _ _ h => h) (.inl ⟨by rfl, ?_⟩) ?_
          rotate_left
          · intro X hX
            clear hX
            go_simp
            with_reducible rfl
          try simp only [Act.put, List.setIfInBounds_toArray, List.set_cons_zero, List.set_cons_succ])
        iterate 4 (
          refine wpI_read (v := ?_) hb15 rfl (by kernel_rfl) (by kernel_rfl) (by kernel_rfl) (fun _ _ _ h => h) (.inl ⟨by rfl, ?_⟩) ?_
          rotate_left
          · intro X hX
            obtain ⟨x5, x4, x6⟩ := hX
            have j0 := stC0 x5
            have j1 := stC1 x5
            have j2 := stC2 x5
            have j3 := stC3 x5
            have j4 := stC4 x5
            have k0 := stC0 x4
            have k1 := stC1 x4
            have k2 := stC2 x4
            have k3 := stC3 x4
            have k4 := stC4 x4
            have l0 := stC0 x6
            have l1 := stC1 x6
            have l2 := stC2 x6
            have l3 := stC3 x6
            have l4 := stC4 x6
            go_simp
            with_reducible rfl
          try simp only [Act.put, List.setIfInBounds_toArray, List.set_cons_zero, List.set_cons_succ])
        have HC := Lib.hid (stSame_any L y x2 S S2 w15 (StP.any (L := L) HY.out) HT2.out RS HRS.out)
        refine wpI_lone rfl (by kernel_rfl) (fun K hK => ?_)
        go_simp
        refine HC.out.mono ?_
        rintro ev w16 ⟨rfl, b9⟩
        replace HX := Lib.hid (HX.out.below b9 HX.out.lt)
        replace HX2 := Lib.hid (HX2.out.below b9 HX2.out.lt)
        replace HQ := Lib.hid (HQ.out.below b9 HQ.out.lt)
        replace HT := Lib.hid (HT.out.bel b9)
        replace HT2 := Lib.hid (HT2.out.bel b9)
        replace HKY := Lib.hid (HKY.out.step b9)
        replace HB := Lib.hid (HB.out.trans (b9.mono HB.out.size))
        replace HY := Lib.hid (HY.out.bel b9)
        replace H5 := Lib.hid (H5.out.below b9 H5.out.lt)
        replace HK1 := Lib.hid (HK1.out.trans (b9.mono HK1.out.size))
        replace HA := Lib.hid (own_below HA.out b9)
        replace HK2 := Lib.hid (HK2.out.trans (b9.mono HK2.out.size))
        replace HYG := Lib.hid (HYG.out.bel b9)
        replace H9 := Lib.hid (H9.out.below b9 H9.out.lt)
        replace HHG := Lib.hid (HHG.out.keeps (Keeps.of_below (L := 0) b9))
        replace HLW := Lib.hid (Nat.le_trans HLW.out b9.size)
        have hb16 : (Box3 g5 g g1 (stC y S) (stC x S) (stC x2 S2)) w16 := ⟨H5.out, HX.out, HX2.out⟩
        refine hK _ _ hb16 ?_
        clear hK K hb15 b9 HC
        try simp only [Act.put, List.setIfInBounds_toArray, List.set_cons_zero, List.set_cons_succ]
        have HC := Lib.hid (rtSame_any L x x2 S S2 w16 HT.out HT2.out ⟨by have := HSM.out.1.1; omega, by have := HSM.out.1.2.2.1; omega⟩ RS HRS.out)
        refine wpI_lone rfl (by kernel_rfl) (fun K hK => ?_)
        go_simp
        refine HC.out.mono ?_
        rintro ev w17 ⟨rfl, b9⟩
        replace HX := Lib.hid (HX.out.below b9 HX.out.lt)
        replace HX2 := Lib.hid (HX2.out.below b9 HX2.out.lt)
        replace HQ := Lib.hid (HQ.out.below b9 HQ.out.lt)
        replace HT := Lib.hid (HT.out.bel b9)
        replace HT2 := Lib.hid (HT2.out.bel b9)
        replace HKY := Lib.hid (HKY.out.step b9)
        replace HB := Lib.hid (HB.out.trans (b9.mono HB.out.size))
        replace HY := Lib.hid (HY.out.bel b9)
        replace H5 := Lib.hid (H5.out.below b9 H5.out.lt)
        replace HK1 := Lib.hid (HK1.out.trans (b9.mono HK1.out.size))
        replace HA := Lib.hid (own_below HA.out b9)
        replace HK2 := Lib.hid (HK2.out.trans (b9.mono HK2.out.size))
        replace HYG := Lib.hid (HYG.out.bel b9)
        replace H9 := Lib.hid (H9.out.below b9 H9.out.lt)
        replace HHG := Lib.hid (HHG.out.keeps (Keeps.of_below (L := 0) b9))
        replace HLW := Lib.hid (Nat.le_trans HLW.out b9.size)
        have hb17 : (Box3 g5 g g1 (stC y S) (stC x S) (stC x2 S2)) w17 := ⟨H5.out, HX.out, HX2.out⟩
        refine hK _ _ hb17 ?_
        clear hK K hb16 b9 HC
        try simp only [Act.put, List.setIfInBounds_toArray, List.set_cons_zero, List.set_cons_succ]
        iterate 3 (
          refine wpI_read (v := ?_) hb17 rfl (by kernel_rfl) (by kernel_rfl) (by kernel_rfl) (fun _ _ _ h => h) (.inl ⟨by rfl, ?_⟩) ?_
          rotate_left
          · intro X hX
            clear hX
            go_simp
            with_reducible rfl
          try simp only [Act.put, List.setIfInBounds_toArray, List.set_cons_zero, List.set_cons_succ])
        iterate 2 (
          refine wpI_read (v := ?_) hb17 rfl (by kernel_rfl) (by kernel_rfl) (by kernel_rfl) (fun _ _ _ h => h) (.inl ⟨by rfl, ?_⟩) ?_
          rotate_left
          · intro X hX
            obtain ⟨x5, x4, x6⟩ := hX
            have j0 := stC0 x5
            have j1 := stC1 x5
            have j2 := stC2 x5
            have j3 := stC3 x5
            have j4 := stC4 x5
            have k0 := stC0 x4
            have k1 := stC1 x4
            have k2 := stC2 x4
            have k3 := stC3 x4
            have k4 := stC4 x4
            have l0 := stC0 x6
            have l1 := stC1 x6
            have l2 := stC2 x6
            have l3 := stC3 x6
            have l4 := stC4 x6
            go_simp
            with_reducible rfl
          try simp only [Act.put, List.setIfInBounds_toArray, List.set_cons_zero, List.set_cons_succ])
        have HC := Lib.hid (stTwin_any L y S w17 (StP.any (L := L) HY.out) HOK.out HLW.out)
        refine wpI_lone rfl (by kernel_rfl) (fun K hK => ?_)
        go_simp
        refine HC.out.mono ?_
        rintro ev w18 ⟨yt, rfl, hyt, _, b9⟩
        replace HX := Lib.hid (HX.out.below b9 HX.out.lt)
        replace HX2 := Lib.hid (HX2.out.below b9 HX2.out.lt)
        replace HQ := Lib.hid (HQ.out.below b9 HQ.out.lt)
        replace HT := Lib.hid (HT.out.bel b9)
        replace HT2 := Lib.hid (HT2.out.bel b9)
        replace HKY := Lib.hid (HKY.out.step b9)
        replace HB := Lib.hid (HB.out.trans (b9.mono HB.out.size))
        replace HY := Lib.hid (HY.out.bel b9)
        replace H5 := Lib.hid (H5.out.below b9 H5.out.lt)
        replace HK1 := Lib.hid (HK1.out.trans (b9.mono HK1.out.size))
        replace HA := Lib.hid (own_below HA.out b9)
        replace HK2 := Lib.hid (HK2.out.trans (b9.mono HK2.out.size))
        replace HYG := Lib.hid (HYG.out.bel b9)
        replace H9 := Lib.hid (H9.out.below b9 H9.out.lt)
        replace HHG := Lib.hid (HHG.out.keeps (Keeps.of_below (L := 0) b9))
        replace HLW := Lib.hid (Nat.le_trans HLW.out b9.size)
        have HYT := Lib.hid (hyt.any (L := L))
        clear hyt
        have hb18 : (Box3 g5 g g1 (stC y S) (stC x S) (stC x2 S2)) w18 := ⟨H5.out, HX.out, HX2.out⟩
        refine hK _ _ hb18 ?_
        clear hK K hb17 b9 HC
        try simp only [Act.put, List.setIfInBounds_toArray, List.set_cons_zero, List.set_cons_succ]
        have HC := Lib.hid (rtSame_any L yt x S S w18 HYT.out HT.out ⟨by have := HSM.out.1.1; omega, by have := HSM.out.1.2.2.1; omega⟩ true (by simp))
        refine wpI_lone rfl (by kernel_rfl) (fun K hK => ?_)
        go_simp
        refine HC.out.mono ?_
        rintro ev w19 ⟨rfl, b9⟩
        replace HX := Lib.hid (HX.out.below b9 HX.out.lt)
        replace HX2 := Lib.hid (HX2.out.below b9 HX2.out.lt)
        replace HQ := Lib.hid (HQ.out.below b9 HQ.out.lt)
        replace HT := Lib.hid (HT.out.bel b9)
        replace HT2 := Lib.hid (HT2.out.bel b9)
        replace HKY := Lib.hid (HKY.out.step b9)
        replace HB := Lib.hid (HB.out.trans (b9.mono HB.out.size))
        replace HY := Lib.hid (HY.out.bel b9)
        replace H5 := Lib.hid (H5.out.below b9 H5.out.lt)
        replace HK1 := Lib.hid (HK1.out.trans (b9.mono HK1.out.size))
        replace HA := Lib.hid (own_below HA.out b9)
        replace HK2 := Lib.hid (HK2.out.trans (b9.mono HK2.out.size))
        replace HYG := Lib.hid (HYG.out.bel b9)
        replace H9 := Lib.hid (H9.out.below b9 H9.out.lt)
        replace HYT := Lib.hid (HYT.out.bel b9)
        replace HHG := Lib.hid (HHG.out.keeps (Keeps.of_below (L := 0) b9))
        replace HLW := Lib.hid (Nat.le_trans HLW.out b9.size)
        have hb19 : (Box3 g5 g g1 (stC y S) (stC x S) (stC x2 S2)) w19 := ⟨H5.out, HX.out, HX2.out⟩
        refine hK _ _ hb19 ?_
        clear hK K hb18 b9 HC
        try simp only [Act.put, List.setIfInBounds_toArray, List.set_cons_zero, List.set_cons_succ]
        iterate 3 (
          refine wpI_read (v := ?_) hb19 rfl (by kernel_rfl) (by kernel_rfl) (by kernel_rfl) (fun _ _ _ h => h) (.inl ⟨by rfl, ?_⟩) ?_
          rotate_left
          · intro X hX
            clear hX
            go_simp
            with_reducible rfl
          try simp only [Act.put, List.setIfInBounds_toArray, List.set_cons_zero, List.set_cons_succ])
        have HC := Lib.hid (stNew_any w19)
        refine wpI_lone rfl (by kernel_rfl) (fun K hK => ?_)
        go_simp
        refine HC.out.mono ?_
        rintro ev w20 ⟨yn, rfl, hyn, _, b9⟩
        replace HX := Lib.hid (HX.out.below b9 HX.out.lt)
        replace HX2 := Lib.hid (HX2.out.below b9 HX2.out.lt)
        replace HQ := Lib.hid (HQ.out.below b9 HQ.out.lt)
        replace HT := Lib.hid (HT.out.bel b9)
        replace HT2 := Lib.hid (HT2.out.bel b9)
        replace HKY := Lib.hid (HKY.out.step b9)
        replace HB := Lib.hid (HB.out.trans (b9.mono HB.out.size))
        replace HY := Lib.hid (HY.out.bel b9)
        replace H5 := Lib.hid (H5.out.below b9 H5.out.lt)
        replace HK1 := Lib.hid (HK1.out.trans (b9.mono HK1.out.size))
        replace HA := Lib.hid (own_below HA.out b9)
        replace HK2 := Lib.hid (HK2.out.trans (b9.mono HK2.out.size))
        replace HYG := Lib.hid (HYG.out.bel b9)
        replace H9 := Lib.hid (H9.out.below b9 H9.out.lt)
        replace HHG := Lib.hid (HHG.out.keeps (Keeps.of_below (L := 0) b9))
        replace HLW := Lib.hid (Nat.le_trans HLW.out b9.size)
        have HYN := Lib.hid (hyn.any (L := L))
        clear hyn
        have hb20 : (Box3 g5 g g1 (stC y S) (stC x S) (stC x2 S2)) w20 := ⟨H5.out, HX.out, HX2.out⟩
        refine hK _ _ hb20 ?_
        clear hK K hb19 b9 HC
        try simp only [Act.put, List.setIfInBounds_toArray, List.set_cons_zero, List.set_cons_succ]
        have HC := Lib.hid (rtNew_any w20)
        refine wpI_lone rfl (by kernel_rfl) (fun K hK => ?_)
        go_simp
        refine HC.out.mono ?_
        rintro ev w21 ⟨yr, rfl, hyr, b9⟩
        replace HX := Lib.hid (HX.out.below b9 HX.out.lt)
        replace HX2 := Lib.hid (HX2.out.below b9 HX2.out.lt)
        replace HQ := Lib.hid (HQ.out.below b9 HQ.out.lt)
        replace HT := Lib.hid (HT.out.bel b9)
        replace HT2 := Lib.hid (HT2.out.bel b9)
        replace HKY := Lib.hid (HKY.out.step b9)
        replace HB := Lib.hid (HB.out.trans (b9.mono HB.out.size))
        replace HY := Lib.hid (HY.out.bel b9)
        replace H5 := Lib.hid (H5.out.below b9 H5.out.lt)
        replace HK1 := Lib.hid (HK1.out.trans (b9.mono HK1.out.size))
        replace HA := Lib.hid (own_below HA.out b9)
        replace HK2 := Lib.hid (HK2.out.trans (b9.mono HK2.out.size))
        replace HYG := Lib.hid (HYG.out.bel b9)
        replace H9 := Lib.hid (H9.out.below b9 H9.out.lt)
        replace HYN := Lib.hid (HYN.out.bel b9)
        replace HHG := Lib.hid (HHG.out.keeps (Keeps.of_below (L := 0) b9))
        replace HLW := Lib.hid (Nat.le_trans HLW.out b9.size)
        have HYQ := Lib.hid (StP.any (L := L) hyr)
        clear hyr
        have hb21 : (Box3 g5 g g1 (stC y S) (stC x S) (stC x2 S2)) w21 := ⟨H5.out, HX.out, HX2.out⟩
        refine hK _ _ hb21 ?_
        clear hK K hb20 b9 HC
        try simp only [Act.put, List.setIfInBounds_toArray, List.set_cons_zero, List.set_cons_succ]
        have HC := Lib.hid (rtSame_any L yn yr newS newS w21 HYN.out HYQ.out ⟨(few_may newS_may).1, (few_may newS_may).2.1⟩ true (by simp))
        refine wpI_lone rfl (by kernel_rfl) (fun K hK => ?_)
        go_simp
        refine HC.out.mono ?_
        rintro ev w22 ⟨rfl, b9⟩
        replace HX := Lib.hid (HX.out.below b9 HX.out.lt)
        replace HX2 := Lib.hid (HX2.out.below b9 HX2.out.lt)
        replace HQ := Lib.hid (HQ.out.below b9 HQ.out.lt)
        replace HT := Lib.hid (HT.out.bel b9)
        replace HT2 := Lib.hid (HT2.out.bel b9)
        replace HKY := Lib.hid (HKY.out.step b9)
        replace HB := Lib.hid (HB.out.trans (b9.mono HB.out.size))
        replace HY := Lib.hid (HY.out.bel b9)
        replace H5 := Lib.hid (H5.out.below b9 H5.out.lt)
        replace HK1 := Lib.hid (HK1.out.trans (b9.mono HK1.out.size))
        replace HA := Lib.hid (own_below HA.out b9)
        replace HK2 := Lib.hid (HK2.out.trans (b9.mono HK2.out.size))
        replace HYG := Lib.hid (HYG.out.bel b9)
        replace H9 := Lib.hid (H9.out.below b9 H9.out.lt)
        replace HYN := Lib.hid (HYN.out.bel b9)
        replace HYQ := Lib.hid (HYQ.out.bel b9)
        replace HHG := Lib.hid (HHG.out.keeps (Keeps.of_below (L := 0) b9))
        replace HLW := Lib.hid (Nat.le_trans HLW.out b9.size)
        have hb22 : (Box3 g5 g g1 (stC y S) (stC x S) (stC x2 S2)) w22 := ⟨H5.out, HX.out, HX2.out⟩
        refine hK _ _ hb22 ?_
        clear hK K hb21 b9 HC
        try simp only [Act.put, List.setIfInBounds_toArray, List.set_cons_zero, List.set_cons_succ]
        iterate 2 (
          refine wpI_read (v := ?_) hb22 rfl (by kernel_rfl) (by kernel_rfl) (by kernel_rfl) (fun _ _ _ h => h) (.inl ⟨by rfl, ?_⟩) ?_
          rotate_left
          · intro X hX
            clear hX
            go_simp
            with_reducible rfl
          try simp only [Act.put, List.setIfInBounds_toArray, List.set_cons_zero, List.set_cons_succ])
        refine wpI_done (by kernel_rfl) ?_
        clear hb22 f1 f2
        have d0 := bx0 H9.out
        have d1 := bx1 H9.out
        have d2 := bx2 H9.out
        have d3 := bx3 H9.out
        have d4 := bx4 H9.out
        go_wp2_with fail
        clear d0 d1 d2 d3 d4
        have HB2 := Lib.hid HB.out.size
        have HK1S := Lib.hid HK18.out.size
        have HC := Lib.hid (stSpoil_any w8.heap.size y9 TG w22 HHG.out HK2.out.size ⟨by have := HSG.out.1; omega, by have := HSG.out.2.1; omega, by have := HSG.out.2.2; omega⟩)
        refine HC.out.mono ?_
        rintro e w23 ⟨rfl, sp⟩
        replace HK2 := Lib.hid (HK2.out.trans sp.below)
        replace HLW := Lib.hid (Nat.le_trans HLW.out sp.below.size)
        clear sp HC
        have HY1 := Lib.hid ((HOWN.out.below (HK18.out.trans (HK2.out.mono HK1S.out))).lasts (Nat.le_trans HK1S.out HK2.out.size))
        have H51 := Lib.hid (H50.out.below (HK18.out.trans (HK2.out.mono HK1S.out)) H50.out.lt)
        have d0 := bx0 H51.out
        have d1 := bx1 H51.out
        have d2 := bx2 H51.out
        have d3 := bx3 H51.out
        have d4 := bx4 H51.out
        go_wp2_with fail
        clear d0 d1 d2 d3 d4
        have HC := Lib.hid (stTwin_any w4.heap.size y S w23 HY1.out HOK.out (Nat.le_trans HK1S.out HK2.out.size))
        refine HC.out.mono ?_
        rintro e w24 ⟨yt, rfl, _, hh, b9⟩
        have HHT := Lib.hid (hh.lower HK2.out.size)
        replace HK2 := Lib.hid (HK2.out.trans (b9.mono HK2.out.size))
        clear hh b9 HC
        go_wp2_with fail
        have HC := Lib.hid (stSpoil_any w8.heap.size yt S w24 HHT.out HK2.out.size ⟨by have := HSM.out.1.1; omega, by have := HSM.out.1.2.2.1; omega, by have := HSM.out.2; omega⟩)
        refine HC.out.mono ?_
        rintro e w25 ⟨rfl, sp⟩
        replace HK2 := Lib.hid (HK2.out.trans sp.below)
        clear sp HC
        have HK1F := Lib.hid (HK18.out.trans (HK2.out.mono HK1S.out))
        have HAF := Lib.hid (own_below HA8.out HK2.out)
        have HAL := Lib.hid (lookO_few HOK.out HLA.out)
        obtain ⟨nl, hnl⟩ : ∃ nl : Nat, la.length = nl := ⟨_, rfl⟩
        rw [hnl] at HAF HAL ⊢
        have nl0 : (0 : Int) ≤ nl := by omega
        have nl9 : (nl : Int) ≤ 1000000 := by have := HAL.out; omega
        clear hnl
        rcases Nat.eq_zero_or_pos nl with h0 | h0
        · subst h0
          have HKF := Lib.hid HK1F.out
          go_wp2_with fail
          go_loopw [22] (fun i wr => i = .int .i64 0 ∧ wr = w25) (fun _ _ => 0)
          case atStart => exact ⟨rfl, rfl⟩
          case round =>
            obtain ⟨rfl, rfl⟩ := hrel
            clear nl9 nl0
            have H5F := Lib.hid (H50.out.below HKF.out H50.out.lt)
            have HXF := Lib.hid (HXO.out.below HKF.out HXO.out.lt)
            have HYF := Lib.hid ((HOWN.out.below HKF.out).lasts HKF.out.size)
            have HTF := Lib.hid ((HST.out.below (HB1.out.trans (HKF.out.mono HB1.out.size))).lasts (HB1.out.trans (HKF.out.mono HB1.out.size)).size |>.less HB1.out.size)
            have d0 := bx0 H5F.out
            have d1 := bx1 H5F.out
            have d2 := bx2 H5F.out
            have d3 := bx3 H5F.out
            have d4 := bx4 H5F.out
            have m0 := bx0 HXF.out
            have m1 := bx1 HXF.out
            have m2 := bx2 HXF.out
            have m3 := bx3 HXF.out
            have m4 := bx4 HXF.out
            go_wp2_with fail
            clear d0 d1 d2 d3 d4
            clear m0 m1 m2 m3 m4
            have HC := Lib.hid (rtSame_any w4.heap.size y x S S _ HYF.out HTF.out ⟨by have := HSM.out.1.1; omega, by have := HSM.out.1.2.2.1; omega⟩ true (by simp))
            refine HC.out.mono ?_
            rintro e wf ⟨rfl, b9⟩
            have HBF := Lib.hid ((HB1.out.trans (HKF.out.mono HB1.out.size)).trans (b9.mono (HB1.out.trans (HKF.out.mono HB1.out.size)).size))
            clear b9 HC
            go_wp2_with fail
            go_ret
            exact ⟨rfl, HBF.out⟩
        · obtain ⟨ga, ca', e⟩ := own_at HAF.out h0
          cases e
          have HGA := Lib.hid (own_ge HAF.out h0)
          clear h0
          go_wp2_with fail
          go_loopw [22] (fun i wr => ∃ k : Nat, k ≤ nl ∧ i = .int .i64 k ∧ (∃ t, wr.ownsRow w4.heap.size 5 1 (.slice (some ⟨ga, 0, none⟩) nl ca) nl (vals t)) ∧ Below w4.heap.size w4 wr) (fun i _ => nl - (intOf i).toNat)
          case atStart => exact ⟨0, Nat.zero_le _, rfl, ⟨_, HAF.out⟩, HK1F.out⟩
          case round =>
            obtain ⟨k, hk, rfl, ⟨t, ho⟩, hg⟩ := hrel
            have k0 : (0 : Int) ≤ k := by omega
            by_cases hlt : k < nl
            · have k1 : (k : Int) < nl := by omega
              have hc := own_mk ho k hlt
              obtain ⟨x', hx⟩ : ∃ x : Nat, mkT t k = x := ⟨_, rfl⟩
              rw [hx] at hc
              obtain ⟨y', hy⟩ : ∃ y : UInt8, IntKind.u8.wrap ((x' : Int) + 1) = (y.toNat : Int) := ⟨UInt8.ofNat ((x' + 1) % 256), by simp [IntKind.wrap, IntKind.bits, IntKind.signed]⟩
              have hw := own_put ho k hlt y'
              have hf : wr.frozen? ⟨ga, k, none⟩ = false := by
                obtain ⟨cs, hbk⟩ := own_blk ho
                exact hbk.frozen k
              have hg2 := hg.setCell (p := ⟨ga, k, none⟩) HGA.out (.int .u8 (y'.toNat : Int))
              obtain ⟨z', hz⟩ : ∃ z : Int, (y'.toNat : Int) = z := ⟨_, rfl⟩
              rw [hz] at hy hw hg2
              have HO2 := Lib.hid hw
              have HG2 := Lib.hid hg2
              clear ho hg hw hg2 hx hz
              go_wp2_with fail
              go_roundw
              case rel => exact ⟨k + 1, by omega, by go_num, ⟨_, HO2.out⟩, HG2.out⟩
              case measure => simp [intOf]; omega
            · have hkk : k = nl := by omega
              have k3 : (nl : Int) ≤ k := by omega
              have HKF := Lib.hid hg
              clear ho hg hkk hlt hk
              have H5F := Lib.hid (H50.out.below HKF.out H50.out.lt)
              have HXF := Lib.hid (HXO.out.below HKF.out HXO.out.lt)
              have HYF := Lib.hid ((HOWN.out.below HKF.out).lasts HKF.out.size)
              have HTF := Lib.hid ((HST.out.below (HB1.out.trans (HKF.out.mono HB1.out.size))).lasts (HB1.out.trans (HKF.out.mono HB1.out.size)).size |>.less HB1.out.size)
              have d0 := bx0 H5F.out
              have d1 := bx1 H5F.out
              have d2 := bx2 H5F.out
              have d3 := bx3 H5F.out
              have d4 := bx4 H5F.out
              have m0 := bx0 HXF.out
              have m1 := bx1 HXF.out
              have m2 := bx2 HXF.out
              have m3 := bx3 HXF.out
              have m4 := bx4 HXF.out
              go_wp2_with fail
              clear d0 d1 d2 d3 d4
              clear m0 m1 m2 m3 m4
              have HC := Lib.hid (rtSame_any w4.heap.size y x S S _ HYF.out HTF.out ⟨by have := HSM.out.1.1; omega, by have := HSM.out.1.2.2.1; omega⟩ true (by simp))
              refine HC.out.mono ?_
              rintro e wf ⟨rfl, b9⟩
              have HBF := Lib.hid ((HB1.out.trans (HKF.out.mono HB1.out.size)).trans (b9.mono (HB1.out.trans (HKF.out.mono HB1.out.size)).size))
              clear b9 HC
              go_wp2_with fail
              go_ret
              exact ⟨rfl, HBF.out⟩
theorem storeReads_walk (x : SAt) (S : StL) (x2 : SAt) (S2 : StL) (p : Pt) (B : Option Addr) (lk ck : Nat) (key : List UInt8) (w : World) (h : Str w w.heap.size x S) (hnear : Near S.1) (hwf : WfS S) (h2 : Str w w.heap.size x2 S2) (hnear2 : Near S2.1) (hwf2 : WfS S2) (hwp : WfP p) (hK : Bsl w w.heap.size B lk ck key) :
    Calls Tryz.prog 4 #[stV x S, stV x2 S2, ptV p, .slice B lk ck] w fun e w' => e = .returned (.bool true) ∧ Below w.heap.size w w' := by
  obtain rfl := hK.1
  exact storeReads_at x S x2 S2 p B ck key w h hnear hwf h2 hnear2 hwf2 hwp hK
end Go.Proofs.YtdpmdlibgabjaaaGreat
namespace Go.Proofs.YtdpmdlibgabjaaaGreat.storeReads
open Go.ChangeShapes Go.WideShapes Go.ChangeAt Go.RowKit
set_option linter.unusedVariables false

theorem own : ownKnob Tryz.prog.godebug = none := by kernel_rfl
theorem laidOut : laidOutB Tryz.prog = true := by kernel_rfl

set_option maxRecDepth 100000 in
theorem lifted (os : Os) (started : os.Started) (H : Type) (enc : TypeId × Value → H) :
    ReturnsInHanded {} Tryz.checked os 4 .any (Rows.storeReadsSpec.pre6 enc Tryz.prog Tryz.f4 Rows.storeReadsRow.domain false) (Rows.storeReadsSpec.post enc Tryz.prog Tryz.f4 false true false false) := by
  refine returnsInHanded_of_change_sized (C := Tryz.checked) own started (by kernel_rfl) Tryz.func4
    (ChangeSpec.witness6 (enc := enc) (C := Tryz.checked) false ⟨#[], #[.agg #[.slice none 0 0, .slice none 0 0, .slice none 0 0, .int .u32 0, .int .u32 0], .agg #[.slice none 0 0, .slice none 0 0, .slice none 0 0, .int .u32 0, .int .u32 0], .agg #[.int .i64 0, .int .u32 0, .int .u32 0, .int .u32 0, .int .u32 0], .slice none 0 0], []⟩ 8 (by kernel_rfl) (by kernel_rfl) (by kernel_rfl) (by kernel_rfl)) ?_
  intro W base args ds gs before hval0 hW hcnd hsz _
  have hval : ∀ (j : Nat) t v, Tryz.f4.params[j]? = some t → args[j]? = some v → Value.okWide Tryz.prog W .any base t v := hval0
  have hW' := hW
  obtain ⟨p, q, hA0, hV, rfl, hfz, hnd⟩ := hW
  have hA : DataW.TrodAll enc Tryz.prog W 0 (fun _ => true) true Tryz.f4.params.toList args.toList ds p := hA0
  rw [Tryz.params4] at hA hval
  obtain ⟨v0, vs0, d0, ds0, p0, q0, hargs, rfl, rfl, h0, r0⟩ := trodAll_cons hA
  obtain ⟨v1, vs1, d1, ds1, p1, q1, rfl, rfl, rfl, h1, r1⟩ := trodAll_cons r0
  obtain ⟨v2, vs2, d2, ds2, p2, q2, rfl, rfl, rfl, h2, r2⟩ := trodAll_cons r1
  obtain ⟨v3, vs3, d3, ds3, p3, q3, rfl, rfl, rfl, h3, r3⟩ := trodAll_cons r2
  obtain ⟨rfl, rfl, rfl⟩ := trodAll_nil r3
  obtain rfl : args = #[v0, v1, v2, v3] := by cases args; simp_all
  obtain ⟨rfl, rfl⟩ := trodVars_none hV
  have k0 := h0
  have lt0 : ∀ x ∈ p0, x.block < W.heap.size := by obtain ⟨m, hm⟩ := k0; exact DataW.trod_lt m _ _ _ hm
  obtain ⟨x0, S0, rfl, w0, m0, f0⟩ := open_store (hval 0 29 v0 rfl rfl) h0 (fun n hn => by
    have := List.all_eq_true.1 hsz n (DataW.weights_mem_each (j := 0) (t := 29) (by kernel_rfl) rfl n hn)
    simpa using this)
  have k1 := h1
  have lt1 : ∀ x ∈ p1, x.block < W.heap.size := by obtain ⟨m, hm⟩ := k1; exact DataW.trod_lt m _ _ _ hm
  obtain ⟨x1, S1, rfl, w1, m1, f1⟩ := open_store (hval 1 29 v1 rfl rfl) h1 (fun n hn => by
    have := List.all_eq_true.1 hsz n (DataW.weights_mem_each (j := 1) (t := 29) (by kernel_rfl) rfl n hn)
    simpa using this)
  have k2 := h2
  have lt2 : ∀ x ∈ p2, x.block < W.heap.size := by obtain ⟨m, hm⟩ := k2; exact DataW.trod_lt m _ _ _ hm
  obtain ⟨z2, rfl, w2⟩ := open_ptr (hval 2 33 v2 rfl rfl) h2
  obtain ⟨a3, len3, cap3, rfl⟩ := okWide_slice Tryz.underlying26 (hval 3 26 v3 rfl rfl)
  have k3 := h3
  have lt3 : ∀ x ∈ p3, x.block < W.heap.size := by obtain ⟨m, hm⟩ := k3; exact DataW.trod_lt m _ _ _ hm
  obtain ⟨z3, w3⟩ : ∃ zs, IsRow .u8 W a3 len3 cap3 zs := by
    obtain ⟨fuel, hf⟩ := h3
    rcases open_ints Tryz.underlying26 Tryz.underlying5 (by kernel_rfl) hf with ⟨hcs, _⟩ | ⟨x, l, c, zs, hcs, _, hl, hm, hz, _, hcell, hwz⟩
    · simp [Value.cells] at hcs
      obtain ⟨rfl, rfl, rfl⟩ := hcs
      exact ⟨[], .inl ⟨rfl, rfl, rfl, rfl⟩⟩
    · simp [Value.cells] at hcs
      obtain ⟨rfl, rfl, rfl⟩ := hcs
      exact ⟨zs, .inr ⟨_, rfl, hl, hm, by simpa using hz, hcell, hwz⟩⟩
  clear hA0 hval0
  refine (storeReads_walk x0 S0 x1 S1 z2 a3 len3 cap3 _ W w0 m0 f0 w1 m1 f1 w2 (bsl_of_row w3)).mono fun e W' ⟨he, bel⟩ => ?_
  subst he
  exact ⟨_, rfl, _, _, _, [], _, [], hW', trodAll_mk1 (shut_bool Tryz.underlying4 _), (trodAll_cons_mk (Below.trod laidOut (by kernel_rfl) (of_decide_eq_true (by kernel_rfl)) k0 bel lt0) (trodAll_cons_mk (Below.trod laidOut (by kernel_rfl) (of_decide_eq_true (by kernel_rfl)) k1 bel lt1) (trodAll_cons_mk (Below.trod laidOut (by kernel_rfl) (of_decide_eq_true (by kernel_rfl)) k2 bel lt2) (trodAll_cons_mk (Below.trod laidOut (by kernel_rfl) (of_decide_eq_true (by kernel_rfl)) k3 bel lt3) trodAll_mk0)))), rfl, bel.frame _, fun h => by cases h⟩

theorem over : Rows.storeReadsRow.holds Tryz.pinned (OpenSpec.ofChange Rows.storeReadsSpec) :=
  OpenClaim.holds_of_wide 4 Tryz.f4 rfl rfl rfl rfl rfl rfl rfl ⟨rfl, rfl, rfl, rfl, rfl⟩ rfl rfl rfl rfl rfl (by kernel_rfl) Tryz.func4 (by kernel_rfl)
    (of_decide_eq_true (by kernel_rfl)) (by unfold Func.isWrapper; first | (rw [if_pos (by decide +kernel)]; kernel_rfl) | (rw [if_neg (by decide +kernel)]; exact ⟨rfl, rfl⟩))
    (fun os started H enc _ => lifted os started H enc)

/-- The statement. -/
theorem proved : Rows.StoreReadsSaid := over
end Go.Proofs.YtdpmdlibgabjaaaGreat.storeReads
