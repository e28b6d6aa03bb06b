/-
  Texts of one seat, one behind the other.
-/
import Derived.RangeFuncNested
import Derived.Deep.AppendLies
import Derived.Lib.SmallJoins
import Derived.Deep.Matrix
import Derived.Deep.SlicePairs
import Derived.ProofKit
import Derived.OpenShut
import Derived.Test.YtbggkfomfeeikaaGreatDoorRows
import Derived.Test.YtbggkfomfeeikaaGreatDoorTie
import Derived.Test.YtbggkfomfeeikaaGreatDoorCards
import Derived.LaidMore
import Derived.Stop.Joined
import Derived.SevenTiedAt
import Derived.Deep.Grids
import Derived.SizedLaws
import Derived.Test.YtbggkfomfeeikaaGreatDoorPkSA4
/-
  Set's own mayBe, ptrsOf, objectOf, Ptrs and Object: what they answer, in new memory; nothing that was there is written.
-/
namespace Go.Proofs.YtbggkfomfeeikaaGreatDoor
open Go.RowKit Go.Shelf
set_option maxRecDepth 100000

theorem seCheck_yes (L : Nat) (x : SAt) (S : StL) (w : World) (h : StP L w x S) (hL : L ≤ w.heap.size) (hm : MayS S) : Calls Tryz.prog 23 #[stV x S] w fun e w' => e = .returned (.int .i64 0) ∧ Below w.heap.size w w' := stCheck_all L x S w h hL 0 ⟨fun _ => rfl, fun h => absurd hm h⟩
theorem seCheck_no (L : Nat) (x : SAt) (S : StL) (w : World) (h : StP L w x S) (hL : L ≤ w.heap.size) (hm : ¬ MayS S) : Calls Tryz.prog 23 #[stV x S] w fun e w' => e = .returned (.int .i64 8) ∧ Below w.heap.size w w' := stCheck_all L x S w h hL 8 ⟨fun h => absurd h hm, fun _ => rfl⟩
theorem sePtr_chk (p : Pt) (w : World) (c : Int) (hc : pcheckO p = c) : Calls Tryz.prog 50 #[ptV p] w fun e w' => e = .returned (.int .i64 c) ∧ Below w.heap.size w w' := hc ▸ Check_any p w
theorem rowsO_c {s : List UInt8} (h : s.length = 256) : (rowsO s = ([], 8)) ∨ ((∀ p ∈ rowsL s, MayP p) ∧ rowsO s = (rowsL s, 0)) := by
  unfold rowsO
  rw [if_pos h]
  by_cases h2 : ∀ p ∈ rowsL s, MayP p
  · rw [if_pos h2]
    exact .inr ⟨h2, rfl⟩
  · rw [if_neg h2]
    exact .inl rfl
theorem oreadO_c {b : List UInt8} (h : b.length = 256) : (oreadO b = (ob0, 8)) ∨ (MayOb (decOb b) ∧ oreadO b = (decOb b, 0)) := by
  unfold oreadO
  rw [if_pos h]
  by_cases h2 : MayOb (decOb b) ∧ blockOb (decOb b) = b
  · rw [if_pos h2]
    exact .inr ⟨h2.1, rfl⟩
  · rw [if_neg h2]
    exact .inl rfl
theorem outOp_bad {w w' : World} {e : Ending} (h : OutOp (ob0, 8) w e w') : ∃ a c, e = .returned (.tuple #[.agg #[.int .u8 0, .int .i64 0, .int .i64 0, .slice a 0 c], .int .i64 8]) ∧ Pts w' w'.heap.size a 0 c [] ∧ HiP w' w.heap.size a ∧ Below w.heap.size w w' := h
theorem HiP.hi {w : World} {B : Nat} {a : Option Addr} (h : HiP w B a) : HiA B a := fun p e => (h p e).1
theorem seMay_any (L : Nat) (x : SAt) (S : StL) (p : Pt) (w : World) (h : StP L w x S) (hL : L ≤ w.heap.size) (R : Bool) (hR : R = true ↔ MayS S ∧ MayP p) : Calls Tryz.prog 29 #[stV x S, ptV p] w fun e w' => e = .returned (.bool R) ∧ Below w.heap.size w w' := by
  obtain ⟨pa, pb, pi, pt, ps⟩ := p
  obtain ⟨w0, hw0, b0, z0, q1, q2⟩ := two_al w (stC x S) (ptA (pa, pb, pi, pt, ps)) 30 32
  obtain ⟨g, hg⟩ : ∃ g, w.heap.size = g := ⟨_, rfl⟩
  obtain ⟨g1, hg1⟩ : ∃ g1, g + 1 = g1 := ⟨_, rfl⟩
  rw [hg] at q1 q2
  rw [hg1] at q2
  have HX := Lib.hid q1
  have HQ := Lib.hid q2
  have HT := Lib.hid (h.bel b0)
  have HB := Lib.hid b0
  have HLW := Lib.hid (show L ≤ w0.heap.size from Nat.le_trans hL b0.size)
  simp only [stC, ptA] at hw0
  clear h b0 z0 q1 q2 hL
  by_cases hm : MayS S
  · by_cases hmp : MayP (pa, pb, pi, pt, ps)
    · have HMY := Lib.hid (seCheck_yes L x S w0 HT.out HLW.out hm)
      obtain rfl : R = true := hR.2 ⟨hm, hmp⟩
      have HPM := Lib.hid (fun W => sePtr_chk (pa, pb, pi, pt, ps) W 0 (by unfold pcheckO; rw [if_pos hmp]))
      clear hR hm hmp
      have d0 := bx0 HX.out
      have d1 := bx1 HX.out
      have d2 := bx2 HX.out
      have d3 := bx3 HX.out
      have d4 := bx4 HX.out
      go_enter Tryz.func29, Tryz.ntmps29
      go_wp2_with fail
      try rw [hw0]
      try rw [hg]
      try rw [hg1]
      clear hw0 hg hg1
      clear d0 d1 d2 d3 d4
      refine HMY.out.mono ?_
      rintro e w1 ⟨rfl, b1⟩
      replace HX := Lib.hid (HX.out.below b1 HX.out.lt)
      replace HQ := Lib.hid (HQ.out.below b1 HQ.out.lt)
      replace HT := Lib.hid (HT.out.bel b1)
      replace HB := Lib.hid (HB.out.trans (b1.mono HB.out.size))
      replace HLW := Lib.hid (Nat.le_trans HLW.out b1.size)
      clear b1 HMY
      have q0 := bx0 HQ.out
      have q1 := bx1 HQ.out
      have q2 := bx2 HQ.out
      have q3 := bx3 HQ.out
      have q4 := bx4 HQ.out
      go_wp2_with fail
      clear q0 q1 q2 q3 q4
      refine (HPM.out w1).mono ?_
      rintro e w2 ⟨rfl, b2⟩
      replace HX := Lib.hid (HX.out.below b2 HX.out.lt)
      replace HQ := Lib.hid (HQ.out.below b2 HQ.out.lt)
      replace HT := Lib.hid (HT.out.bel b2)
      replace HB := Lib.hid (HB.out.trans (b2.mono HB.out.size))
      replace HLW := Lib.hid (Nat.le_trans HLW.out b2.size)
      clear b2 HPM
      go_wp2_with fail
      go_ret
      exact ⟨rfl, HB.out⟩
    · have HMY := Lib.hid (seCheck_yes L x S w0 HT.out HLW.out hm)
      obtain rfl : R = false := by cases R with | false => rfl | true => exact absurd (hR.1 rfl).2 hmp
      have HPM := Lib.hid (fun W => sePtr_chk (pa, pb, pi, pt, ps) W 8 (by unfold pcheckO; rw [if_neg hmp]))
      clear hR hm hmp
      have d0 := bx0 HX.out
      have d1 := bx1 HX.out
      have d2 := bx2 HX.out
      have d3 := bx3 HX.out
      have d4 := bx4 HX.out
      go_enter Tryz.func29, Tryz.ntmps29
      go_wp2_with fail
      try rw [hw0]
      try rw [hg]
      try rw [hg1]
      clear hw0 hg hg1
      clear d0 d1 d2 d3 d4
      refine HMY.out.mono ?_
      rintro e w1 ⟨rfl, b1⟩
      replace HX := Lib.hid (HX.out.below b1 HX.out.lt)
      replace HQ := Lib.hid (HQ.out.below b1 HQ.out.lt)
      replace HT := Lib.hid (HT.out.bel b1)
      replace HB := Lib.hid (HB.out.trans (b1.mono HB.out.size))
      replace HLW := Lib.hid (Nat.le_trans HLW.out b1.size)
      clear b1 HMY
      have q0 := bx0 HQ.out
      have q1 := bx1 HQ.out
      have q2 := bx2 HQ.out
      have q3 := bx3 HQ.out
      have q4 := bx4 HQ.out
      go_wp2_with fail
      clear q0 q1 q2 q3 q4
      refine (HPM.out w1).mono ?_
      rintro e w2 ⟨rfl, b2⟩
      replace HX := Lib.hid (HX.out.below b2 HX.out.lt)
      replace HQ := Lib.hid (HQ.out.below b2 HQ.out.lt)
      replace HT := Lib.hid (HT.out.bel b2)
      replace HB := Lib.hid (HB.out.trans (b2.mono HB.out.size))
      replace HLW := Lib.hid (Nat.le_trans HLW.out b2.size)
      clear b2 HPM
      go_wp2_with fail
      go_ret
      exact ⟨rfl, HB.out⟩
  · have HMY := Lib.hid (seCheck_no L x S w0 HT.out HLW.out hm)
    obtain rfl : R = false := by cases R with | false => rfl | true => exact absurd (hR.1 rfl).1 hm
    clear hR hm
    have d0 := bx0 HX.out
    have d1 := bx1 HX.out
    have d2 := bx2 HX.out
    have d3 := bx3 HX.out
    have d4 := bx4 HX.out
    go_enter Tryz.func29, Tryz.ntmps29
    go_wp2_with fail
    try rw [hw0]
    try rw [hg]
    try rw [hg1]
    clear hw0 hg hg1
    clear d0 d1 d2 d3 d4
    refine HMY.out.mono ?_
    rintro e w1 ⟨rfl, b1⟩
    replace HX := Lib.hid (HX.out.below b1 HX.out.lt)
    replace HQ := Lib.hid (HQ.out.below b1 HQ.out.lt)
    replace HT := Lib.hid (HT.out.bel b1)
    replace HB := Lib.hid (HB.out.trans (b1.mono HB.out.size))
    replace HLW := Lib.hid (Nat.le_trans HLW.out b1.size)
    clear b1 HMY
    go_wp2_with fail
    go_ret
    exact ⟨rfl, HB.out⟩
set_option maxHeartbeats 4000000 in
theorem seRow_any (L : Nat) (x : SAt) (S : StL) (p : Pt) (w : World) (h : StP L w x S) (hm : MayS S) (hmp : MayP p) (hwp : WfP p) (hL : L ≤ w.heap.size) (hz : Szs w) : Calls Tryz.prog 31 #[stV x S, ptV p] w (OutLs (rowSO S p) w) := by
  have hmp2 := hmp
  have hwp2 := hwp
  clear hmp hwp
  obtain ⟨pa, pb, pi, pt, ps⟩ := p
  obtain ⟨w0, hw0, b0, z0, q1, q2⟩ := two_al w (stC x S) (ptA (pa, pb, pi, pt, ps)) 30 32
  obtain ⟨g, hg⟩ : ∃ g, w.heap.size = g := ⟨_, rfl⟩
  obtain ⟨g1, hg1⟩ : ∃ g1, g + 1 = g1 := ⟨_, rfl⟩
  rw [hg] at q1 q2
  rw [hg1] at q2
  have HX := Lib.hid q1
  have HQ := Lib.hid q2
  have HT := Lib.hid (h.bel b0)
  have HB := Lib.hid b0
  have HLW := Lib.hid (show L ≤ w0.heap.size from Nat.le_trans hL b0.size)
  simp only [stC, ptA] at hw0
  clear h b0 z0 q1 q2 hL
  have HZ := Lib.hid (hz.step HB.out)
  clear hz
  by_cases hp0 : ((pa, pb, pi, pt, ps) : Pt) = p0
  · clear hm hmp2 hwp2
    have hnn : eqP (pa, pb, pi, pt, ps) p0 = true := (eqP_iff _ _).2 hp0
    have hne := eqPt_zero pa pb pi pt ps
    rw [hnn] at hne
    have HO := Lib.hid (show rowSO S (pa, pb, pi, pt, ps) = (List.replicate 16 p0, 0) by rw [hp0]; exact rowSO_none S)
    have hmk := make_none16 w0
    have bm := (Below.refl w0.heap.size w0).alloc (Nat.le_refl _) (.cells noPts16 32)
    have xm := Blk.new w0 32 noPts16
    clear hp0 hnn
    have q0 := bx0 HQ.out
    have q1 := bx1 HQ.out
    have q2 := bx2 HQ.out
    have q3 := bx3 HQ.out
    have q4 := bx4 HQ.out
    go_enter Tryz.func31, Tryz.ntmps31
    go_wp2_with fail
    try rw [hw0]
    try rw [hg]
    try rw [hg1]
    clear hw0 hg hg1
    clear q0 q1 q2 q3 q4
    go_ret2
    rw [HO.out]
    exact ⟨_, _, rfl, none16_pts xm, (fun p e => by cases e; exact HB.out.size), HB.out.trans (bm.mono HB.out.size)⟩
  · have hne := eqPt_zero pa pb pi pt ps
    rw [show eqP (pa, pb, pi, pt, ps) p0 = false from decide_eq_false hp0] at hne
    obtain ⟨⟨sb, se⟩, hse⟩ : ∃ o, seenO S (pa, pb, pi, pt, ps) = o := ⟨_, rfl⟩
    have hsn := fun W hW hLW => stLook_all L x S (pa, pb, pi, pt, ps) W hW hwp2 hLW
    rw [lookO_may hm hmp2, hse] at hsn
    have HSE := Lib.hid hsn
    clear hsn hwp2
    by_cases he : se ≠ 0
    · clear hm hmp2
      have HO := Lib.hid (show rowSO S (pa, pb, pi, pt, ps) = ([], se) by unfold rowSO; rw [if_neg hp0, hse, if_pos he])
      have e1 : ((se : Int) != 0) = true := by simp; omega
      clear hp0 hse he
      have d0 := bx0 HX.out
      have d1 := bx1 HX.out
      have d2 := bx2 HX.out
      have d3 := bx3 HX.out
      have d4 := bx4 HX.out
      have q0 := bx0 HQ.out
      have q1 := bx1 HQ.out
      have q2 := bx2 HQ.out
      have q3 := bx3 HQ.out
      have q4 := bx4 HQ.out
      go_enter Tryz.func31, Tryz.ntmps31
      go_wp2_with fail
      try rw [hw0]
      try rw [hg]
      try rw [hg1]
      clear hw0 hg hg1
      clear d0 d1 d2 d3 d4
      clear q0 q1 q2 q3 q4
      refine (HSE.out w0 HT.out HLW.out).mono ?_
      rintro e w2 ⟨v, rfl, hv, b2⟩
      replace HX := Lib.hid (HX.out.below b2 HX.out.lt)
      replace HQ := Lib.hid (HQ.out.below b2 HQ.out.lt)
      replace HT := Lib.hid (HT.out.bel b2)
      replace HB := Lib.hid (HB.out.trans (b2.mono HB.out.size))
      replace HZ := Lib.hid (HZ.out.step b2)
      replace HLW := Lib.hid (Nat.le_trans HLW.out b2.size)
      obtain ⟨av, cv, rfl⟩ := own_slice hv
      clear b2 hv
      go_wp2_with fail
      go_ret2
      rw [HO.out]
      exact outLs_no se HB.out
    · obtain rfl : se = 0 := by omega
      have hlen := seenO_len hm hmp2 hse
      have e1 : (((0 : Nat) : Int) != 0) = false := rfl
      have HP0 := Lib.hid hp0
      have HSO := Lib.hid hse
      have HLN := Lib.hid hlen
      clear hp0 hse he
      rcases rowsO_c hlen with hf | ⟨_, hf⟩
      · have HO := Lib.hid (show rowSO S (pa, pb, pi, pt, ps) = ([], 8) by unfold rowSO; rw [if_neg HP0.out, HSO.out, if_neg (fun h => h rfl), hf, if_pos (by decide)])
        clear hlen
        have d0 := bx0 HX.out
        have d1 := bx1 HX.out
        have d2 := bx2 HX.out
        have d3 := bx3 HX.out
        have d4 := bx4 HX.out
        have q0 := bx0 HQ.out
        have q1 := bx1 HQ.out
        have q2 := bx2 HQ.out
        have q3 := bx3 HQ.out
        have q4 := bx4 HQ.out
        go_enter Tryz.func31, Tryz.ntmps31
        go_wp2_with fail
        try rw [hw0]
        try rw [hg]
        try rw [hg1]
        clear hw0 hg hg1
        clear d0 d1 d2 d3 d4
        clear q0 q1 q2 q3 q4
        refine (HSE.out w0 HT.out HLW.out).mono ?_
        rintro e w2 ⟨v, rfl, hv, b2⟩
        replace HX := Lib.hid (HX.out.below b2 HX.out.lt)
        replace HQ := Lib.hid (HQ.out.below b2 HQ.out.lt)
        replace HT := Lib.hid (HT.out.bel b2)
        replace HB := Lib.hid (HB.out.trans (b2.mono HB.out.size))
        replace HZ := Lib.hid (HZ.out.step b2)
        replace HLW := Lib.hid (Nat.le_trans HLW.out b2.size)
        simp only [HLN.out] at hv
        obtain ⟨av, cv, rfl⟩ := own_slice hv
        have hrw := Rows_any av 256 cv sb w2 (own_bsl hv) HZ.out
        rw [hf] at hrw
        have HRW := Lib.hid hrw
        clear b2 hv hrw
        go_wp2_with fail
        refine HRW.out.mono ?_
        rintro e w3 ⟨v3, rfl, hp3, b3⟩
        have HB2 := Lib.hid (show w.heap.size ≤ w2.heap.size from HB.out.size)
        replace HX := Lib.hid (HX.out.below b3 HX.out.lt)
        replace HQ := Lib.hid (HQ.out.below b3 HQ.out.lt)
        replace HT := Lib.hid (HT.out.bel b3)
        replace HB := Lib.hid (HB.out.trans (b3.mono HB.out.size))
        replace HZ := Lib.hid (HZ.out.step b3)
        replace HLW := Lib.hid (Nat.le_trans HLW.out b3.size)
        obtain ⟨a3, c3, rfl, ht3⟩ := hp3.pts
        have hh3 := prow_hi hp3
        clear b3 hp3
        go_wp2_with fail
        go_ret2
        rw [HO.out]
        exact ⟨_, _, rfl, ht3, hh3.less HB2.out, HB.out⟩
      · have HO := Lib.hid (show rowSO S (pa, pb, pi, pt, ps) = (rowsL sb, 0) by unfold rowSO; rw [if_neg HP0.out, HSO.out, if_neg (fun h => h rfl), hf, if_neg (fun h => h rfl)])
        clear hlen
        have d0 := bx0 HX.out
        have d1 := bx1 HX.out
        have d2 := bx2 HX.out
        have d3 := bx3 HX.out
        have d4 := bx4 HX.out
        have q0 := bx0 HQ.out
        have q1 := bx1 HQ.out
        have q2 := bx2 HQ.out
        have q3 := bx3 HQ.out
        have q4 := bx4 HQ.out
        go_enter Tryz.func31, Tryz.ntmps31
        go_wp2_with fail
        try rw [hw0]
        try rw [hg]
        try rw [hg1]
        clear hw0 hg hg1
        clear d0 d1 d2 d3 d4
        clear q0 q1 q2 q3 q4
        refine (HSE.out w0 HT.out HLW.out).mono ?_
        rintro e w2 ⟨v, rfl, hv, b2⟩
        replace HX := Lib.hid (HX.out.below b2 HX.out.lt)
        replace HQ := Lib.hid (HQ.out.below b2 HQ.out.lt)
        replace HT := Lib.hid (HT.out.bel b2)
        replace HB := Lib.hid (HB.out.trans (b2.mono HB.out.size))
        replace HZ := Lib.hid (HZ.out.step b2)
        replace HLW := Lib.hid (Nat.le_trans HLW.out b2.size)
        simp only [HLN.out] at hv
        obtain ⟨av, cv, rfl⟩ := own_slice hv
        have hrw := Rows_any av 256 cv sb w2 (own_bsl hv) HZ.out
        rw [hf] at hrw
        have HRW := Lib.hid hrw
        clear b2 hv hrw
        go_wp2_with fail
        refine HRW.out.mono ?_
        rintro e w3 ⟨v3, rfl, hp3, b3⟩
        have HB2 := Lib.hid (show w.heap.size ≤ w2.heap.size from HB.out.size)
        replace HX := Lib.hid (HX.out.below b3 HX.out.lt)
        replace HQ := Lib.hid (HQ.out.below b3 HQ.out.lt)
        replace HT := Lib.hid (HT.out.bel b3)
        replace HB := Lib.hid (HB.out.trans (b3.mono HB.out.size))
        replace HZ := Lib.hid (HZ.out.step b3)
        replace HLW := Lib.hid (Nat.le_trans HLW.out b3.size)
        obtain ⟨a3, c3, rfl, ht3⟩ := hp3.pts
        have hh3 := prow_hi hp3
        clear b3 hp3
        go_wp2_with fail
        go_ret2
        rw [HO.out]
        exact ⟨_, _, rfl, ht3, hh3.less HB2.out, HB.out⟩
set_option maxHeartbeats 4000000 in
theorem seOne_any (L : Nat) (x : SAt) (S : StL) (p : Pt) (w : World) (h : StP L w x S) (hm : MayS S) (hmp : MayP p) (hwp : WfP p) (hL : L ≤ w.heap.size) (hz : Szs w) : Calls Tryz.prog 32 #[stV x S, ptV p] w (OutOs (oneSO S p) w) := by
  have hmp2 := hmp
  have hwp2 := hwp
  clear hmp hwp
  obtain ⟨pa, pb, pi, pt, ps⟩ := p
  obtain ⟨w0, hw0, b0, z0, q1, q2, q3⟩ := three_al w (stC x S) (ptA (pa, pb, pi, pt, ps)) #[.int .u8 0, .int .i64 0, .int .i64 0, .slice none 0 0] 30 32 40
  obtain ⟨g, hg⟩ : ∃ g, w.heap.size = g := ⟨_, rfl⟩
  obtain ⟨g1, hg1⟩ : ∃ g1, g + 1 = g1 := ⟨_, rfl⟩
  obtain ⟨g2, hg2⟩ : ∃ g2, g1 + 1 = g2 := ⟨_, rfl⟩
  rw [hg] at q1 q2 q3
  rw [hg1] at q2
  rw [show g + 2 = g1 + 1 by omega, hg2] at q3
  have HX := Lib.hid q1
  have HQ := Lib.hid q2
  have HZO := Lib.hid q3
  have HT := Lib.hid (h.bel b0)
  have HB := Lib.hid b0
  have HGE := Lib.hid (show w.heap.size ≤ g2 by omega)
  have HG2 := Lib.hid (show g2 < w0.heap.size by omega)
  have HGN := Lib.hid (show g ≠ g2 by omega)
  have HLW := Lib.hid (show L ≤ w0.heap.size from Nat.le_trans hL b0.size)
  simp only [stC, ptA] at hw0
  clear h b0 z0 q1 q2 q3 hL
  have HZ := Lib.hid (hz.step HB.out)
  clear hz
  obtain ⟨⟨sb, se⟩, hse⟩ : ∃ o, seenO S (pa, pb, pi, pt, ps) = o := ⟨_, rfl⟩
  have hsn := fun W hW hLW => stLook_all L x S (pa, pb, pi, pt, ps) W hW hwp2 hLW
  rw [lookO_may hm hmp2, hse] at hsn
  have HSE := Lib.hid hsn
  clear hsn hwp2
  by_cases he : se ≠ 0
  · have HO := Lib.hid (show oneSO S (pa, pb, pi, pt, ps) = (ob0, se) by unfold oneSO; rw [hse, if_pos he])
    have e1 : ((se : Int) != 0) = true := by simp; omega
    clear hse he hm hmp2
    have d0 := bx0 HX.out
    have d1 := bx1 HX.out
    have d2 := bx2 HX.out
    have d3 := bx3 HX.out
    have d4 := bx4 HX.out
    have q0 := bx0 HQ.out
    have q1 := bx1 HQ.out
    have q2 := bx2 HQ.out
    have q3 := bx3 HQ.out
    have q4 := bx4 HQ.out
    go_enter Tryz.func32, Tryz.ntmps32
    go_wp2_with fail
    try rw [hw0]
    try rw [hg]
    try rw [hg1]
    try rw [hg2]
    clear hw0 hg hg1 hg2
    clear d0 d1 d2 d3 d4
    clear q0 q1 q2 q3 q4
    refine (HSE.out w0 HT.out HLW.out).mono ?_
    rintro e w2 ⟨v, rfl, hv, b2⟩
    replace HX := Lib.hid (HX.out.below b2 HX.out.lt)
    replace HQ := Lib.hid (HQ.out.below b2 HQ.out.lt)
    replace HZO := Lib.hid (HZO.out.below b2 HZO.out.lt)
    replace HT := Lib.hid (HT.out.bel b2)
    replace HB := Lib.hid (HB.out.trans (b2.mono HB.out.size))
    replace HZ := Lib.hid (HZ.out.step b2)
    replace HLW := Lib.hid (Nat.le_trans HLW.out b2.size)
    obtain ⟨av, cv, rfl⟩ := own_slice hv
    clear b2 hv HSE
    have m0 := ox0 HZO.out
    have m1 := ox1 HZO.out
    have m2 := ox2 HZO.out
    have m3 := ox3 HZO.out
    have hfz := fun i => HZO.out.frozen i
    have xz := HZO.out.set4 (.int .u8 0) (.int .i64 0) (.int .i64 0) (.slice none 0 0)
    have bz := below_set4 HB.out HGE.out (.int .u8 0) (.int .i64 0) (.int .i64 0) (.slice none 0 0)
    obtain ⟨wz, hwz⟩ : ∃ X, (((w2.setCell ⟨g2, 0, none⟩ (.int .u8 0)).setCell ⟨g2, 1, none⟩ (.int .i64 0)).setCell ⟨g2, 2, none⟩ (.int .i64 0)).setCell ⟨g2, 3, none⟩ (.slice none 0 0) = X := ⟨_, rfl⟩
    rw [hwz] at xz bz
    have HXZ := Lib.hid xz
    have HBZ := Lib.hid bz
    clear xz bz
    go_wp2_with fail
    clear m0 m1 m2 m3 hfz hwz
    have e0 := ox0 HXZ.out
    have e1 := ox1 HXZ.out
    have e2 := ox2 HXZ.out
    have e3 := ox3 HXZ.out
    refine bodyPost_ret (v := .tuple #[.agg #[.int .u8 0, .int .i64 0, .int .i64 0, .slice none 0 0], .int .i64 se]) (by simp [results, Tryz.f32, go_sem, e0, e1, e2, e3]) rfl ?_
    rw [HO.out]
    exact outOs_no se HBZ.out
  · obtain rfl : se = 0 := by omega
    have hlen := seenO_len hm hmp2 hse
    have e1 : (((0 : Nat) : Int) != 0) = false := rfl
    have HSO := Lib.hid hse
    have HLN := Lib.hid hlen
    clear hse he hm hmp2
    rcases oreadO_c hlen with hf | ⟨hmo, hf⟩
    · have HO := Lib.hid (show oneSO S (pa, pb, pi, pt, ps) = (ob0, 8) by unfold oneSO; rw [HSO.out, if_neg (fun h => h rfl), hf, if_pos (by decide)])
      clear hlen
      have d0 := bx0 HX.out
      have d1 := bx1 HX.out
      have d2 := bx2 HX.out
      have d3 := bx3 HX.out
      have d4 := bx4 HX.out
      have q0 := bx0 HQ.out
      have q1 := bx1 HQ.out
      have q2 := bx2 HQ.out
      have q3 := bx3 HQ.out
      have q4 := bx4 HQ.out
      go_enter Tryz.func32, Tryz.ntmps32
      go_wp2_with fail
      try rw [hw0]
      try rw [hg]
      try rw [hg1]
      try rw [hg2]
      clear hw0 hg hg1 hg2
      clear d0 d1 d2 d3 d4
      clear q0 q1 q2 q3 q4
      refine (HSE.out w0 HT.out HLW.out).mono ?_
      rintro e w2 ⟨v, rfl, hv, b2⟩
      replace HX := Lib.hid (HX.out.below b2 HX.out.lt)
      replace HQ := Lib.hid (HQ.out.below b2 HQ.out.lt)
      replace HZO := Lib.hid (HZO.out.below b2 HZO.out.lt)
      replace HT := Lib.hid (HT.out.bel b2)
      replace HB := Lib.hid (HB.out.trans (b2.mono HB.out.size))
      replace HZ := Lib.hid (HZ.out.step b2)
      replace HLW := Lib.hid (Nat.le_trans HLW.out b2.size)
      simp only [HLN.out] at hv
      obtain ⟨av, cv, rfl⟩ := own_slice hv
      have hrd := obRead_any av cv sb w2 (by rw [HLN.out]; exact own_bsl hv) HZ.out
      rw [hf, HLN.out] at hrd
      have HRD := Lib.hid hrd
      have HB2 := Lib.hid (show w.heap.size ≤ w2.heap.size from HB.out.size)
      have HG3 := Lib.hid (show g2 < w2.heap.size from HZO.out.lt)
      clear b2 hv hrd HSE hf
      go_wp2_with fail
      refine HRD.out.mono ?_
      intro e w3 ho
      obtain ⟨a3, c3, rfl, ht3, hi3, b3⟩ := outOp_bad ho
      clear ho
      replace HX := Lib.hid (HX.out.below b3 HX.out.lt)
      replace HQ := Lib.hid (HQ.out.below b3 HQ.out.lt)
      replace HZO := Lib.hid (HZO.out.below b3 HZO.out.lt)
      replace HT := Lib.hid (HT.out.bel b3)
      replace HB := Lib.hid (HB.out.trans (b3.mono HB.out.size))
      replace HZ := Lib.hid (HZ.out.step b3)
      replace HLW := Lib.hid (Nat.le_trans HLW.out b3.size)
      clear b3 HRD
      have HP := Lib.hid ht3
      have HHI := Lib.hid hi3.hi
      clear ht3 hi3
      have m0 := ox0 HZO.out
      have m1 := ox1 HZO.out
      have m2 := ox2 HZO.out
      have m3 := ox3 HZO.out
      have hfz := fun i => HZO.out.frozen i
      have xz := HZO.out.set4 (.int .u8 0) (.int .i64 0) (.int .i64 0) (.slice a3 0 c3)
      have bz := below_set4 HB.out HGE.out (.int .u8 0) (.int .i64 0) (.int .i64 0) (.slice a3 0 c3)
      have hpz := HP.out.box4 (fun p e => Nat.lt_of_lt_of_le HG3.out (HHI.out p e)) (.int .u8 0) (.int .i64 0) (.int .i64 0) (.slice a3 0 c3)
      obtain ⟨wz, hwz⟩ : ∃ X, (((w3.setCell ⟨g2, 0, none⟩ (.int .u8 0)).setCell ⟨g2, 1, none⟩ (.int .i64 0)).setCell ⟨g2, 2, none⟩ (.int .i64 0)).setCell ⟨g2, 3, none⟩ (.slice a3 0 c3) = X := ⟨_, rfl⟩
      rw [hwz] at xz bz hpz
      have HXZ := Lib.hid xz
      have HBZ := Lib.hid bz
      clear xz bz
      have HPZ := Lib.hid (hpz.more (show w3.heap.size ≤ wz.heap.size by rw [← hwz]; simp [World.setCell]))
      clear hpz
      go_wp2_with fail
      clear m0 m1 m2 m3 hfz hwz
      have e0 := ox0 HXZ.out
      have e1 := ox1 HXZ.out
      have e2 := ox2 HXZ.out
      have e3 := ox3 HXZ.out
      refine bodyPost_ret (v := .tuple #[.agg #[.int .u8 0, .int .i64 0, .int .i64 0, .slice a3 0 c3], .int .i64 8]) (by simp [results, Tryz.f32, go_sem, e0, e1, e2, e3]) rfl ?_
      rw [HO.out]
      refine ⟨a3, c3, ?_, ?_, HHI.out.less HB2.out, HBZ.out⟩
      · rfl
      · exact HPZ.out
    · obtain ⟨O, hO⟩ : ∃ O, decOb sb = O := ⟨_, rfl⟩
      rw [hO] at hf hmo
      have HO := Lib.hid (show oneSO S (pa, pb, pi, pt, ps) = (O, 0) by unfold oneSO; rw [HSO.out, if_neg (fun h => h rfl), hf, if_neg (fun h => h rfl)])
      obtain ⟨k5, l5, r5, L5⟩ := O
      have h15 := hmo.1.2.2.2
      simp only at h15
      have H15 := Lib.hid h15
      clear hO hmo h15 hlen
      have d0 := bx0 HX.out
      have d1 := bx1 HX.out
      have d2 := bx2 HX.out
      have d3 := bx3 HX.out
      have d4 := bx4 HX.out
      have q0 := bx0 HQ.out
      have q1 := bx1 HQ.out
      have q2 := bx2 HQ.out
      have q3 := bx3 HQ.out
      have q4 := bx4 HQ.out
      go_enter Tryz.func32, Tryz.ntmps32
      go_wp2_with fail
      try rw [hw0]
      try rw [hg]
      try rw [hg1]
      try rw [hg2]
      clear hw0 hg hg1 hg2
      clear d0 d1 d2 d3 d4
      clear q0 q1 q2 q3 q4
      refine (HSE.out w0 HT.out HLW.out).mono ?_
      rintro e w2 ⟨v, rfl, hv, b2⟩
      replace HX := Lib.hid (HX.out.below b2 HX.out.lt)
      replace HQ := Lib.hid (HQ.out.below b2 HQ.out.lt)
      replace HZO := Lib.hid (HZO.out.below b2 HZO.out.lt)
      replace HT := Lib.hid (HT.out.bel b2)
      replace HB := Lib.hid (HB.out.trans (b2.mono HB.out.size))
      replace HZ := Lib.hid (HZ.out.step b2)
      replace HLW := Lib.hid (Nat.le_trans HLW.out b2.size)
      simp only [HLN.out] at hv
      obtain ⟨av, cv, rfl⟩ := own_slice hv
      have hrd := obRead_any av cv sb w2 (by rw [HLN.out]; exact own_bsl hv) HZ.out
      rw [hf, HLN.out] at hrd
      have HRD := Lib.hid hrd
      have HB2 := Lib.hid (show w.heap.size ≤ w2.heap.size from HB.out.size)
      have HG3 := Lib.hid (show g2 < w2.heap.size from HZO.out.lt)
      clear b2 hv hrd HSE hf
      go_wp2_with fail
      refine HRD.out.mono ?_
      rintro e w3 ⟨a3, c3, rfl, ht3, hi3, b3⟩
      replace HX := Lib.hid (HX.out.below b3 HX.out.lt)
      replace HQ := Lib.hid (HQ.out.below b3 HQ.out.lt)
      replace HZO := Lib.hid (HZO.out.below b3 HZO.out.lt)
      replace HT := Lib.hid (HT.out.bel b3)
      replace HB := Lib.hid (HB.out.trans (b3.mono HB.out.size))
      replace HZ := Lib.hid (HZ.out.step b3)
      replace HLW := Lib.hid (Nat.le_trans HLW.out b3.size)
      clear b3 HRD
      simp only [H15.out] at ht3 ⊢
      have HP := Lib.hid ht3
      have HHI := Lib.hid hi3.hi
      clear ht3 hi3
      have m0 := ox0 HZO.out
      have m1 := ox1 HZO.out
      have m2 := ox2 HZO.out
      have m3 := ox3 HZO.out
      have hfz := fun i => HZO.out.frozen i
      have xz := HZO.out.set4 (.int .u8 (k5 : Int)) (.int .i64 l5) (.int .i64 r5) (.slice a3 15 c3)
      have bz := below_set4 HB.out HGE.out (.int .u8 (k5 : Int)) (.int .i64 l5) (.int .i64 r5) (.slice a3 15 c3)
      have hpz := HP.out.box4 (fun p e => Nat.lt_of_lt_of_le HG3.out (HHI.out p e)) (.int .u8 (k5 : Int)) (.int .i64 l5) (.int .i64 r5) (.slice a3 15 c3)
      obtain ⟨wz, hwz⟩ : ∃ X, (((w3.setCell ⟨g2, 0, none⟩ (.int .u8 (k5 : Int))).setCell ⟨g2, 1, none⟩ (.int .i64 l5)).setCell ⟨g2, 2, none⟩ (.int .i64 r5)).setCell ⟨g2, 3, none⟩ (.slice a3 15 c3) = X := ⟨_, rfl⟩
      rw [hwz] at xz bz hpz
      have HXZ := Lib.hid xz
      have HBZ := Lib.hid bz
      clear xz bz
      have HPZ := Lib.hid (hpz.more (show w3.heap.size ≤ wz.heap.size by rw [← hwz]; simp [World.setCell]))
      clear hpz
      go_wp2_with fail
      clear m0 m1 m2 m3 hfz hwz
      have e0 := ox0 HXZ.out
      have e1 := ox1 HXZ.out
      have e2 := ox2 HXZ.out
      have e3 := ox3 HXZ.out
      refine bodyPost_ret (v := .tuple #[.agg #[.int .u8 (k5 : Int), .int .i64 l5, .int .i64 r5, .slice a3 15 c3], .int .i64 0]) (by simp [results, Tryz.f32, go_sem, e0, e1, e2, e3]) rfl ?_
      rw [HO.out]
      refine ⟨a3, c3, ?_, ?_, HHI.out.less HB2.out, HBZ.out⟩
      · simp only [H15.out]
        rfl
      · simp only [H15.out]
        exact HPZ.out
theorem setPtrs_any (L : Nat) (x : SAt) (S : StL) (p : Pt) (w : World) (h : StP L w x S) (_hwf : WfS S) (hwp : WfP p) (hL : L ≤ w.heap.size) (hz : Szs w) : Calls Tryz.prog 13 #[stV x S, ptV p] w (OutLs (ptrsSO S p) w) := by
  have hwp2 := hwp
  clear hwp
  obtain ⟨pa, pb, pi, pt, ps⟩ := p
  obtain ⟨w0, hw0, b0, z0, q1, q2⟩ := two_al w (stC x S) (ptA (pa, pb, pi, pt, ps)) 30 32
  obtain ⟨g, hg⟩ : ∃ g, w.heap.size = g := ⟨_, rfl⟩
  obtain ⟨g1, hg1⟩ : ∃ g1, g + 1 = g1 := ⟨_, rfl⟩
  rw [hg] at q1 q2
  rw [hg1] at q2
  have HX := Lib.hid q1
  have HQ := Lib.hid q2
  have HT := Lib.hid (h.bel b0)
  have HB := Lib.hid b0
  have HLW := Lib.hid (show L ≤ w0.heap.size from Nat.le_trans hL b0.size)
  simp only [stC, ptA] at hw0
  clear h b0 z0 q1 q2 hL
  have HZ := Lib.hid (hz.step HB.out)
  clear hz
  by_cases hm : MayS S ∧ MayP (pa, pb, pi, pt, ps)
  · have HMY := Lib.hid (seMay_any L x S (pa, pb, pi, pt, ps) w0 HT.out HLW.out true ⟨fun _ => hm, fun _ => rfl⟩)
    have HO := Lib.hid (ptrsSO_may hm.1 hm.2)
    have HRW := Lib.hid (fun W hW hLW hzW => seRow_any L x S (pa, pb, pi, pt, ps) W hW hm.1 hm.2 hwp2 hLW hzW)
    clear hm hwp2
    have d0 := bx0 HX.out
    have d1 := bx1 HX.out
    have d2 := bx2 HX.out
    have d3 := bx3 HX.out
    have d4 := bx4 HX.out
    have q0 := bx0 HQ.out
    have q1 := bx1 HQ.out
    have q2 := bx2 HQ.out
    have q3 := bx3 HQ.out
    have q4 := bx4 HQ.out
    go_enter Tryz.func13, Tryz.ntmps13
    go_wp2_with fail
    try rw [hw0]
    try rw [hg]
    try rw [hg1]
    clear hw0 hg hg1
    clear d0 d1 d2 d3 d4
    clear q0 q1 q2 q3 q4
    refine HMY.out.mono ?_
    rintro e w1 ⟨rfl, b1⟩
    replace HX := Lib.hid (HX.out.below b1 HX.out.lt)
    replace HQ := Lib.hid (HQ.out.below b1 HQ.out.lt)
    replace HT := Lib.hid (HT.out.bel b1)
    replace HB := Lib.hid (HB.out.trans (b1.mono HB.out.size))
    replace HZ := Lib.hid (HZ.out.step b1)
    replace HLW := Lib.hid (Nat.le_trans HLW.out b1.size)
    clear b1 HMY
    have d0 := bx0 HX.out
    have d1 := bx1 HX.out
    have d2 := bx2 HX.out
    have d3 := bx3 HX.out
    have d4 := bx4 HX.out
    have q0 := bx0 HQ.out
    have q1 := bx1 HQ.out
    have q2 := bx2 HQ.out
    have q3 := bx3 HQ.out
    have q4 := bx4 HQ.out
    go_wp2_with fail
    clear d0 d1 d2 d3 d4
    clear q0 q1 q2 q3 q4
    refine (HRW.out w1 HT.out HLW.out HZ.out).mono ?_
    rintro e w2 ⟨a2, c2, rfl, ht2, hh2, b2⟩
    have HB1 := Lib.hid (show w.heap.size ≤ w1.heap.size from HB.out.size)
    replace HX := Lib.hid (HX.out.below b2 HX.out.lt)
    replace HQ := Lib.hid (HQ.out.below b2 HQ.out.lt)
    replace HT := Lib.hid (HT.out.bel b2)
    replace HB := Lib.hid (HB.out.trans (b2.mono HB.out.size))
    replace HZ := Lib.hid (HZ.out.step b2)
    replace HLW := Lib.hid (Nat.le_trans HLW.out b2.size)
    clear b2 HRW
    go_wp2_with fail
    go_ret2
    rw [HO.out]
    exact ⟨_, _, rfl, ht2, hh2.less HB1.out, HB.out⟩
  · have HMY := Lib.hid (seMay_any L x S (pa, pb, pi, pt, ps) w0 HT.out HLW.out false ⟨fun h => (by cases h), fun h => absurd h hm⟩)
    have HO := Lib.hid (ptrsSO_no hm)
    clear hm hwp2
    have d0 := bx0 HX.out
    have d1 := bx1 HX.out
    have d2 := bx2 HX.out
    have d3 := bx3 HX.out
    have d4 := bx4 HX.out
    have q0 := bx0 HQ.out
    have q1 := bx1 HQ.out
    have q2 := bx2 HQ.out
    have q3 := bx3 HQ.out
    have q4 := bx4 HQ.out
    go_enter Tryz.func13, Tryz.ntmps13
    go_wp2_with fail
    try rw [hw0]
    try rw [hg]
    try rw [hg1]
    clear hw0 hg hg1
    clear d0 d1 d2 d3 d4
    clear q0 q1 q2 q3 q4
    refine HMY.out.mono ?_
    rintro e w1 ⟨rfl, b1⟩
    replace HX := Lib.hid (HX.out.below b1 HX.out.lt)
    replace HQ := Lib.hid (HQ.out.below b1 HQ.out.lt)
    replace HT := Lib.hid (HT.out.bel b1)
    replace HB := Lib.hid (HB.out.trans (b1.mono HB.out.size))
    replace HZ := Lib.hid (HZ.out.step b1)
    replace HLW := Lib.hid (Nat.le_trans HLW.out b1.size)
    clear b1 HMY
    go_wp2_with fail
    go_ret2
    rw [HO.out]
    exact outLs_no 8 HB.out
end Go.Proofs.YtbggkfomfeeikaaGreatDoor
/-
  Set's own Object: what it answers, in new memory; nothing that was there is written.
-/
namespace Go.Proofs.YtbggkfomfeeikaaGreatDoor
open Go.RowKit Go.Shelf
set_option maxRecDepth 100000

set_option linter.unusedSimpArgs false in
set_option maxHeartbeats 4000000 in
theorem setObject_any (L : Nat) (x : SAt) (S : StL) (p : Pt) (n : Int) (w : World) (h : StP L w x S) (_hwf : WfS S) (hwp : WfP p) (hL : L ≤ w.heap.size) (hz : Szs w) (hn : -9223372036854775808 ≤ n ∧ n ≤ 9223372036854775807) : Calls Tryz.prog 12 #[stV x S, ptV p, .int .i64 n] w (OutOs (objSO S p n) w) := by
  have hmx : Tryz.prog.follows Departure.mixedOrders = true := by kernel_rfl
  have hwp2 := hwp
  clear hwp
  obtain ⟨pa, pb, pi, pt, ps⟩ := p
  obtain ⟨w0, hw0, b0, z0, q1, q2, q3⟩ := three_al w (stC x S) (ptA (pa, pb, pi, pt, ps)) #[.int .u8 0, .int .i64 0, .int .i64 0, .slice none 0 0] 30 32 40
  obtain ⟨g, hg⟩ : ∃ g, w.heap.size = g := ⟨_, rfl⟩
  obtain ⟨g1, hg1⟩ : ∃ g1, g + 1 = g1 := ⟨_, rfl⟩
  obtain ⟨g2, hg2⟩ : ∃ g2, g1 + 1 = g2 := ⟨_, rfl⟩
  rw [hg] at q1 q2 q3
  rw [hg1] at q2
  rw [show g + 2 = g1 + 1 by omega, hg2] at q3
  have HX := Lib.hid q1
  have HQ := Lib.hid q2
  have HZO := Lib.hid q3
  have HT := Lib.hid (h.bel b0)
  have HB := Lib.hid b0
  have HGE := Lib.hid (show w.heap.size ≤ g2 by omega)
  have HG2 := Lib.hid (show g2 < w0.heap.size by omega)
  have HGN := Lib.hid (show g ≠ g2 by omega)
  have HLW := Lib.hid (show L ≤ w0.heap.size from Nat.le_trans hL b0.size)
  simp only [stC, ptA] at hw0
  clear h b0 z0 q1 q2 q3 hL
  have HZ := Lib.hid (hz.step HB.out)
  clear hz
  by_cases hm : MayS S ∧ MayP (pa, pb, pi, pt, ps)
  · by_cases hr : 0 ≤ n ∧ n < 16
    · have HM1 := Lib.hid hm
      obtain ⟨k, rfl⟩ : ∃ k : Nat, n = (k : Int) := ⟨n.toNat, by omega⟩
      have k0 : (0 : Int) ≤ k := by omega
      have k1 : (k : Int) < 16 := by omega
      have hk16 : k < 16 := by omega
      have HRW := Lib.hid (fun W hW hLW hzW => seRow_any L x S (pa, pb, pi, pt, ps) W hW hm.1 hm.2 hwp2 hLW hzW)
      clear hwp2
      rcases rowSO_cases S (pa, pb, pi, pt, ps) with ⟨e, her, hen⟩ | ⟨LL, her, hl16, hwf, hml⟩
      · have HMY := Lib.hid (seMay_any L x S (pa, pb, pi, pt, ps) w0 HT.out HLW.out true ⟨fun _ => hm, fun _ => rfl⟩)
        have HO := Lib.hid (objSO_row hm.1 hm.2 (n := (k : Int)) ⟨k0, k1⟩ her hen)
        have e1 : ((e : Int) != 0) = true := by simp; omega
        clear hm hn hr hen
        have d0 := bx0 HX.out
        have d1 := bx1 HX.out
        have d2 := bx2 HX.out
        have d3 := bx3 HX.out
        have d4 := bx4 HX.out
        have q0 := bx0 HQ.out
        have q1 := bx1 HQ.out
        have q2 := bx2 HQ.out
        have q3 := bx3 HQ.out
        have q4 := bx4 HQ.out
        go_enter Tryz.func12, Tryz.ntmps12
        go_wp2_with fail
        try rw [hw0]
        try rw [hg]
        try rw [hg1]
        try rw [hg2]
        clear hw0 hg hg1 hg2
        clear d0 d1 d2 d3 d4
        clear q0 q1 q2 q3 q4
        refine HMY.out.mono ?_
        rintro e w1 ⟨rfl, b1⟩
        replace HX := Lib.hid (HX.out.below b1 HX.out.lt)
        replace HQ := Lib.hid (HQ.out.below b1 HQ.out.lt)
        replace HZO := Lib.hid (HZO.out.below b1 HZO.out.lt)
        replace HT := Lib.hid (HT.out.bel b1)
        replace HB := Lib.hid (HB.out.trans (b1.mono HB.out.size))
        replace HZ := Lib.hid (HZ.out.step b1)
        replace HLW := Lib.hid (Nat.le_trans HLW.out b1.size)
        clear b1 HMY
        have d0 := bx0 HX.out
        have d1 := bx1 HX.out
        have d2 := bx2 HX.out
        have d3 := bx3 HX.out
        have d4 := bx4 HX.out
        have q0 := bx0 HQ.out
        have q1 := bx1 HQ.out
        have q2 := bx2 HQ.out
        have q3 := bx3 HQ.out
        have q4 := bx4 HQ.out
        go_wp2_with fail
        clear d0 d1 d2 d3 d4
        clear q0 q1 q2 q3 q4
        have HG1 := Lib.hid (show g2 < w1.heap.size from HZO.out.lt)
        have hrw := HRW.out w1 HT.out HLW.out HZ.out
        rw [her] at hrw
        refine hrw.mono ?_
        rintro ev w2 ⟨a2, c2, rfl, ht2, hh2, b2⟩
        replace HX := Lib.hid (HX.out.below b2 HX.out.lt)
        replace HQ := Lib.hid (HQ.out.below b2 HQ.out.lt)
        replace HZO := Lib.hid (HZO.out.below b2 HZO.out.lt)
        replace HT := Lib.hid (HT.out.bel b2)
        replace HB := Lib.hid (HB.out.trans (b2.mono HB.out.size))
        replace HZ := Lib.hid (HZ.out.step b2)
        replace HLW := Lib.hid (Nat.le_trans HLW.out b2.size)
        clear b2 HRW hrw her
        have m0 := ox0 HZO.out
        have m1 := ox1 HZO.out
        have m2 := ox2 HZO.out
        have m3 := ox3 HZO.out
        have hfz := fun i => HZO.out.frozen i
        have xz := HZO.out.set4 (.int .u8 0) (.int .i64 0) (.int .i64 0) (.slice none 0 0)
        have bz := below_set4 HB.out HGE.out (.int .u8 0) (.int .i64 0) (.int .i64 0) (.slice none 0 0)
        obtain ⟨wz, hwz⟩ : ∃ X, (((w2.setCell ⟨g2, 0, none⟩ (.int .u8 0)).setCell ⟨g2, 1, none⟩ (.int .i64 0)).setCell ⟨g2, 2, none⟩ (.int .i64 0)).setCell ⟨g2, 3, none⟩ (.slice none 0 0) = X := ⟨_, rfl⟩
        rw [hwz] at xz bz
        have HXZ := Lib.hid xz
        have HBZ := Lib.hid bz
        clear xz bz
        go_wp2_with fail
        clear m0 m1 m2 m3 hfz hwz
        have e0 := ox0 HXZ.out
        have e1 := ox1 HXZ.out
        have e2 := ox2 HXZ.out
        have e3 := ox3 HXZ.out
        refine bodyPost_ret (v := .tuple #[.agg #[.int .u8 0, .int .i64 0, .int .i64 0, .slice none 0 0], .int .i64 e]) (by simp [results, Tryz.f12, go_sem, e0, e1, e2, e3]) rfl ?_
        rw [HO.out]
        exact outOs_no e HBZ.out
      · have HMY := Lib.hid (seMay_any L x S (pa, pb, pi, pt, ps) w0 HT.out HLW.out true ⟨fun _ => hm, fun _ => rfl⟩)
        have hob := objSO_at hm.1 hm.2 hk16 her
        have HO := Lib.hid hob
        have e1 : (((0 : Nat) : Int) != 0) = false := rfl
        have hkm : LL.getD k p0 ∈ LL := by
          rw [List.getD_eq_getElem?_getD, List.getElem?_eq_getElem (by omega)]
          exact List.getElem_mem _
        have HON := Lib.hid (fun W hW hLW hzW => seOne_any L x S (LL.getD k p0) W hW hm.1 (hml _ hkm) (hwf _ hkm) hLW hzW)
        clear hm hn hr hob hwf hml hkm
        have d0 := bx0 HX.out
        have d1 := bx1 HX.out
        have d2 := bx2 HX.out
        have d3 := bx3 HX.out
        have d4 := bx4 HX.out
        have q0 := bx0 HQ.out
        have q1 := bx1 HQ.out
        have q2 := bx2 HQ.out
        have q3 := bx3 HQ.out
        have q4 := bx4 HQ.out
        go_enter Tryz.func12, Tryz.ntmps12
        go_wp2_with fail
        try rw [hw0]
        try rw [hg]
        try rw [hg1]
        try rw [hg2]
        clear hw0 hg hg1 hg2
        clear d0 d1 d2 d3 d4
        clear q0 q1 q2 q3 q4
        refine HMY.out.mono ?_
        rintro e w1 ⟨rfl, b1⟩
        replace HX := Lib.hid (HX.out.below b1 HX.out.lt)
        replace HQ := Lib.hid (HQ.out.below b1 HQ.out.lt)
        replace HZO := Lib.hid (HZO.out.below b1 HZO.out.lt)
        replace HT := Lib.hid (HT.out.bel b1)
        replace HB := Lib.hid (HB.out.trans (b1.mono HB.out.size))
        replace HZ := Lib.hid (HZ.out.step b1)
        replace HLW := Lib.hid (Nat.le_trans HLW.out b1.size)
        clear b1 HMY
        have d0 := bx0 HX.out
        have d1 := bx1 HX.out
        have d2 := bx2 HX.out
        have d3 := bx3 HX.out
        have d4 := bx4 HX.out
        have q0 := bx0 HQ.out
        have q1 := bx1 HQ.out
        have q2 := bx2 HQ.out
        have q3 := bx3 HQ.out
        have q4 := bx4 HQ.out
        go_wp2_with fail
        clear d0 d1 d2 d3 d4
        clear q0 q1 q2 q3 q4
        have HG1 := Lib.hid (show g2 < w1.heap.size from HZO.out.lt)
        have hrw := HRW.out w1 HT.out HLW.out HZ.out
        rw [her] at hrw
        refine hrw.mono ?_
        rintro e w2 ⟨a2, c2, rfl, ht2, hh2, b2⟩
        replace HX := Lib.hid (HX.out.below b2 HX.out.lt)
        replace HQ := Lib.hid (HQ.out.below b2 HQ.out.lt)
        replace HZO := Lib.hid (HZO.out.below b2 HZO.out.lt)
        replace HT := Lib.hid (HT.out.bel b2)
        replace HB := Lib.hid (HB.out.trans (b2.mono HB.out.size))
        replace HZ := Lib.hid (HZ.out.step b2)
        replace HLW := Lib.hid (Nat.le_trans HLW.out b2.size)
        clear b2 HRW hrw her
        simp only [hl16] at ht2 ⊢
        have HP := Lib.hid ht2
        obtain ⟨ba, oa, rfl, _, _⟩ := ht2.2.2.2.2 (by omega)
        have HBA := Lib.hid (show w1.heap.size ≤ ba from hh2 _ rfl)
        clear ht2 hh2
        go_wp2_with fail
        obtain ⟨wd, hwd⟩ : ∃ wd, w2.drew = wd := ⟨_, rfl⟩
        have bq : Below w2.heap.size w2 wd := by rw [← hwd]; exact (Below.refl _ w2).drew
        replace HX := Lib.hid (HX.out.below bq HX.out.lt)
        replace HQ := Lib.hid (HQ.out.below bq HQ.out.lt)
        replace HT := Lib.hid (HT.out.bel bq)
        replace HB := Lib.hid (HB.out.trans (bq.mono HB.out.size))
        replace HZO := Lib.hid (HZO.out.below bq HZO.out.lt)
        replace HP := Lib.hid (HP.out.step bq)
        replace HZ := Lib.hid (HZ.out.step bq)
        replace HLW := Lib.hid (Nat.le_trans HLW.out bq.size)
        obtain ⟨P, hP⟩ : ∃ X, LL.getD k p0 = X := ⟨_, rfl⟩
        rw [hP] at HON HO
        have HPE := Lib.hid hP
        have HX9 := Lib.hid HX.out
        have HG9 := Lib.hid (show g2 < wd.heap.size from HZO.out.lt)
        have HB9 := Lib.hid (show w.heap.size ≤ wd.heap.size from HB.out.size)
        have hwd0 := And.intro HX.out HP.out
        refine wpI_start (fun X => Blk X g 30 (stC x S) ∧ Pts X X.heap.size (some ⟨ba, oa, none⟩) 16 c2 LL) [0, 1, 2, 3, 4, 5, 6, 7, 8, 9] hmx rfl hwd ?_
        clear hwd bq hP
        obtain ⟨ya, yb, yi, yt, ys⟩ := P
        iterate 5 (
          refine wpI_read (v := ?_) hwd0 rfl (by kernel_rfl) (by kernel_rfl) (by kernel_rfl) (fun _ _ _ h => h) (.inl ⟨by rfl, ?_⟩) ?_
          rotate_left
          · intro X hX
            have d0 := bx0 hX.1
            have d1 := bx1 hX.1
            have d2 := bx2 hX.1
            have d3 := bx3 hX.1
            have d4 := bx4 hX.1
            obtain ⟨_, _, ea, _, _, p0_, p1_, p2_, p3_, p4_⟩ := hX.2.cells k hk16
            cases ea
            rw [HPE.out] at p0_ p1_ p2_ p3_ p4_
            simp only at p0_ p1_ p2_ p3_ p4_
            clear hX
            go_simp
            with_reducible rfl
          try simp only [Act.put, List.setIfInBounds_toArray, List.set_cons_zero, List.set_cons_succ])
        refine wpI_lone rfl (by kernel_rfl) (fun K hK => ?_)
        go_simp
        refine (HON.out wd HT.out HLW.out HZ.out).mono ?_
        obtain ⟨⟨⟨k5, l5, r5, L5⟩, z5⟩, hoe⟩ : ∃ o, oneSO S (ya, yb, yi, yt, ys) = o := ⟨_, rfl⟩
        rw [hoe] at HO ⊢
        obtain ⟨n5, hn5⟩ : ∃ n, L5.length = n := ⟨_, rfl⟩
        rintro ev w4 ⟨a5, c5, rfl, ht5, hi5, bq⟩
        simp only [hn5] at ht5 hi5 ⊢
        replace HX := Lib.hid (HX.out.below bq HX.out.lt)
        replace HQ := Lib.hid (HQ.out.below bq HQ.out.lt)
        replace HT := Lib.hid (HT.out.bel bq)
        replace HB := Lib.hid (HB.out.trans (bq.mono HB.out.size))
        replace HZO := Lib.hid (HZO.out.below bq HZO.out.lt)
        replace HP := Lib.hid (HP.out.step bq)
        replace HZ := Lib.hid (HZ.out.step bq)
        replace HLW := Lib.hid (Nat.le_trans HLW.out bq.size)
        have hs4 := And.intro HX.out HP.out
        refine hK _ _ hs4 ?_
        have HP5 := Lib.hid ht5
        have HI5 := Lib.hid hi5
        have HN5 := Lib.hid hn5
        clear hK K bq hoe ht5 hi5 hn5 HON
        try simp only [Act.put, List.setIfInBounds_toArray, List.set_cons_zero, List.set_cons_succ]
        iterate 2 (
          refine wpI_read (v := ?_) hs4 rfl (by kernel_rfl) (by kernel_rfl) (by kernel_rfl) (fun _ _ _ h => h) (.inl ⟨by rfl, ?_⟩) ?_
          rotate_left
          · intro X hX
            clear hX
            go_simp
            with_reducible rfl
          try simp only [Act.put, List.setIfInBounds_toArray, List.set_cons_zero, List.set_cons_succ])
        refine wpI_lone rfl (by kernel_rfl) (fun K hK => ?_)
        have m0 := ox0 HZO.out
        have m1 := ox1 HZO.out
        have m2 := ox2 HZO.out
        have m3 := ox3 HZO.out
        have hfz := fun i => HZO.out.frozen i
        have xz := HZO.out.set4 (.int .u8 (k5 : Int)) (.int .i64 l5) (.int .i64 r5) (.slice a5 n5 c5)
        have bz := below_set4 HB.out HGE.out (.int .u8 (k5 : Int)) (.int .i64 l5) (.int .i64 r5) (.slice a5 n5 c5)
        have hpz := HP5.out.box4 (fun p e => Nat.lt_of_lt_of_le HG9.out (HI5.out p e)) (.int .u8 (k5 : Int)) (.int .i64 l5) (.int .i64 r5) (.slice a5 n5 c5)
        obtain ⟨wz, hwz⟩ : ∃ X, (((w4.setCell ⟨g2, 0, none⟩ (.int .u8 (k5 : Int))).setCell ⟨g2, 1, none⟩ (.int .i64 l5)).setCell ⟨g2, 2, none⟩ (.int .i64 r5)).setCell ⟨g2, 3, none⟩ (.slice a5 n5 c5) = X := ⟨_, rfl⟩
        rw [hwz] at xz bz hpz
        have HXZ := Lib.hid xz
        have HBZ := Lib.hid bz
        clear xz bz
        have HPZ := Lib.hid (hpz.more (show w4.heap.size ≤ wz.heap.size by rw [← hwz]; simp [World.setCell]))
        clear hpz
        have hxz : Blk wz g 30 (stC x S) := by
          rw [← hwz]
          exact (((HX.out.far (p := ⟨g2, 0, none⟩) HGN.out _).far (p := ⟨g2, 1, none⟩) HGN.out _).far (p := ⟨g2, 2, none⟩) HGN.out _).far (p := ⟨g2, 3, none⟩) HGN.out _
        have hpz2 : Pts wz wz.heap.size (some ⟨ba, oa, none⟩) 16 c2 LL := by
          have h1 := HP.out.box4 (fun p e => by cases e; exact Nat.lt_of_lt_of_le HG1.out HBA.out) (.int .u8 (k5 : Int)) (.int .i64 l5) (.int .i64 r5) (.slice a5 n5 c5)
          rw [hwz] at h1
          exact h1.more (by rw [← hwz]; simp [World.setCell])
        have hsz := And.intro hxz hpz2
        go_simp
        try rw [hwz]
        refine hK _ _ hsz ?_
        clear hK K
        try simp only [Act.put, List.setIfInBounds_toArray, List.set_cons_zero, List.set_cons_succ]
        iterate 1 (
          refine wpI_read (v := ?_) hsz rfl (by kernel_rfl) (by kernel_rfl) (by kernel_rfl) (fun _ _ _ h => h) (.inl ⟨by rfl, ?_⟩) ?_
          rotate_left
          · intro X hX
            clear hX
            go_simp
            with_reducible rfl
          try simp only [Act.put, List.setIfInBounds_toArray, List.set_cons_zero, List.set_cons_succ])
        refine wpI_done (by kernel_rfl) ?_
        go_wp2_with fail
        clear m0 m1 m2 m3 hfz hwz
        have e0 := ox0 HXZ.out
        have e1 := ox1 HXZ.out
        have e2 := ox2 HXZ.out
        have e3 := ox3 HXZ.out
        refine bodyPost_ret (v := .tuple #[.agg #[.int .u8 (k5 : Int), .int .i64 l5, .int .i64 r5, .slice a5 n5 c5], .int .i64 z5]) (by simp [results, Tryz.f12, go_sem, e0, e1, e2, e3]) rfl ?_
        rw [HO.out]
        refine ⟨a5, c5, ?_, ?_, HI5.out.less HB9.out, HBZ.out⟩
        · simp only [HN5.out]
        · simp only [HN5.out]
          exact HPZ.out
    · by_cases h0 : n < 0
      · have HMY := Lib.hid (seMay_any L x S (pa, pb, pi, pt, ps) w0 HT.out HLW.out true ⟨fun _ => hm, fun _ => rfl⟩)
        have HO := Lib.hid (objSO_arg hm.1 hm.2 hr)
        clear hm
        have d1 : decide (n < 0) = true := decide_eq_true h0
        clear hr h0 hn
        have d0 := bx0 HX.out
        have d1 := bx1 HX.out
        have d2 := bx2 HX.out
        have d3 := bx3 HX.out
        have d4 := bx4 HX.out
        have q0 := bx0 HQ.out
        have q1 := bx1 HQ.out
        have q2 := bx2 HQ.out
        have q3 := bx3 HQ.out
        have q4 := bx4 HQ.out
        go_enter Tryz.func12, Tryz.ntmps12
        go_wp2_with fail
        try rw [hw0]
        try rw [hg]
        try rw [hg1]
        try rw [hg2]
        clear hw0 hg hg1 hg2
        clear d0 d1 d2 d3 d4
        clear q0 q1 q2 q3 q4
        refine HMY.out.mono ?_
        rintro e w1 ⟨rfl, b1⟩
        replace HX := Lib.hid (HX.out.below b1 HX.out.lt)
        replace HQ := Lib.hid (HQ.out.below b1 HQ.out.lt)
        replace HZO := Lib.hid (HZO.out.below b1 HZO.out.lt)
        replace HT := Lib.hid (HT.out.bel b1)
        replace HB := Lib.hid (HB.out.trans (b1.mono HB.out.size))
        replace HZ := Lib.hid (HZ.out.step b1)
        replace HLW := Lib.hid (Nat.le_trans HLW.out b1.size)
        clear b1 HMY
        have m0 := ox0 HZO.out
        have m1 := ox1 HZO.out
        have m2 := ox2 HZO.out
        have m3 := ox3 HZO.out
        have hfz := fun i => HZO.out.frozen i
        have xz := HZO.out.set4 (.int .u8 0) (.int .i64 0) (.int .i64 0) (.slice none 0 0)
        have bz := below_set4 HB.out HGE.out (.int .u8 0) (.int .i64 0) (.int .i64 0) (.slice none 0 0)
        obtain ⟨wz, hwz⟩ : ∃ X, (((w1.setCell ⟨g2, 0, none⟩ (.int .u8 0)).setCell ⟨g2, 1, none⟩ (.int .i64 0)).setCell ⟨g2, 2, none⟩ (.int .i64 0)).setCell ⟨g2, 3, none⟩ (.slice none 0 0) = X := ⟨_, rfl⟩
        rw [hwz] at xz bz
        have HXZ := Lib.hid xz
        have HBZ := Lib.hid bz
        clear xz bz
        go_wp2_with fail
        clear m0 m1 m2 m3 hfz hwz
        have e0 := ox0 HXZ.out
        have e1 := ox1 HXZ.out
        have e2 := ox2 HXZ.out
        have e3 := ox3 HXZ.out
        refine bodyPost_ret (v := .tuple #[.agg #[.int .u8 0, .int .i64 0, .int .i64 0, .slice none 0 0], .int .i64 2]) (by simp [results, Tryz.f12, go_sem, e0, e1, e2, e3]) rfl ?_
        rw [HO.out]
        exact outOs_no 2 HBZ.out
      · have h1 : 16 ≤ n := by omega
        have HMY := Lib.hid (seMay_any L x S (pa, pb, pi, pt, ps) w0 HT.out HLW.out true ⟨fun _ => hm, fun _ => rfl⟩)
        have HO := Lib.hid (objSO_arg hm.1 hm.2 hr)
        clear hm
        have d1 : decide (n < 0) = false := decide_eq_false h0
        have d2 : decide (16 ≤ n) = true := decide_eq_true h1
        clear hr h0 h1 hn
        have d0 := bx0 HX.out
        have d1 := bx1 HX.out
        have d2 := bx2 HX.out
        have d3 := bx3 HX.out
        have d4 := bx4 HX.out
        have q0 := bx0 HQ.out
        have q1 := bx1 HQ.out
        have q2 := bx2 HQ.out
        have q3 := bx3 HQ.out
        have q4 := bx4 HQ.out
        go_enter Tryz.func12, Tryz.ntmps12
        go_wp2_with fail
        try rw [hw0]
        try rw [hg]
        try rw [hg1]
        try rw [hg2]
        clear hw0 hg hg1 hg2
        clear d0 d1 d2 d3 d4
        clear q0 q1 q2 q3 q4
        refine HMY.out.mono ?_
        rintro e w1 ⟨rfl, b1⟩
        replace HX := Lib.hid (HX.out.below b1 HX.out.lt)
        replace HQ := Lib.hid (HQ.out.below b1 HQ.out.lt)
        replace HZO := Lib.hid (HZO.out.below b1 HZO.out.lt)
        replace HT := Lib.hid (HT.out.bel b1)
        replace HB := Lib.hid (HB.out.trans (b1.mono HB.out.size))
        replace HZ := Lib.hid (HZ.out.step b1)
        replace HLW := Lib.hid (Nat.le_trans HLW.out b1.size)
        clear b1 HMY
        have m0 := ox0 HZO.out
        have m1 := ox1 HZO.out
        have m2 := ox2 HZO.out
        have m3 := ox3 HZO.out
        have hfz := fun i => HZO.out.frozen i
        have xz := HZO.out.set4 (.int .u8 0) (.int .i64 0) (.int .i64 0) (.slice none 0 0)
        have bz := below_set4 HB.out HGE.out (.int .u8 0) (.int .i64 0) (.int .i64 0) (.slice none 0 0)
        obtain ⟨wz, hwz⟩ : ∃ X, (((w1.setCell ⟨g2, 0, none⟩ (.int .u8 0)).setCell ⟨g2, 1, none⟩ (.int .i64 0)).setCell ⟨g2, 2, none⟩ (.int .i64 0)).setCell ⟨g2, 3, none⟩ (.slice none 0 0) = X := ⟨_, rfl⟩
        rw [hwz] at xz bz
        have HXZ := Lib.hid xz
        have HBZ := Lib.hid bz
        clear xz bz
        go_wp2_with fail
        clear m0 m1 m2 m3 hfz hwz
        have e0 := ox0 HXZ.out
        have e1 := ox1 HXZ.out
        have e2 := ox2 HXZ.out
        have e3 := ox3 HXZ.out
        refine bodyPost_ret (v := .tuple #[.agg #[.int .u8 0, .int .i64 0, .int .i64 0, .slice none 0 0], .int .i64 2]) (by simp [results, Tryz.f12, go_sem, e0, e1, e2, e3]) rfl ?_
        rw [HO.out]
        exact outOs_no 2 HBZ.out
  · have HMY := Lib.hid (seMay_any L x S (pa, pb, pi, pt, ps) w0 HT.out HLW.out false ⟨fun h => (by cases h), fun h => absurd h hm⟩)
    have HO := Lib.hid (objSO_no (n := n) hm)
    clear hm hn
    have d0 := bx0 HX.out
    have d1 := bx1 HX.out
    have d2 := bx2 HX.out
    have d3 := bx3 HX.out
    have d4 := bx4 HX.out
    have q0 := bx0 HQ.out
    have q1 := bx1 HQ.out
    have q2 := bx2 HQ.out
    have q3 := bx3 HQ.out
    have q4 := bx4 HQ.out
    go_enter Tryz.func12, Tryz.ntmps12
    go_wp2_with fail
    try rw [hw0]
    try rw [hg]
    try rw [hg1]
    try rw [hg2]
    clear hw0 hg hg1 hg2
    clear d0 d1 d2 d3 d4
    clear q0 q1 q2 q3 q4
    refine HMY.out.mono ?_
    rintro e w1 ⟨rfl, b1⟩
    replace HX := Lib.hid (HX.out.below b1 HX.out.lt)
    replace HQ := Lib.hid (HQ.out.below b1 HQ.out.lt)
    replace HZO := Lib.hid (HZO.out.below b1 HZO.out.lt)
    replace HT := Lib.hid (HT.out.bel b1)
    replace HB := Lib.hid (HB.out.trans (b1.mono HB.out.size))
    replace HZ := Lib.hid (HZ.out.step b1)
    replace HLW := Lib.hid (Nat.le_trans HLW.out b1.size)
    clear b1 HMY
    have m0 := ox0 HZO.out
    have m1 := ox1 HZO.out
    have m2 := ox2 HZO.out
    have m3 := ox3 HZO.out
    have hfz := fun i => HZO.out.frozen i
    have xz := HZO.out.set4 (.int .u8 0) (.int .i64 0) (.int .i64 0) (.slice none 0 0)
    have bz := below_set4 HB.out HGE.out (.int .u8 0) (.int .i64 0) (.int .i64 0) (.slice none 0 0)
    obtain ⟨wz, hwz⟩ : ∃ X, (((w1.setCell ⟨g2, 0, none⟩ (.int .u8 0)).setCell ⟨g2, 1, none⟩ (.int .i64 0)).setCell ⟨g2, 2, none⟩ (.int .i64 0)).setCell ⟨g2, 3, none⟩ (.slice none 0 0) = X := ⟨_, rfl⟩
    rw [hwz] at xz bz
    have HXZ := Lib.hid xz
    have HBZ := Lib.hid bz
    clear xz bz
    go_wp2_with fail
    clear m0 m1 m2 m3 hfz hwz
    have e0 := ox0 HXZ.out
    have e1 := ox1 HXZ.out
    have e2 := ox2 HXZ.out
    have e3 := ox3 HXZ.out
    refine bodyPost_ret (v := .tuple #[.agg #[.int .u8 0, .int .i64 0, .int .i64 0, .slice none 0 0], .int .i64 8]) (by simp [results, Tryz.f12, go_sem, e0, e1, e2, e3]) rfl ?_
    rw [HO.out]
    exact outOs_no 8 HBZ.out
end Go.Proofs.YtbggkfomfeeikaaGreatDoor
/-
  A range over a closure that keeps a state of its own in boxes, and whose rounds collect into a variable of the caller's: what is the closure's own is told by Fr; a round keeps it, and what the closure does with it leaves the round's own.
-/
namespace Go.Proofs.YtbggkfomfeeikaaGreatDoor
open Go Go.RowKit
set_option maxRecDepth 100000

/-- The block of the row that a variable in box gl holds. -/
def rowAt (gl : Nat) (A : World) : Option Nat := match A.cell? ⟨gl, 0, none⟩ with
  | some v => v.ownBlock
  | none => none
theorem rowAt_of {gl : Nat} {A : World} {v : Value} (h : A.cell? ⟨gl, 0, none⟩ = some v) : rowAt gl A = v.ownBlock := by unfold rowAt; rw [h]
/-- Block k is neither below D0 nor the caller's variable, nor its row. -/
structure Fr (D0 gl k : Nat) (A : World) : Prop where
  lo : D0 ≤ k
  lt : k < A.heap.size
  ne : k ≠ gl
  row : some k ≠ rowAt gl A
theorem rowAt_grown {gl : Nat} {A A' : World} {row : Option Nat} (hg : A.grownBy A' row) (hl : gl < A.heap.size) (hr : row ≠ some gl) : rowAt gl A' = rowAt gl A := by
  unfold rowAt
  rw [hg.cell_far ⟨gl, 0, none⟩ hl (fun e => hr e.symm)]
theorem Fr.grown {D0 gl k : Nat} {A A' : World} {row : Option Nat} (h : Fr D0 gl k A) (hg : A.grownBy A' row) (hl : gl < A.heap.size) (hr : row ≠ some gl) : Fr D0 gl k A' :=
  ⟨h.lo, Nat.lt_of_lt_of_le h.lt hg.size, h.ne, by rw [rowAt_grown hg hl hr]; exact h.row⟩
theorem below_grown {A A' : World} (h : Below A.heap.size A A') : A.grownBy A' none := ⟨h.os, h.tape, h.output, h.size, fun k hk _ => h.block k hk⟩
/-- From A to A' the closure's own stays, but for block o. -/
structure Rd (L D0 gl : Nat) (o : Option Nat) (A A' : World) : Prop where
  kp : Keeps L A A'
  be : Below D0 A A'
  fr : ∀ k, Fr D0 gl k A → some k ≠ o → A'.heap[k]? = A.heap[k]? ∧ Fr D0 gl k A'
theorem Rd.trans {L D0 gl : Nat} {o : Option Nat} {A B C : World} (h : Rd L D0 gl o A B) (k : Rd L D0 gl o B C) : Rd L D0 gl o A C :=
  ⟨h.kp.trans k.kp, h.be.trans k.be, fun i hi ho => by
    obtain ⟨h1, h2⟩ := h.fr i hi ho
    obtain ⟨h3, h4⟩ := k.fr i h2 ho
    exact ⟨h3.trans h1, h4⟩⟩
theorem Rd.ex {L D0 gl : Nat} {A B : World} (h : Rd L D0 gl none A B) (o : Option Nat) : Rd L D0 gl o A B := ⟨h.kp, h.be, fun i hi _ => h.fr i hi (by simp)⟩
/-- What was laid since is the closure's own. -/
theorem Fr.new {D0 gl k : Nat} {A A' : World} (hb : Below A.heap.size A A') (hD : D0 ≤ A.heap.size) (hgl : gl < A.heap.size) (hr : ∀ r, rowAt gl A = some r → r < A.heap.size) (h1 : A.heap.size ≤ k) (h2 : k < A'.heap.size) : Fr D0 gl k A' :=
  ⟨by omega, h2, by omega, fun e => by
    rw [rowAt_grown (below_grown hb) hgl (by simp)] at e
    have := hr k e.symm
    omega⟩
theorem keeps_putObj {L l : Nat} {A : World} {o : Obj} (o' : Obj) (h : A.heap[l]? = some o) (ho : o.isCells = false) (hL : L ≤ l) : Keeps L A (A.putObj l o') :=
  ⟨rfl, rfl, rfl, by simp, fun b _ hb => World.putObj_heap_other (by omega), fun b t cs hb _ => by
    have hne : b ≠ l := fun e => by
      subst e
      have h1 : some (Obj.cells cs t (0, 0)) = some o := (show A.heap[b]? = _ from hb).symm.trans h
      cases h1
      cases ho
    exact (World.putObj_heap_other hne).trans hb⟩
theorem Rd.put {L D0 gl l : Nat} {A : World} {o : Obj} (o' : Obj) (h : A.heap[l]? = some o) (ho : o.isCells = false) (hL : L ≤ l) (hD : D0 ≤ l) (hl : l ≠ gl) (hgl : gl < A.heap.size) : Rd L D0 gl (some l) A (A.putObj l o') :=
  ⟨keeps_putObj o' h ho hL, below_putObj o' hD, fun k hk hne => ⟨World.putObj_heap_other (fun e => hne (by rw [e])), hk.grown (grownBy_putObj' A l o') hgl (fun e => hl (Option.some.inj e))⟩⟩

/-- What a closure that tells S does with whatever rounds of the loop that begins in w. -/
def Gives {α : Type} (P : Program) (m L D0 gl N : Nat) (gf : Nat) (lb : Array Value) (encs : α → Array Value) (T : α → Prop) (S : List α → World → Prop) (w : World) : Prop :=
  ∀ (J : List α → World → Prop) (W : World), Below w.heap.size w W → W.heap.size = w.heap.size + 2 →
    (∀ pre A A' row, J pre A → A.grownBy A' row → (∀ k, row = some k → Fr D0 gl k A ∧ k ≠ w.heap.size ∧ k ≠ w.heap.size + 1) → J pre A') →
    (∀ pre A r, J pre A → rowAt gl A = some r → r < A.heap.size) →
    (∀ pre x W1, J pre W1 → T x → pre.length < N → YieldAt Fence.wide (m - 1) P (w.heap.size + 1) (encs x) W1 fun e W' => e = .returned (.bool true) ∧ J (pre ++ [x]) W' ∧ Rd L D0 gl (some (w.heap.size + 1)) W1 W') →
    J [] W → CallsIn Fence.wide m P gf (#[.func (.yield (w.heap.size + 1)) #[] #[]] ++ lb) W fun e W' => (∃ v, e = .returned v) ∧ ∃ xs, S xs W' ∧ J xs W'

/-- How the body of a round may end. -/
def prEnd {α : Type} (L D0 gl B : Nat) (I : List α → World → Prop) (xs : List α) (W : World) : Exit → Act → World → Prop
  | .normal, _, W' => W'.heap[B]? = W.heap[B]? ∧ W'.heap[B + 1]? = W.heap[B + 1]? ∧ Rd L D0 gl none W W' ∧ I xs W'
  | _, _, _ => False

theorem range_priv {P : Program} {m : Nat} {α : Type} {g : Operand} {ps : Array Tmp} {assign body : Code} {Q : Exit → Act → World → Prop} {a : Act} {w : World}
    {gf : Nat} {lb : Array Value} (hg : a.eval g = .func (.func gf) #[] lb) (eg : ∀ args w, (callFunc gf args).run P w = .ok (.enter gf args) w)
    (encs : α → Array Value) (hps : ∀ x, (encs x).size = ps.size) (T : α → Prop) (L D0 gl N : Nat) (hL : L ≤ w.heap.size) (hD0 : D0 ≤ w.heap.size) (hgl : gl < w.heap.size)
    (I : List α → World → Prop) (hI : ∀ pre A A' row, I pre A → A.grownBy A' row → (∀ k, row = some k → Fr D0 gl k A) → I pre A')
    (hIr : ∀ pre A k, I pre A → (k = w.heap.size ∨ k = w.heap.size + 1) → some k ≠ rowAt gl A)
    (hIw : ∀ pre A r, I pre A → rowAt gl A = some r → r < A.heap.size)
    (S : List α → World → Prop) (hS : ∀ xs A A', S xs A → A.grownBy A' (some (w.heap.size + 1)) → S xs A')
    (h0 : I [] w) (hseq : Gives P (m - 1) L D0 gl N gf lb encs T S w)
    (X : α → Act → World → Prop) (hX : ∀ x b A l r o', X x b A → A.heap[l]? = some (.loop r) → X x b (A.putObj l o'))
    (hassign : ∀ (l : Nat) (pre : List α) (x : α) (W : World) (K : Act → World → Prop), I pre W → T x → (∀ b W1, X x b W1 → Below W.heap.size W W1 → K b W1) →
      assign.wpIn (Fence.wide.inRound l) (m - 1 - 1) P (Exit.then K (fun _ _ _ => False)) { tmps := (ps.zip (encs x)).foldl (fun t (p, v) => t.setIfInBounds p v) a.tmps, defers := [] } W)
    (hbody : ∀ (l : Nat) (pre : List α) (x : α) (b : Act) (W : World), I pre W → T x → X x b W → pre.length < N → w.heap.size + 2 ≤ W.heap.size → body.wpIn (Fence.wide.inRound l) (m - 1 - 1) P (prEnd L D0 gl w.heap.size I (pre ++ [x]) W) b W)
    (hdone : ∀ (D : Nat) (xs : List α) (W : World), w.heap.size ≤ D → S xs W → I xs W → W.heap[D]? = some (.deferred (some [])) → Q .normal { a with defers := { target := .collected D, args := #[] } :: a.defers } W) :
    (Code.rangeFunc g ps assign body).wpIn Fence.wide m P Q a w := by
  refine wpIn_rangeFunc fun fn hfn => ?_
  obtain ⟨rc, hrc⟩ : ∃ rc : LoopState → Option Code → Loop, rc = fun st pe => { state := st, pending := pe, fn, tmps := a.tmps, params := ps, assign, body, defers := w.heap.size } := ⟨_, rfl⟩
  have hin := run_enterLoop_outer (P := P) (w := w) fn a.tmps ps assign body
  rw [show ({ state := .ready, pending := none, fn, tmps := a.tmps, params := ps, assign, body, defers := w.heap.size } : Loop) = rc .ready none by rw [hrc]] at hin
  obtain ⟨W1, hW1⟩ : ∃ W1, (w.alloc (.deferred (some []))).alloc (.loop (rc .ready none)) = W1 := ⟨_, rfl⟩
  have hLo : W1.heap[w.heap.size + 1]? = some (.loop (rc .ready none)) := by
    have := World.alloc_heap_new (w.alloc (.deferred (some []))) (.loop (rc .ready none))
    rwa [World.size_alloc, hW1] at this
  have hD : W1.heap[w.heap.size]? = some (.deferred (some [])) := by
    rw [← hW1]; exact (Below.heap_alloc _ _ _ (by simp)).trans (World.alloc_heap_new w _)
  have hz : W1.heap.size = w.heap.size + 2 := by rw [← hW1]; simp
  have hb : Below w.heap.size w W1 := by rw [← hW1]; exact ((Below.refl _ w).alloc (Nat.le_refl _) _).alloc (by simp) _
  have hI0 : ∀ pre A A', I pre A → Below A.heap.size A A' → I pre A' := fun pre A A' h hA => hI pre A A' none h (below_grown hA) (fun _ e => by cases e)
  refine ⟨w.heap.size + 1, _, W1, { target := .fn (.func gf) lb, args := #[.func (.yield (w.heap.size + 1)) #[] #[]] }, W1, gf, #[.func (.yield (w.heap.size + 1)) #[] #[]] ++ lb, W1, hW1 ▸ hin, ?_, fun _ _ => trivial, ?_, fun h => (by simp [Fence.wide] at h), ?_⟩
  · simp only [resolve, hg]
    simp [go_sem]
  · simp [invoke, go_sem, eg]
  -- the record is turned
  have turn : ∀ {pre : List α} {A : World} {r : Loop} (o' : Obj), I pre A → A.heap[w.heap.size + 1]? = some (.loop r) → I pre (A.putObj (w.heap.size + 1) o') ∧ Rd L D0 gl (some (w.heap.size + 1)) A (A.putObj (w.heap.size + 1) o') := fun {pre A r} o' hi ho => by
    have hlt := (Array.getElem?_eq_some_iff.1 ho).1
    exact ⟨hI pre A _ _ hi (grownBy_putObj' A _ o') (fun k e => by cases e; exact ⟨by omega, hlt, by omega, hIr pre A _ hi (.inr rfl)⟩), Rd.put o' ho rfl (by omega) (by omega) (by omega) (by omega)⟩
  refine (hseq (fun pre W => I pre W ∧ W.heap[w.heap.size + 1]? = some (.loop (rc .ready none)) ∧ W.heap[w.heap.size]? = some (.deferred (some []))) W1 hb hz
    (fun pre A A' row h hgr hk => ⟨hI pre A A' row h.1 hgr (fun k e => (hk k e).1), (hgr.block _ (Array.getElem?_eq_some_iff.1 h.2.1).1 (fun e => (hk _ e.symm).2.2 rfl)).trans h.2.1, (hgr.block _ (Array.getElem?_eq_some_iff.1 h.2.2).1 (fun e => (hk _ e.symm).2.1 rfl)).trans h.2.2⟩) (fun pre A r h => hIw pre A r h.1) ?_ ⟨hI0 _ _ _ h0 hb, hLo, hD⟩).mono ?_
  · rintro pre x W ⟨hi, hl, hd⟩ ht hN
    have hlt : w.heap.size + 1 < W.heap.size := (Array.getElem?_eq_some_iff.1 hl).1
    have hy := run_yield (P := P) (args := encs x) hl (by rw [hrc]; exact hps x)
    rw [hrc] at hy
    refine ⟨fn, _, assign, body, hy, roundIn_of_wpIn hfn (hassign _ pre x W _ hi ht fun b Wa hXa hBa => ?_)⟩
    have hla : Wa.heap[w.heap.size + 1]? = some (.loop (rc .ready none)) := (hBa.block _ hlt).trans hl
    have hda : Wa.heap[w.heap.size]? = some (.deferred (some [])) := (hBa.block _ (by omega)).trans hd
    have hia := hI0 _ _ _ hi hBa
    have hlta : w.heap.size + 1 < Wa.heap.size := (Array.getElem?_eq_some_iff.1 hla).1
    have hRa : Rd L D0 gl (some (w.heap.size + 1)) W Wa := ⟨Keeps.of_below hBa, hBa.mono (by omega), fun k hk _ => ⟨hBa.block k hk.lt, hk.grown (below_grown hBa) (by omega) (by simp)⟩⟩
    refine ⟨_, run_beginRound hla (by rw [hrc]), ?_⟩
    obtain ⟨W2, hW2⟩ : ∃ W2, Wa.putObj (w.heap.size + 1) (.loop { rc .ready none with state := .busy }) = W2 := ⟨_, rfl⟩
    have hl2 : W2.heap[w.heap.size + 1]? = some (.loop { rc .ready none with state := .busy }) := hW2 ▸ World.putObj_heap_same hlta
    have hd2 : W2.heap[w.heap.size]? = some (.deferred (some [])) := hW2 ▸ (World.putObj_heap_other (by omega)).trans hda
    obtain ⟨hi2, hR2⟩ := turn (.loop { rc .ready none with state := .busy }) hia hla
    rw [hW2] at hi2 hR2
    have hX2 : X x b W2 := hW2 ▸ hX x b Wa _ _ _ hXa hla
    have hs2 : w.heap.size + 2 ≤ W2.heap.size := by rw [← hW2]; simp; omega
    rw [hW2]
    clear hW2 hy
    refine wpIn_mono (hbody _ pre x b W2 hi2 ht hX2 hN hs2) ?_
    rintro e a3 W3 hp
    cases e with
    | normal =>
      obtain ⟨h3d, h3l, h3, hi3⟩ := hp
      have hl3 := h3l.trans hl2
      have hd3 := h3d.trans hd2
      have hr := run_endRound (P := P) none hl3
      rw [hrc] at hr
      obtain ⟨hi4, hR4⟩ := turn (.loop (rc .ready none)) hi3 hl3
      refine ⟨_, _, hr, rfl, ⟨?_, ?_, ?_⟩, ?_⟩
      · rw [hrc] at hi4; exact hi4
      · rw [hrc]; exact World.putObj_heap_same (Array.getElem?_eq_some_iff.1 hl3).1
      · exact (World.putObj_heap_other (by omega)).trans hd3
      · rw [hrc] at hR4
        exact ((hRa.trans hR2).trans (h3.ex _)).trans hR4
    | exit id => exact hp.elim
    | ret => exact hp.elim
    | goto t => exact hp.elim
    | panic ch => exact hp.elim
    | outgrown => exact hp.elim
  · rintro e W2 ⟨⟨v, rfl⟩, xs, hs, hix, hl, hd⟩
    have hr := run_endLoop (P := P) hl (by rw [hrc]; simp)
    rw [hrc] at hr
    obtain ⟨hi3, _⟩ := turn (.loop { rc .ready none with state := .exhausted }) hix hl
    refine ⟨none, _, hr, ?_⟩
    rw [hrc] at hi3
    exact hdone _ xs _ (Nat.le_refl _) (hS xs _ _ hs (grownBy_putObj' _ _ _)) hi3 ((World.putObj_heap_other (by omega)).trans hd)
end Go.Proofs.YtbggkfomfeeikaaGreatDoor
/-
  Set's own generator of young pointers: the closures that it is made of, but for the generator itself.
-/
namespace Go.Proofs.YtbggkfomfeeikaaGreatDoor
open Go.RowKit Go.Shelf
set_option maxRecDepth 100000

theorem run_store_func {P : Program} (w : World) (a : Addr) (m : Mode) (f : Fn) (x y : Array Value) : (store a (.func f x y) m).run P w = stored P w a (.func f x y) m := run_store P w a _ m rfl
attribute [local go_sem] run_store_func
theorem five_al (w : World) (a b c d e : Array Value) (s t u v z : TypeId) : ∃ w0, ((((w.alloc (.cells a s)).alloc (.cells b t)).alloc (.cells c u)).alloc (.cells d v)).alloc (.cells e z) = w0 ∧ Below w.heap.size w w0 ∧ w0.heap.size = w.heap.size + 5 ∧ Blk w0 w.heap.size s a ∧ Blk w0 (w.heap.size + 1) t b ∧ Blk w0 (w.heap.size + 2) u c ∧ Blk w0 (w.heap.size + 3) v d ∧ Blk w0 (w.heap.size + 4) z e := by
  obtain ⟨w1, h1, b1, z1, x1, y1, q1⟩ := three_al w a b c s t u
  obtain ⟨w2, h2, b2, z2, x2, y2⟩ := two_al w1 d e v z
  rw [h1, h2]
  rw [z1] at x2 y2
  exact ⟨_, rfl, b1.trans (b2.mono b1.size), by omega, x1.below b2 x1.lt, y1.below b2 y1.lt, q1.below b2 q1.lt, x2, y2⟩
/-- Whether a pointer is young. -/
theorem seIs_any (p : Pt) (a gA : Nat) (w : World) (hA : w.cell? ⟨gA, 0, none⟩ = some (.int .u32 (a : Int))) (R : Bool) (hR : R = decide (a < p.2.1)) : Calls Tryz.prog 51 #[ptV p, .pointer (some ⟨gA, 0, none⟩)] w fun e w' => e = .returned (.bool R) ∧ Below w.heap.size w w' := by
  obtain ⟨pa, pb, pi, pt, ps⟩ := p
  simp only at hR
  have hb := (Below.refl w.heap.size w).alloc (Nat.le_refl _) (.cells (ptA (pa, pb, pi, pt, ps)) 32)
  have hx := Blk.new w 32 (ptA (pa, pb, pi, pt, ps))
  obtain ⟨w0, hw0⟩ : ∃ w0, w.alloc (.cells (ptA (pa, pb, pi, pt, ps)) 32) = w0 := ⟨_, rfl⟩
  rw [hw0] at hb hx
  have hA0 : w0.cell? ⟨gA, 0, none⟩ = some (.int .u32 (a : Int)) := by
    have hlt := World.block_lt_of_cell? w _ hA
    exact (hb.cell (p := ⟨gA, 0, none⟩) hlt).trans hA
  obtain ⟨g, hg⟩ : ∃ g, w.heap.size = g := ⟨_, rfl⟩
  rw [hg] at hb hx
  have HB := Lib.hid hb
  have d1 := bx1 hx
  simp only [ptA] at hw0 d1
  clear hb hx hA
  by_cases h : a < pb
  · obtain rfl : R = true := by rw [hR]; exact decide_eq_true h
    have e1 : decide ((a : Int) < (pb : Int)) = true := decide_eq_true (by omega)
    have e2 : decide (a < pb) = true := decide_eq_true h
    clear hR h
    go_enter Tryz.func51, Tryz.ntmps51
    go_wp2_with fail
    go_ret
    exact ⟨rfl, by rw [hg]; exact HB.out⟩
  · obtain rfl : R = false := by rw [hR]; exact decide_eq_false h
    have e1 : decide ((a : Int) < (pb : Int)) = false := decide_eq_false (by omega)
    have e2 : decide (a < pb) = false := decide_eq_false h
    clear hR h
    go_enter Tryz.func51, Tryz.ntmps51
    go_wp2_with fail
    go_ret
    exact ⟨rfl, by rw [hg]; exact HB.out⟩
/-- How it ended. -/
theorem seEnded_any (c : Int) (gE : Nat) (w : World) (hE : w.cell? ⟨gE, 0, none⟩ = some (.int .i64 c)) : Calls Tryz.prog 53 #[.pointer (some ⟨gE, 0, none⟩)] w fun e w' => e = .returned (.int .i64 c) ∧ w' = w := by
  go_enter Tryz.func53, Tryz.ntmps53
  go_wp2_with fail
  go_ret
  exact ⟨rfl, rfl⟩
/-- The boxes that the generator keeps: the store's, the root's, the sync's, the error's, and whether one is young. -/
structure Kept (g a : Nat) (x : SAt) (S : StL) (p : Pt) (W : World) : Prop where
  bS : Blk W g 30 (stC x S)
  bR : Blk W (g + 1) 32 (ptA p)
  bA : Blk W (g + 2) 28 #[.int .u32 (a : Int)]
  bY : Blk W (g + 4) 86 #[.func (.func 51) #[] #[.pointer (some ⟨g + 2, 0, none⟩)]]
theorem seOnes_any (x : SAt) (S : StL) (p : Pt) (a : Nat) (w : World) : Calls Tryz.prog 30 #[stV x S, ptV p, .int .u32 (a : Int)] w fun e w' => ∃ g, w.heap.size = g ∧ e = .returned (.tuple #[.func (.func 52) #[] #[.pointer (some ⟨g + 4, 0, none⟩), .pointer (some ⟨g + 1, 0, none⟩), .pointer (some ⟨g, 0, none⟩), .pointer (some ⟨g + 3, 0, none⟩)], .func (.func 53) #[] #[.pointer (some ⟨g + 3, 0, none⟩)]]) ∧
    Kept g a x S p w' ∧ Blk w' (g + 3) 36 #[.int .i64 0] ∧ Below w.heap.size w w' ∧ w'.heap.size = g + 5 := by
  obtain ⟨pa, pb, pi, pt, ps⟩ := p
  obtain ⟨w0, hw0, b0, z0, q1, q2, q3, q4, q5⟩ := five_al w (stC x S) (ptA (pa, pb, pi, pt, ps)) #[.int .u32 (a : Int)] #[.int .i64 0] #[.func (.func 51) #[] #[.pointer (some ⟨w.heap.size + 2, 0, none⟩)]] 30 32 28 36 86
  have HB := Lib.hid b0
  have HZ := Lib.hid z0
  have HK := Lib.hid (show Kept w.heap.size a x S (pa, pb, pi, pt, ps) w0 from ⟨q1, q2, q3, q5⟩)
  have HE := Lib.hid q4
  have HW := Lib.hid hw0
  clear b0 z0 q1 q2 q3 q4 q5 hw0
  go_enter Tryz.func30, Tryz.ntmps30
  go_wp2_with fail
  go_ret2
  have hw := HW.out
  simp only [stC, ptA] at hw
  rw [hw]
  exact ⟨_, rfl, rfl, HK.out, HE.out, HB.out, HZ.out⟩
end Go.Proofs.YtbggkfomfeeikaaGreatDoor
/-
  What the generator of young pointers keeps while it is gone through.
-/
namespace Go.Proofs.YtbggkfomfeeikaaGreatDoor
open Go.RowKit Go.Shelf
set_option maxRecDepth 100000

theorem yng_iff (a : Nat) (p : Pt) : Yng a p ↔ a < p.2.1 := ⟨fun h => h.2, fun h => ⟨fun e => by subst e; exact absurd h (Nat.not_lt_zero _), h⟩⟩
/-- What the generator knows between its steps. -/
structure YgW (L D0 gl g a : Nat) (x : SAt) (S : StL) (p : Pt) (c : Nat) (W : World) : Prop where
  st : StP L W x S
  kp : Kept g a x S p W
  er : Blk W (g + 3) 36 #[.int .i64 (c : Int)]
  fr : ∀ i, i < 5 → Fr D0 gl (g + i) W
  lw : L ≤ W.heap.size
  sz : Szs W
  gw : gl < W.heap.size
  dw : D0 ≤ W.heap.size
  rw : ∀ r, rowAt gl W = some r → r < W.heap.size
/-- Pointers that the generator goes through. -/
structure YgP (D0 gl n : Nat) (A : Option Addr) (c : Nat) (M : List Pt) (W : World) : Prop where
  pt : Pts W W.heap.size A n c M
  fr : 0 < n → ∀ p, A = some p → Fr D0 gl p.block W
/-- A box of the generator's. -/
structure YgB (D0 gl k : Nat) (t : TypeId) (cs : Array Value) (W : World) : Prop where
  bx : Blk W k t cs
  fr : Fr D0 gl k W
section
variable {L D0 gl g a l n c : Nat} {x : SAt} {S : StL} {p : Pt} {e : Nat} {W W' : World} {A : Option Addr} {M : List Pt} {k : Nat} {t : TypeId} {cs : Array Value}
theorem blk_same {b : Nat} {t : TypeId} {cs : Array Value} (h : Blk W b t cs) (hs : W'.heap[b]? = W.heap[b]?) : Blk W' b t cs := (show W'.heap[b]? = _ from hs).trans h
theorem Kept.blocks (h : Kept g a x S p W) (hs : ∀ i, i < 5 → i ≠ 3 → W'.heap[g + i]? = W.heap[g + i]?) : Kept g a x S p W' :=
  ⟨blk_same h.bS (hs 0 (by omega) (by omega)), blk_same h.bR (hs 1 (by omega) (by omega)), blk_same h.bA (hs 2 (by omega) (by omega)), blk_same h.bY (hs 4 (by omega) (by omega))⟩
theorem YgW.bel (h : YgW L D0 gl g a x S p e W) (b : Below W.heap.size W W') : YgW L D0 gl g a x S p e W' :=
  ⟨h.st.bel b, h.kp.blocks fun i hi _ => b.block _ (h.fr i hi).lt, h.er.below b h.er.lt, fun i hi => (h.fr i hi).grown (below_grown b) h.gw (by simp), Nat.le_trans h.lw b.size, h.sz.step b, Nat.lt_of_lt_of_le h.gw b.size, Nat.le_trans h.dw b.size, fun r hr => by
    rw [rowAt_grown (below_grown b) h.gw (by simp)] at hr
    exact Nat.lt_of_lt_of_le (h.rw r hr) b.size⟩
theorem YgW.rd (h : YgW L D0 gl g a x S p e W) (r : Rd L D0 gl (some l) W W') (hl : g + 5 ≤ l) (hD : 0 < D0) (hr : ∀ r, rowAt gl W' = some r → r < W'.heap.size) : YgW L D0 gl g a x S p e W' := by
  have hf : ∀ i, i < 5 → W'.heap[g + i]? = W.heap[g + i]? ∧ Fr D0 gl (g + i) W' := fun i hi => r.fr _ (h.fr i hi) (fun e => by injection e; omega)
  exact ⟨h.st.step r.kp, h.kp.blocks fun i hi _ => (hf i hi).1, blk_same h.er (hf 3 (by omega)).1, fun i hi => (hf i hi).2, Nat.le_trans h.lw r.kp.size, h.sz.below r.be hD, Nat.lt_of_lt_of_le h.gw r.kp.size, Nat.le_trans h.dw r.kp.size, hr⟩
/-- A box of the generator's own is written to. -/
theorem YgW.own (h : YgW L D0 gl g a x S p e W) (hg : W.grownBy W' (some k)) (hb : Blk W k t cs) (ht : rowT t = false) (hL : L ≤ k) (h0 : 0 < k) (hk : g + 5 ≤ k) (hn : k ≠ gl) : YgW L D0 gl g a x S p e W' := by
  have hf : ∀ i, i < 5 → W'.heap[g + i]? = W.heap[g + i]? := fun i hi => hg.block _ (h.fr i hi).lt (fun e => by injection e; omega)
  have hz : Below k W W' := ⟨hg.os, hg.tape, hg.output, hg.size, fun b hb' => hg.block b (Nat.lt_trans hb' hb.lt) (fun e => by injection e; omega)⟩
  have hne : some k ≠ some gl := fun e => hn (Option.some.inj e)
  exact ⟨h.st.step (Keeps.of_box hg hb ht hL), h.kp.blocks fun i hi _ => hf i hi, blk_same h.er (hf 3 (by omega)), fun i hi => (h.fr i hi).grown hg h.gw hne, Nat.le_trans h.lw hg.size, h.sz.below hz h0, Nat.lt_of_lt_of_le h.gw hg.size, Nat.le_trans h.dw hg.size, fun r hr => by
    rw [rowAt_grown hg h.gw hne] at hr
    exact Nat.lt_of_lt_of_le (h.rw r hr) hg.size⟩
/-- The error is written. -/
theorem YgW.err (h : YgW L D0 gl g a x S p e W) (hL : L ≤ g) (h0 : 0 < g) (e' : Nat) : YgW L D0 gl g a x S p e' (W.setCell ⟨g + 3, 0, none⟩ (.int .i64 (e' : Int))) := by
  have hg : W.grownBy (W.setCell ⟨g + 3, 0, none⟩ (.int .i64 (e' : Int))) (some (g + 3)) := only_setCell (World.grownBy.refl _ _) (.inl rfl) _
  have hne : some (g + 3) ≠ some gl := fun e => (h.fr 3 (by omega)).ne (Option.some.inj e)
  have hz : Below (g + 3) W (W.setCell ⟨g + 3, 0, none⟩ (.int .i64 (e' : Int))) := ⟨hg.os, hg.tape, hg.output, hg.size, fun b hb' => hg.block b (Nat.lt_trans hb' h.er.lt) (fun e => by injection e; omega)⟩
  exact ⟨h.st.step (Keeps.of_box hg h.er (by decide) (by omega)), h.kp.blocks fun i hi h3 => hg.block _ (h.fr i hi).lt (fun e => by injection e; omega), h.er.set_ 0 _, fun i hi => (h.fr i hi).grown hg h.gw hne, Nat.le_trans h.lw hg.size, h.sz.below hz (by omega), Nat.lt_of_lt_of_le h.gw hg.size, Nat.le_trans h.dw hg.size, fun r hr => by
    rw [rowAt_grown hg h.gw hne] at hr
    exact Nat.lt_of_lt_of_le (h.rw r hr) hg.size⟩
theorem Pts.blocks {B B' : Nat} (h : Pts W B A n c M) (hs : 0 < n → ∀ p, A = some p → W'.heap[p.block]? = W.heap[p.block]? ∧ p.block < B') : Pts W' B' A n c M := by
  obtain ⟨h1, h2, h3, h4, h5⟩ := h
  refine ⟨h1, h2, h3, h4, fun hl => ?_⟩
  obtain ⟨b, off, e, hlt, hc⟩ := h5 hl
  obtain ⟨hs1, hs2⟩ := hs hl _ e
  exact ⟨b, off, e, hs2, fun i hi => ⟨(hc i hi).1, fun j u hu => ((World.cell?_of_block (a := ⟨b, off + i * 5 + j, none⟩) hs1)).trans ((hc i hi).2 j u hu)⟩⟩
theorem YgP.grown {row : Option Nat} (h : YgP D0 gl n A c M W) (hg : W.grownBy W' row) (hgl : gl < W.heap.size) (hr : row ≠ some gl) (hne : 0 < n → ∀ p, A = some p → some p.block ≠ row) : YgP D0 gl n A c M W' :=
  ⟨h.pt.blocks fun hl p e => ⟨hg.block _ (h.fr hl p e).lt (hne hl p e), Nat.lt_of_lt_of_le (h.fr hl p e).lt hg.size⟩, fun hl p e => (h.fr hl p e).grown hg hgl hr⟩
theorem YgP.bel (h : YgP D0 gl n A c M W) (b : Below W.heap.size W W') (hgl : gl < W.heap.size) : YgP D0 gl n A c M W' := h.grown (below_grown b) hgl (by simp) (by simp)
theorem YgP.rd (h : YgP D0 gl n A c M W) (r : Rd L D0 gl (some l) W W') (hl : 0 < n → ∀ p, A = some p → l < p.block) : YgP D0 gl n A c M W' := by
  have hf := fun hl0 p e => r.fr _ (h.fr hl0 p e) (fun e2 => by have := hl hl0 p e; injection e2; omega)
  exact ⟨h.pt.blocks fun hl p e => ⟨(hf hl p e).1, (hf hl p e).2.lt⟩, fun hl p e => (hf hl p e).2⟩
theorem YgB.grown {row : Option Nat} (h : YgB D0 gl k t cs W) (hg : W.grownBy W' row) (hgl : gl < W.heap.size) (hr : row ≠ some gl) (hne : some k ≠ row) : YgB D0 gl k t cs W' :=
  ⟨h.bx.grown hg hne, h.fr.grown hg hgl hr⟩
theorem YgB.bel (h : YgB D0 gl k t cs W) (b : Below W.heap.size W W') (hgl : gl < W.heap.size) : YgB D0 gl k t cs W' := h.grown (below_grown b) hgl (by simp) (by simp)
theorem YgB.rd (h : YgB D0 gl k t cs W) (r : Rd L D0 gl (some l) W W') (hl : l < k) : YgB D0 gl k t cs W' := by
  have hf := r.fr _ h.fr (fun e2 => by injection e2; omega)
  exact ⟨blk_same h.bx hf.1, hf.2⟩
end
/-- How it ends: the pointers that came, and the error. -/
def YgS (S : StL) (p : Pt) (a g : Nat) (xs : List Pt) (W : World) : Prop := ∃ c : Nat, Blk W (g + 3) 36 #[.int .i64 (c : Int)] ∧ ((c = 0 ∧ youngSO S p a = (xs, 0)) ∨ (c ≠ 0 ∧ youngSO S p a = ([], c)))
end Go.Proofs.YtbggkfomfeeikaaGreatDoor
/-
  The document's own Young and Walk of layer 15.
-/
namespace Go.Proofs.YtbggkfomfeeikaaGreatDoor
open Go.RowKit Go.Shelf
set_option maxRecDepth 100000

theorem Pts.grown {w w' : World} {B len cap : Nat} {a : Option Addr} {L : List Pt} {row : Option Nat} (h : Pts w B a len cap L) (hB : B ≤ w.heap.size) (hg : w.grownBy w' row) (hne : 0 < len → ∀ p, a = some p → some p.block ≠ row) : Pts w' w'.heap.size a len cap L := by
  obtain ⟨h1, h2, h3, h4, h5⟩ := h
  refine ⟨h1, h2, h3, h4, fun hl => ?_⟩
  obtain ⟨b, off, e, hlt, hc⟩ := h5 hl
  have hn := hne hl _ e
  refine ⟨b, off, e, Nat.lt_of_lt_of_le (Nat.lt_of_lt_of_le hlt hB) hg.size, fun i hi => ⟨(hc i hi).1, fun j u hu => (hg.cell_far ⟨b, off + i * 5 + j, none⟩ (Nat.lt_of_lt_of_le hlt hB) hn).trans ((hc i hi).2 j u hu)⟩⟩
theorem flat_take_l {L : List Pt} {f : Pt → List Pt} {j : Nat} (hj : j < L.length) : (L.take (j + 1)).flatMap f = (L.take j).flatMap f ++ f (L.getD j p0) := by
  have : L.getD j p0 = L[j] := by rw [List.getD_eq_getElem?_getD, List.getElem?_eq_getElem hj]; rfl
  rw [List.take_succ_eq_append_getElem hj, List.flatMap_append, this]
  simp
/-- What Young's loops keep of what was there. -/
structure YgI (w : World) (L HH g b2 o2 c2 : Nat) (x : SAt) (S : StL) (LL : List Pt) (W : World) : Prop where
  st : StP L W x S
  bx : Blk W g 30 (stC x S)
  pl : Pts W W.heap.size (some ⟨b2, o2, none⟩) 16 c2 LL
  lw : L ≤ W.heap.size
  hw : HH ≤ W.heap.size
  be : Below w.heap.size w W
  k1 : L ≤ HH
  k2 : w.heap.size ≤ HH
  k3 : g < HH
  k4 : b2 < HH
section
variable {w W W' : World} {L HH g b2 o2 c2 : Nat} {x : SAt} {S : StL} {LL : List Pt}
theorem YgI.bel (h : YgI w L HH g b2 o2 c2 x S LL W) (b : Below W.heap.size W W') : YgI w L HH g b2 o2 c2 x S LL W' :=
  ⟨h.st.bel b, h.bx.below b h.bx.lt, h.pl.step b, Nat.le_trans h.lw b.size, Nat.le_trans h.hw b.size, h.be.trans (b.mono h.be.size), h.k1, h.k2, h.k3, h.k4⟩
end
/-- What the inner loop keeps of the object. -/
structure YgO (H1 H2 g7 n5 c5 : Nat) (a5 : Option Addr) (cs : Array Value) (L5 : List Pt) (W : World) : Prop where
  bx : Blk W g7 40 cs
  pl : Pts W W.heap.size a5 n5 c5 L5
  hw : H2 ≤ W.heap.size
  k1 : H1 ≤ g7
  k2 : g7 < H2
  k3 : 0 < n5 → ∀ p, a5 = some p → H1 ≤ p.block ∧ p.block < H2
section
variable {W W' : World} {H1 H2 g7 n5 c5 : Nat} {a5 : Option Addr} {cs : Array Value} {L5 : List Pt}
theorem YgO.bel (h : YgO H1 H2 g7 n5 c5 a5 cs L5 W) (b : Below W.heap.size W W') : YgO H1 H2 g7 n5 c5 a5 cs L5 W' :=
  ⟨h.bx.below b h.bx.lt, h.pl.step b, Nat.le_trans h.hw b.size, h.k1, h.k2, h.k3⟩
end
theorem Pts.blk_lt {w : World} {B len cap : Nat} {a : Option Addr} {L : List Pt} (h : Pts w B a len cap L) (hl : 0 < len) {p : Addr} (e : a = some p) : p.block < B := by
  obtain ⟨b, off, e2, hlt, _⟩ := h.2.2.2.2 hl
  rw [e] at e2
  injection e2 with e2
  subst e2
  exact hlt
theorem youngSO_err {S : StL} {p : Pt} {a j : Nat} {L : List Pt} (hy : Yng a p) (hr : rowSO S p = (L, 0)) (hj : j < L.length) (h0 : ∀ t, t < j → errS S a (L.getD t p0) = 0) (h1 : errS S a (L.getD j p0) ≠ 0) : youngSO S p a = ([], errS S a (L.getD j p0)) := by
  have hm : ∀ t, t < L.length → (L.map (errS S a)).getD t 0 = errS S a (L.getD t p0) := fun t ht => by
    rw [List.getD_eq_getElem?_getD, List.getD_eq_getElem?_getD, List.getElem?_map, List.getElem?_eq_getElem ht]
    rfl
  have hf : firstE (L.map (errS S a)) = errS S a (L.getD j p0) := by
    rw [firstE_at (k := j) (by rw [List.length_map]; exact hj) (fun i hi => by rw [hm i (by omega)]; exact h0 i hi) (by rw [hm j hj]; exact h1), hm j hj]
  unfold youngSO
  rw [if_neg (fun h => h hy), hr, if_neg (fun h => h rfl), hf, if_pos h1]
theorem take_len {S : StL} {a j : Nat} {L : List Pt} (hl : L.length = 16) (hj : j ≤ 16) (h : ∀ t, t < j → errS S a (L.getD t p0) = 0) : ((L.take j).flatMap (chunkS S a)).length ≤ 256 := by
  have := flat_len (L := L.take j) (f := chunkS S a) fun p hp => by
    obtain ⟨i, hi, rfl⟩ := List.getElem_of_mem hp
    rw [List.length_take] at hi
    have h1 := h i (by omega)
    rw [List.getD_eq_getElem?_getD, List.getElem?_eq_getElem (by omega)] at h1
    rw [List.getElem_take]
    unfold errS at h1
    by_cases hy : Yng a L[i]
    · exact chunkS_len S a _ (by rwa [if_pos (show Yng a ((some L[i]).getD p0) from hy)] at h1)
    · unfold chunkS
      rw [if_neg hy]
      simp
  rw [List.length_take] at this
  omega
theorem dataY_take {a k : Nat} {L : List Pt} (hk : k < L.length) : dataY a (L.take (k + 1)) = dataY a (L.take k) ++ (if Yng a (L.getD k p0) then [L.getD k p0] else []) := by
  have : L.getD k p0 = L[k] := by rw [List.getD_eq_getElem?_getD, List.getElem?_eq_getElem hk]; rfl
  unfold dataY
  rw [List.take_succ_eq_append_getElem hk, List.filter_append, this]
  congr 1
  by_cases h : Yng a L[k] <;> simp [h]
theorem dataY_len (a k : Nat) (L : List Pt) : (dataY a (L.take k)).length ≤ k := by
  unfold dataY
  exact Nat.le_trans (List.length_filter_le _ _) (by rw [List.length_take]; omega)
end Go.Proofs.YtbggkfomfeeikaaGreatDoor
/-
  Set's own generator of young pointers, gone through by whatever loop: what it tells, and by which error it ends.
-/
namespace Go.Proofs.YtbggkfomfeeikaaGreatDoor
open Go.RowKit Go.Shelf
set_option maxRecDepth 100000
attribute [local go_sem] Oper.semAt_some

theorem grown_set4 (W : World) (g : Nat) (v0 v1 v2 v3 : Value) : W.grownBy ((((W.setCell ⟨g, 0, none⟩ v0).setCell ⟨g, 1, none⟩ v1).setCell ⟨g, 2, none⟩ v2).setCell ⟨g, 3, none⟩ v3) (some g) := by
  have h0 : W.grownBy (W.setCell ⟨g, 0, none⟩ v0) (some g) := only_setCell (World.grownBy.refl W (some g)) (p := ⟨g, 0, none⟩) (.inl rfl) v0
  obtain ⟨W1, hW1⟩ : ∃ X, W.setCell ⟨g, 0, none⟩ v0 = X := ⟨_, rfl⟩
  rw [hW1] at h0 ⊢
  have h1 : W.grownBy (W1.setCell ⟨g, 1, none⟩ v1) (some g) := only_setCell h0 (p := ⟨g, 1, none⟩) (.inl rfl) v1
  obtain ⟨W2, hW2⟩ : ∃ X, W1.setCell ⟨g, 1, none⟩ v1 = X := ⟨_, rfl⟩
  rw [hW2] at h1 ⊢
  have h2 : W.grownBy (W2.setCell ⟨g, 2, none⟩ v2) (some g) := only_setCell h1 (p := ⟨g, 2, none⟩) (.inl rfl) v2
  obtain ⟨W3, hW3⟩ : ∃ X, W2.setCell ⟨g, 2, none⟩ v2 = X := ⟨_, rfl⟩
  rw [hW3] at h2 ⊢
  exact only_setCell h2 (p := ⟨g, 3, none⟩) (.inl rfl) v3
theorem grown_set1 (W : World) (g : Nat) (v : Value) : W.grownBy (W.setCell ⟨g, 0, none⟩ v) (some g) := only_setCell (World.grownBy.refl W (some g)) (p := ⟨g, 0, none⟩) (.inl rfl) v
theorem below_al (W : World) (o : Obj) : Below W.heap.size W (W.alloc o) := (Below.refl _ _).alloc (Nat.le_refl _) o
theorem YgB.mk_new {L D0 gl g a e : Nat} {x : SAt} {S : StL} {p : Pt} {W : World} (h : YgW L D0 gl g a x S p e W) (t : TypeId) (cs : Array Value) : YgB D0 gl W.heap.size t cs (W.alloc (.cells cs t)) :=
  ⟨Blk.new W t cs, Fr.new (below_al W _) h.dw h.gw h.rw (Nat.le_refl _) (by simp)⟩
theorem YgP.mk_new {L D0 gl g a e n c : Nat} {x : SAt} {S : StL} {p : Pt} {W W' : World} {A : Option Addr} {M : List Pt} (h : YgW L D0 gl g a x S p e W) (hb : Below W.heap.size W W') (hp : Pts W' W'.heap.size A n c M) (hi : HiA W.heap.size A) : YgP D0 gl n A c M W' :=
  ⟨hp, fun hl q e => Fr.new hb h.dw h.gw h.rw (hi q e) (hp.blk_lt hl e)⟩
set_option linter.unusedSimpArgs false in
set_option maxHeartbeats 16000000 in
theorem seGo_in (m : Nat) (hm : 2 ≤ m) (L D0 gl g a : Nat) (x : SAt) (S : StL) (p : Pt) (l : Nat) (hms : MayS S) (hmp : MayP p) (hwp : WfP p) (hLg : L ≤ g) (hg0 : 0 < g) (hD : 0 < D0) (hDg : D0 ≤ g) (hl : g + 5 ≤ l)
    (J : List Pt → World → Prop) (W : World) (hlW : l < W.heap.size)
    (hJ : ∀ pre A A' row, J pre A → A.grownBy A' row → (∀ k, row = some k → Fr D0 gl k A ∧ k + 1 ≠ l ∧ k ≠ l) → J pre A')
    (hJr : ∀ pre A r, J pre A → rowAt gl A = some r → r < A.heap.size)
    (hY : ∀ pre x W1, J pre W1 → WfP x → pre.length < 1000 → YieldAt Fence.wide (m - 1) Tryz.prog l #[ptV x] W1 fun e W' => e = .returned (.bool true) ∧ J (pre ++ [x]) W' ∧ Rd L D0 gl (some l) W1 W')
    (h0 : J [] W) (hW : YgW L D0 gl g a x S p 0 W) :
    CallsIn Fence.wide m Tryz.prog 52 #[.func (.yield l) #[] #[], .pointer (some ⟨g + 4, 0, none⟩), .pointer (some ⟨g + 1, 0, none⟩), .pointer (some ⟨g, 0, none⟩), .pointer (some ⟨g + 3, 0, none⟩)] W fun e W' => (∃ v, e = .returned v) ∧ ∃ xs, YgS S p a g xs W' ∧ J xs W' := by
  obtain ⟨pa, pb, pi, pt, ps⟩ := p
  have HY := Lib.hid hW
  have HLW := Lib.hid hlW
  have HJJ := Lib.hid h0
  have HJ := Lib.hid hJ
  have HJR := Lib.hid hJr
  have HYL := Lib.hid hY
  have HMS := Lib.hid hms
  have HMP := Lib.hid hmp
  have HWP := Lib.hid hwp
  have HLG := Lib.hid hLg
  have HG0 := Lib.hid hg0
  have HD := Lib.hid hD
  have HDG := Lib.hid hDg
  have HL := Lib.hid hl
  clear hW hlW h0 hJ hJr hY hms hmp hwp hLg hg0 hD hDg hl
  have hd : 1 ≤ m := by omega
  have hd1 : 1 ≤ m - 1 := by omega
  by_cases hy : a < pb
  · have HYD := Lib.hid (show true = decide (a < pb) from (decide_eq_true hy).symm)
    have HYP := Lib.hid (show Yng a (pa, pb, pi, pt, ps) from (yng_iff a _).2 hy)
    clear hy
    have y0_ : W.cell? ⟨g + 4, 0, none⟩ = some (.func (.func 51) #[] #[.pointer (some ⟨g + 2, 0, none⟩)]) := HY.out.kp.bY.cell 0
    have r0_ := bx0 HY.out.kp.bR
    have r1_ := bx1 HY.out.kp.bR
    have r2_ := bx2 HY.out.kp.bR
    have r3_ := bx3 HY.out.kp.bR
    have r4_ := bx4 HY.out.kp.bR
    refine callsIn_of_wp Tryz.func52 rfl trivial ?_ rfl
    simp only [Tryz.ntmps52, List.size_toArray, List.length_cons, List.length_nil, Nat.reduceAdd, Nat.reduceSub, Array.replicate_succ, Array.replicate_zero, List.push_toArray, List.append_toArray, List.nil_append, List.cons_append]
    gi_wp2
    clear y0_ r0_ r1_ r2_ r3_ r4_
    refine ⟨trivial, ?_⟩
    have his := seIs_any (pa, pb, pi, pt, ps) a (g + 2) W (HY.out.kp.bA.cell 0) true (by exact HYD.out)
    refine (callsIn_wide.2 his).mono ?_
    rintro e w1 ⟨rfl, bq⟩
    clear his
    replace HJJ := Lib.hid (HJ.out _ _ _ none HJJ.out (below_grown bq) (fun _ e => by cases e))
    replace HLW := Lib.hid (Nat.lt_of_lt_of_le HLW.out bq.size)
    replace HY := Lib.hid (HY.out.bel bq)
    clear bq HYD
    have r0_ := bx0 HY.out.kp.bR
    have r1_ := bx1 HY.out.kp.bR
    have r2_ := bx2 HY.out.kp.bR
    have r3_ := bx3 HY.out.kp.bR
    have r4_ := bx4 HY.out.kp.bR
    obtain ⟨fn, tmps, assign, body, hy, hR⟩ := HYL.out [] (pa, pb, pi, pt, ps) w1 HJJ.out HWP.out (by decide)
    simp only [ptV] at hy
    gi_wp2
    refine hR.mono ?_
    rintro e w2 ⟨rfl, hj, hrd⟩
    clear hR hy
    replace HY := Lib.hid (HY.out.rd hrd HL.out HD.out (fun q h => HJR.out _ _ q hj h))
    replace HLW := Lib.hid (Nat.lt_of_lt_of_le HLW.out hrd.kp.size)
    replace HJJ := Lib.hid hj
    clear hrd hj
    clear r0_ r1_ r2_ r3_ r4_
    rcases rowSO_cases S (pa, pb, pi, pt, ps) with ⟨e, her, hen⟩ | ⟨LL, her, hl16, hwf, hml⟩
    · have HO := Lib.hid (show youngSO S (pa, pb, pi, pt, ps) a = ([], e) by unfold youngSO; rw [if_neg (fun h => h HYP.out), her, if_pos hen])
      have HEN := Lib.hid hen
      have e2_ : ((e : Int) != 0) = true := by simp; omega
      clear hen
      have r0_ := bx0 HY.out.kp.bR
      have r1_ := bx1 HY.out.kp.bR
      have r2_ := bx2 HY.out.kp.bR
      have r3_ := bx3 HY.out.kp.bR
      have r4_ := bx4 HY.out.kp.bR
      have s0_ := bx0 HY.out.kp.bS
      have s1_ := bx1 HY.out.kp.bS
      have s2_ := bx2 HY.out.kp.bS
      have s3_ := bx3 HY.out.kp.bS
      have s4_ := bx4 HY.out.kp.bS
      gi_wp2
      clear r0_ r1_ r2_ r3_ r4_ s0_ s1_ s2_ s3_ s4_
      refine ⟨trivial, ?_⟩
      have hrw := seRow_any L x S (pa, pb, pi, pt, ps) w2 HY.out.st HMS.out HMP.out HWP.out HY.out.lw HY.out.sz
      rw [her] at hrw
      refine (callsIn_wide.2 hrw).mono ?_
      rintro ev w3 ⟨a2, c2, rfl, ht2, hh2, bq⟩
      clear hrw
      clear ht2 hh2 her
      replace HJJ := Lib.hid (HJ.out _ _ _ none HJJ.out (below_grown bq) (fun _ e => by cases e))
      replace HLW := Lib.hid (Nat.lt_of_lt_of_le HLW.out bq.size)
      replace HY := Lib.hid (HY.out.bel bq)
      clear bq
      have e0_ : w3.cell? ⟨g + 3, 0, none⟩ = some (.int .i64 0) := HY.out.er.cell 0
      have ef_ := HY.out.er.frozen 0
      have hge := grown_set1 w3 (g + 3) (.int .i64 (e : Int))
      have hye := HY.out.err HLG.out HG0.out e
      have hne3 : some (g + 3) ≠ some gl := fun e => (HY.out.fr 3 (by omega)).ne (Option.some.inj e)
      have hje := HJ.out _ _ _ (some (g + 3)) HJJ.out hge (fun k e => by cases e; exact ⟨HY.out.fr 3 (by omega), by have := HL.out; omega, by have := HL.out; omega⟩)
      have hse := hge.size
      obtain ⟨w4, hne⟩ : ∃ X, w3.setCell ⟨g + 3, 0, none⟩ (.int .i64 (e : Int)) = X := ⟨_, rfl⟩
      rw [hne] at hye hje hse 
      replace HY := Lib.hid hye
      replace HJJ := Lib.hid hje
      replace HLW := Lib.hid (Nat.lt_of_lt_of_le HLW.out hse)
      have e1_ : w4.cell? ⟨g + 3, 0, none⟩ = some (.int .i64 (e : Int)) := HY.out.er.cell 0
      clear hge hye hne3 hje hse 
      gi_wp2
      refine bodyPost_ret (results_none rfl _ _ _) rfl ?_
      exact ⟨⟨_, rfl⟩, _, ⟨e, HY.out.er, .inr ⟨HEN.out, HO.out⟩⟩, HJJ.out⟩
    · have HER := Lib.hid her
      have HL16 := Lib.hid hl16
      have HWL := Lib.hid hwf
      have HML := Lib.hid hml
      clear hl16 hwf hml
      have r0_ := bx0 HY.out.kp.bR
      have r1_ := bx1 HY.out.kp.bR
      have r2_ := bx2 HY.out.kp.bR
      have r3_ := bx3 HY.out.kp.bR
      have r4_ := bx4 HY.out.kp.bR
      have s0_ := bx0 HY.out.kp.bS
      have s1_ := bx1 HY.out.kp.bS
      have s2_ := bx2 HY.out.kp.bS
      have s3_ := bx3 HY.out.kp.bS
      have s4_ := bx4 HY.out.kp.bS
      gi_wp2
      clear r0_ r1_ r2_ r3_ r4_ s0_ s1_ s2_ s3_ s4_
      refine ⟨trivial, ?_⟩
      have hrw := seRow_any L x S (pa, pb, pi, pt, ps) w2 HY.out.st HMS.out HMP.out HWP.out HY.out.lw HY.out.sz
      rw [her] at hrw
      refine (callsIn_wide.2 hrw).mono ?_
      rintro ev w3 ⟨a2, c2, rfl, ht2, hh2, bq⟩
      clear hrw
      simp only [HL16.out] at ht2 ⊢
      have hpn := YgP.mk_new HY.out bq ht2 hh2
      obtain ⟨b2, o2, rfl, _⟩ := ht2.2.2.2.2 (by omega)
      have HLP := Lib.hid hpn
      have HLHLP := Lib.hid (show 0 < 16 → ∀ p, some (⟨b2, o2, none⟩ : Addr) = some p → l < p.block from fun _ p e => by cases e; exact Nat.lt_of_lt_of_le HLW.out (hh2 _ rfl))
      clear hpn ht2 hh2 her
      replace HJJ := Lib.hid (HJ.out _ _ _ none HJJ.out (below_grown bq) (fun _ e => by cases e))
      replace HLW := Lib.hid (Nat.lt_of_lt_of_le HLW.out bq.size)
      replace HY := Lib.hid (HY.out.bel bq)
      clear bq
      have ez : (((0 : Nat) : Int)) = 0 := rfl
      rw [ez]
      clear ez
      have e0_ : w3.cell? ⟨g + 3, 0, none⟩ = some (.int .i64 0) := HY.out.er.cell 0
      have ef_ := HY.out.er.frozen 0
      have hge := grown_set1 w3 (g + 3) (.int .i64 0)
      have hye := HY.out.err HLG.out HG0.out 0
      have hne3 : some (g + 3) ≠ some gl := fun e => (HY.out.fr 3 (by omega)).ne (Option.some.inj e)
      have hje := HJ.out _ _ _ (some (g + 3)) HJJ.out hge (fun k e => by cases e; exact ⟨HY.out.fr 3 (by omega), by have := HL.out; omega, by have := HL.out; omega⟩)
      have HLPe := HLP.out.grown hge HY.out.gw hne3 (fun h p e e2 => by have := HLHLP.out h p e; have := HL.out; injection e2; omega)
      have hse := hge.size
      obtain ⟨w4, hne⟩ : ∃ X, w3.setCell ⟨g + 3, 0, none⟩ (.int .i64 0) = X := ⟨_, rfl⟩
      change YgW _ _ _ _ _ _ _ _ _ (w3.setCell ⟨g + 3, 0, none⟩ (.int .i64 0)) at hye
      rw [hne] at hye hje hse HLPe
      replace HLP := Lib.hid (HLPe)
      replace HY := Lib.hid hye
      replace HJJ := Lib.hid hje
      replace HLW := Lib.hid (Nat.lt_of_lt_of_le HLW.out hse)
      have e1_ : w4.cell? ⟨g + 3, 0, none⟩ = some (.int .i64 0) := HY.out.er.cell 0
      clear hge hye hne3 hje hse HLPe
      gi_wp2
      clear e0_ ef_ e1_ hne
      gi_loopw [32] (fun i wr => ∃ j : Nat, j ≤ 16 ∧ i = .int .i64 j ∧ (∀ t, t < j → errS S a (LL.getD t p0) = 0) ∧ J ((pa, pb, pi, pt, ps) :: (LL.take j).flatMap (chunkS S a)) wr ∧ YgW L D0 gl g a x S (pa, pb, pi, pt, ps) 0 wr ∧ YgP D0 gl 16 (some ⟨b2, o2, none⟩) c2 LL wr ∧ l < wr.heap.size) (fun i _ => 16 - (intOf i).toNat)
      case atStart => exact ⟨0, Nat.zero_le _, rfl, fun j hj => absurd hj (Nat.not_lt_zero _), HJJ.out, HY.out, HLP.out, HLW.out⟩
      case round =>
        clear HJJ HY HLP HLW
        obtain ⟨j, hj, rfl, herr, hjj, hyw, hlp, hlw⟩ := hrel
        have HE := Lib.hid herr
        have HJJ := Lib.hid hjj
        have HY := Lib.hid hyw
        have HLP := Lib.hid hlp
        have HLW := Lib.hid hlw
        have j0 : (0 : Int) ≤ j := by omega
        clear herr hjj hyw hlp hlw
        by_cases hlt : j < 16
        · have j1 : (j : Int) < 16 := by omega
          obtain ⟨⟨ya, yb, yi, yt, ys⟩, hP⟩ : ∃ X, LL.getD j p0 = X := ⟨_, rfl⟩
          have hmem : LL.getD j p0 ∈ LL := by
            rw [List.getD_eq_getElem?_getD, List.getElem?_eq_getElem (by rw [HL16.out]; exact hlt)]
            exact List.getElem_mem _
          have hmq := HML.out _ hmem
          have hwq := HWL.out _ hmem
          have hfl := flat_take_l (f := chunkS S a) (j := j) (L := LL) (by rw [HL16.out]; exact hlt)
          rw [hP] at hmq hwq hfl
          have HPE := Lib.hid hP
          have HMQ := Lib.hid hmq
          have HWQ := Lib.hid hwq
          have HFL := Lib.hid hfl
          have HPL := Lib.hid (take_len HL16.out hj HE.out)
          clear hP hmem hmq hwq hfl
          obtain ⟨_, _, ea, _, _, v0_, v1_, v2_, v3_, v4_⟩ := HLP.out.pt.cells j hlt
          cases ea
          rw [HPE.out] at v0_ v1_ v2_ v3_ v4_
          simp only at v0_ v1_ v2_ v3_ v4_
          have y0_ : ∀ o : Obj, (wr.alloc o).cell? ⟨g + 4, 0, none⟩ = some (.func (.func 51) #[] #[.pointer (some ⟨g + 2, 0, none⟩)]) := fun o => (HY.out.bel (below_al wr o)).kp.bY.cell 0
          gi_wp2
          clear v0_ v1_ v2_ v3_ v4_ y0_
          have hbx := YgB.mk_new HY.out 32 #[.int .i64 ya, .int .u32 (yb : Int), .int .u32 (yi : Int), .int .u32 (yt : Int), .int .u32 (ys : Int)]
          have bq := below_al wr (.cells #[.int .i64 ya, .int .u32 (yb : Int), .int .u32 (yi : Int), .int .u32 (yt : Int), .int .u32 (ys : Int)] 32)
          obtain ⟨w5, hn⟩ : ∃ X, wr.alloc (.cells #[.int .i64 ya, .int .u32 (yb : Int), .int .u32 (yi : Int), .int .u32 (yt : Int), .int .u32 (ys : Int)] 32) = X := ⟨_, rfl⟩
          obtain ⟨g8, hgn⟩ : ∃ X, wr.heap.size = X := ⟨_, rfl⟩
          have hlb : l < g8 := by rw [← hgn]; exact HLW.out
          have hgb : L ≤ g8 ∧ gl < g8 := by rw [← hgn]; exact ⟨HY.out.lw, HY.out.gw⟩
          rw [hn] at hbx bq ⊢
          rw [hgn] at hbx
          rw [hgn]
          have HB8 := Lib.hid hbx
          have HLHB8 := Lib.hid hlb
          have HGHB8 := Lib.hid hgb
          replace HLP := Lib.hid (HLP.out.bel bq HY.out.gw)
          replace HJJ := Lib.hid (HJ.out _ _ _ none HJJ.out (below_grown bq) (fun _ e => by cases e))
          replace HLW := Lib.hid (Nat.lt_of_lt_of_le HLW.out bq.size)
          replace HY := Lib.hid (HY.out.bel bq)
          clear bq hbx hlb hgb hn hgn
          by_cases hyb : a < yb
          · have HYD := Lib.hid (show true = decide (a < yb) from (decide_eq_true hyb).symm)
            have HYQ := Lib.hid (show Yng a (ya, yb, yi, yt, ys) from (yng_iff a _).2 hyb)
            clear hyb
            refine ⟨trivial, ?_⟩
            have his := seIs_any (ya, yb, yi, yt, ys) a (g + 2) w5 (HY.out.kp.bA.cell 0) true (by exact HYD.out)
            refine (callsIn_wide.2 his).mono ?_
            rintro e w6 ⟨rfl, bq⟩
            clear his
            replace HLP := Lib.hid (HLP.out.bel bq HY.out.gw)
            replace HB8 := Lib.hid (HB8.out.bel bq HY.out.gw)
            replace HJJ := Lib.hid (HJ.out _ _ _ none HJJ.out (below_grown bq) (fun _ e => by cases e))
            replace HLW := Lib.hid (Nat.lt_of_lt_of_le HLW.out bq.size)
            replace HY := Lib.hid (HY.out.bel bq)
            clear bq HYD
            have q0 := bx0 HB8.out.bx
            have q1 := bx1 HB8.out.bx
            have q2 := bx2 HB8.out.bx
            have q3 := bx3 HB8.out.bx
            have q4 := bx4 HB8.out.bx
            obtain ⟨fn, tmps, assign, body, hy, hR⟩ := HYL.out ((pa, pb, pi, pt, ps) :: (LL.take j).flatMap (chunkS S a)) (ya, yb, yi, yt, ys) w6 HJJ.out HWQ.out (by rw [List.length_cons]; have := HPL.out; omega)
            simp only [ptV] at hy
            gi_wp2
            refine hR.mono ?_
            rintro e w7 ⟨rfl, hj, hrd⟩
            clear hR hy
            replace HLP := Lib.hid (HLP.out.rd hrd HLHLP.out)
            replace HB8 := Lib.hid (HB8.out.rd hrd HLHB8.out)
            replace HY := Lib.hid (HY.out.rd hrd HL.out HD.out (fun q h => HJR.out _ _ q hj h))
            replace HLW := Lib.hid (Nat.lt_of_lt_of_le HLW.out hrd.kp.size)
            replace HJJ := Lib.hid hj
            clear hrd hj
            clear q0 q1 q2 q3 q4
            have s0_ := fun o : Obj => bx0 (HY.out.bel (below_al w7 o)).kp.bS
            have s1_ := fun o : Obj => bx1 (HY.out.bel (below_al w7 o)).kp.bS
            have s2_ := fun o : Obj => bx2 (HY.out.bel (below_al w7 o)).kp.bS
            have s3_ := fun o : Obj => bx3 (HY.out.bel (below_al w7 o)).kp.bS
            have s4_ := fun o : Obj => bx4 (HY.out.bel (below_al w7 o)).kp.bS
            have q0_ := fun o : Obj => bx0 (HB8.out.bel (below_al w7 o) HY.out.gw).bx
            have q1_ := fun o : Obj => bx1 (HB8.out.bel (below_al w7 o) HY.out.gw).bx
            have q2_ := fun o : Obj => bx2 (HB8.out.bel (below_al w7 o) HY.out.gw).bx
            have q3_ := fun o : Obj => bx3 (HB8.out.bel (below_al w7 o) HY.out.gw).bx
            have q4_ := fun o : Obj => bx4 (HB8.out.bel (below_al w7 o) HY.out.gw).bx
            obtain ⟨⟨⟨k5, l5, r5, L5⟩, z5⟩, hoe⟩ : ∃ o, oneSO S (ya, yb, yi, yt, ys) = o := ⟨_, rfl⟩
            obtain ⟨n5, hn5⟩ : ∃ n, L5.length = n := ⟨_, rfl⟩
            have HOE := Lib.hid hoe
            have HK15 := Lib.hid (show n5 ≤ 15 by
              rcases oneSO_cases S (ya, yb, yi, yt, ys) with ⟨e, h1, h2⟩ | ⟨O, h1, h2, _⟩
              · rw [hoe] at h1
                cases h1
                rw [← hn5]
                exact Nat.zero_le _
              · rw [hoe] at h1
                cases h1
                have := h2.1.2.2.2
                simp only at this
                omega)
            have HN5 := Lib.hid hn5
            clear hoe hn5
            gi_wp2
            clear s0_ q0_ s1_ q1_ s2_ q2_ s3_ q3_ s4_ q4_ HB8 HLHB8 HGHB8
            have hbx := YgB.mk_new HY.out 40 #[.int .u8 0, .int .i64 0, .int .i64 0, .slice none 0 0]
            have bq := below_al w7 (.cells #[.int .u8 0, .int .i64 0, .int .i64 0, .slice none 0 0] 40)
            obtain ⟨w8, hn⟩ : ∃ X, w7.alloc (.cells #[.int .u8 0, .int .i64 0, .int .i64 0, .slice none 0 0] 40) = X := ⟨_, rfl⟩
            obtain ⟨g9, hgn⟩ : ∃ X, w7.heap.size = X := ⟨_, rfl⟩
            have hlb : l < g9 := by rw [← hgn]; exact HLW.out
            have hgb : L ≤ g9 ∧ gl < g9 := by rw [← hgn]; exact ⟨HY.out.lw, HY.out.gw⟩
            have HB29 := Lib.hid (show b2 < g9 by rw [← hgn]; exact (HLP.out.fr (by omega) _ rfl).lt)
            rw [hn] at hbx bq ⊢
            rw [hgn] at hbx
            rw [hgn]
            have HB9 := Lib.hid hbx
            have HLHB9 := Lib.hid hlb
            have HGHB9 := Lib.hid hgb
            replace HLP := Lib.hid (HLP.out.bel bq HY.out.gw)
            replace HJJ := Lib.hid (HJ.out _ _ _ none HJJ.out (below_grown bq) (fun _ e => by cases e))
            replace HLW := Lib.hid (Nat.lt_of_lt_of_le HLW.out bq.size)
            replace HY := Lib.hid (HY.out.bel bq)
            clear bq hbx hlb hgb hn hgn
            refine ⟨trivial, ?_⟩
            have hoc := seOne_any L x S (ya, yb, yi, yt, ys) w8 HY.out.st HMS.out HMQ.out HWQ.out HY.out.lw HY.out.sz
            rw [HOE.out] at hoc
            refine (callsIn_wide.2 hoc).mono ?_
            rintro ev w9 ⟨a5, c5, rfl, ht5, hi5, bq⟩
            clear hoc
            simp only [HN5.out] at ht5 hi5 ⊢
            have HP5 := Lib.hid (YgP.mk_new HY.out bq ht5 hi5)
            have HLHP5 := Lib.hid (show 0 < n5 → ∀ p, a5 = some p → l < p.block from fun _ p e => Nat.lt_of_lt_of_le HLW.out (hi5 p e))
            have HN9 := Lib.hid (show ∀ p, a5 = some p → g9 < p.block from fun p e => Nat.lt_of_lt_of_le HB9.out.bx.lt (hi5 p e))
            clear ht5 hi5
            replace HLP := Lib.hid (HLP.out.bel bq HY.out.gw)
            replace HB9 := Lib.hid (HB9.out.bel bq HY.out.gw)
            replace HJJ := Lib.hid (HJ.out _ _ _ none HJJ.out (below_grown bq) (fun _ e => by cases e))
            replace HLW := Lib.hid (Nat.lt_of_lt_of_le HLW.out bq.size)
            replace HY := Lib.hid (HY.out.bel bq)
            clear bq
            have m0 := ox0 HB9.out.bx
            have m1 := ox1 HB9.out.bx
            have m2 := ox2 HB9.out.bx
            have m3 := ox3 HB9.out.bx
            have hfz := fun i => HB9.out.bx.frozen i
            have xz := HB9.out.bx.set4 (.int .u8 (k5 : Int)) (.int .i64 l5) (.int .i64 r5) (.slice a5 n5 c5)
            have hg4 := grown_set4 w9 g9 (.int .u8 (k5 : Int)) (.int .i64 l5) (.int .i64 r5) (.slice a5 n5 c5)
            have hn9 : some g9 ≠ some gl := fun e => HB9.out.fr.ne (Option.some.inj e)
            have hy4 := HY.out.own hg4 HB9.out.bx (by decide) HGHB9.out.1 (by have := HLHB9.out; omega) (by have := HLHB9.out; have := HL.out; omega) HB9.out.fr.ne
            have hj4 := HJ.out _ _ _ (some g9) HJJ.out hg4 (fun k e => by cases e; exact ⟨HB9.out.fr, by have := HLHB9.out; omega, by have := HLHB9.out; omega⟩)
            have hp4 := HLP.out.grown hg4 HY.out.gw hn9 (fun _ p e e2 => by cases e; injection e2 with e2; have := HB29.out; simp only at e2; omega)
            have hp54 := HP5.out.grown hg4 HY.out.gw hn9 (fun _ p e e2 => by injection e2 with e2; have := HN9.out p e; omega)
            have hb94 := (show YgB D0 gl g9 _ _ _ from ⟨xz, HB9.out.fr.grown hg4 HY.out.gw hn9⟩)
            have hs4 := hg4.size
            obtain ⟨wz, hwz⟩ : ∃ X, (((w9.setCell ⟨g9, 0, none⟩ (.int .u8 (k5 : Int))).setCell ⟨g9, 1, none⟩ (.int .i64 l5)).setCell ⟨g9, 2, none⟩ (.int .i64 r5)).setCell ⟨g9, 3, none⟩ (.slice a5 n5 c5) = X := ⟨_, rfl⟩
            rw [hwz] at hy4 hj4 hp4 hp54 hb94 hs4
            replace HLP := Lib.hid hp4
            replace HP5 := Lib.hid hp54
            replace HB9 := Lib.hid hb94
            replace HY := Lib.hid hy4
            replace HJJ := Lib.hid hj4
            replace HLW := Lib.hid (Nat.lt_of_lt_of_le HLW.out hs4)
            clear hg4 hn9 hy4 hj4 hp4 hp54 hb94 hs4 xz
            by_cases hz5 : z5 ≠ 0
            · have e2_ : ((z5 : Int) != 0) = true := by simp; omega
              have hpe : errS S a (ya, yb, yi, yt, ys) = z5 := by
                unfold errS
                rw [if_pos HYQ.out, HOE.out]
              have HO := Lib.hid (show youngSO S (pa, pb, pi, pt, ps) a = ([], z5) by
                rw [youngSO_err (j := j) HYP.out HER.out (by rw [HL16.out]; exact hlt) HE.out (by rw [HPE.out, hpe]; exact hz5), HPE.out, hpe])
              have HZ5 := Lib.hid hz5
              clear hpe hz5
              have e0_ : wz.cell? ⟨g + 3, 0, none⟩ = some (.int .i64 0) := HY.out.er.cell 0
              have ef_ := HY.out.er.frozen 0
              have hge := grown_set1 wz (g + 3) (.int .i64 (z5 : Int))
              have hye := HY.out.err HLG.out HG0.out z5
              have hne3 : some (g + 3) ≠ some gl := fun e => (HY.out.fr 3 (by omega)).ne (Option.some.inj e)
              have hje := HJ.out _ _ _ (some (g + 3)) HJJ.out hge (fun k e => by cases e; exact ⟨HY.out.fr 3 (by omega), by have := HL.out; omega, by have := HL.out; omega⟩)
              have hse := hge.size
              obtain ⟨w10, hne⟩ : ∃ X, wz.setCell ⟨g + 3, 0, none⟩ (.int .i64 (z5 : Int)) = X := ⟨_, rfl⟩
              rw [hne] at hye hje hse 
              replace HY := Lib.hid hye
              replace HJJ := Lib.hid hje
              replace HLW := Lib.hid (Nat.lt_of_lt_of_le HLW.out hse)
              have e1_ : w10.cell? ⟨g + 3, 0, none⟩ = some (.int .i64 (z5 : Int)) := HY.out.er.cell 0
              clear hge hye hne3 hje hse 
              gi_wp2
              refine bodyPost_ret (results_none rfl _ _ _) rfl ?_
              exact ⟨⟨_, rfl⟩, _, ⟨z5, HY.out.er, .inr ⟨HZ5.out, HO.out⟩⟩, HJJ.out⟩
            · have hz0 : z5 = 0 := by omega
              subst hz0
              clear hz5
              have ez : (((0 : Nat) : Int)) = 0 := rfl
              try rw [ez]
              clear ez
              have e0_ : wz.cell? ⟨g + 3, 0, none⟩ = some (.int .i64 0) := HY.out.er.cell 0
              have ef_ := HY.out.er.frozen 0
              have hge := grown_set1 wz (g + 3) (.int .i64 0)
              have hye := HY.out.err HLG.out HG0.out 0
              have hne3 : some (g + 3) ≠ some gl := fun e => (HY.out.fr 3 (by omega)).ne (Option.some.inj e)
              have hje := HJ.out _ _ _ (some (g + 3)) HJJ.out hge (fun k e => by cases e; exact ⟨HY.out.fr 3 (by omega), by have := HL.out; omega, by have := HL.out; omega⟩)
              have HLPe := HLP.out.grown hge HY.out.gw hne3 (fun h p e e2 => by have := HLHLP.out h p e; have := HL.out; injection e2; omega)
              have HP5e := HP5.out.grown hge HY.out.gw hne3 (fun h p e e2 => by have := HLHP5.out h p e; have := HL.out; injection e2; omega)
              have HB9e := HB9.out.grown hge HY.out.gw hne3 (fun e2 => by have := HLHB9.out; have := HL.out; injection e2; omega)
              have hse := hge.size
              obtain ⟨w10, hne⟩ : ∃ X, wz.setCell ⟨g + 3, 0, none⟩ (.int .i64 0) = X := ⟨_, rfl⟩
              change YgW _ _ _ _ _ _ _ _ _ (wz.setCell ⟨g + 3, 0, none⟩ (.int .i64 0)) at hye
              rw [hne] at hye hje hse HLPe HP5e HB9e
              replace HLP := Lib.hid (HLPe)
              replace HP5 := Lib.hid (HP5e)
              replace HB9 := Lib.hid (HB9e)
              replace HY := Lib.hid hye
              replace HJJ := Lib.hid hje
              replace HLW := Lib.hid (Nat.lt_of_lt_of_le HLW.out hse)
              have e1_ : w10.cell? ⟨g + 3, 0, none⟩ = some (.int .i64 0) := HY.out.er.cell 0
              clear hge hye hne3 hje hse HLPe HP5e HB9e
              have n3_ : w10.cell? ⟨g9, 3, none⟩ = some (.slice a5 n5 c5) := HB9.out.bx.cell 3
              have n50 : (0 : Int) ≤ n5 := by omega
              gi_wp2
              clear n3_ m0 m1 m2 m3 hfz hwz HB9 HLHB9 HGHB9 HN9 HB29
              clear e0_ ef_ e1_ hne
              gi_loopw [55] (fun i wr => ∃ k : Nat, k ≤ n5 ∧ i = .int .i64 k ∧ J (((pa, pb, pi, pt, ps) :: (LL.take j).flatMap (chunkS S a)) ++ ((ya, yb, yi, yt, ys) :: dataY a (L5.take k))) wr ∧ YgW L D0 gl g a x S (pa, pb, pi, pt, ps) 0 wr ∧ YgP D0 gl 16 (some ⟨b2, o2, none⟩) c2 LL wr ∧ YgP D0 gl n5 a5 c5 L5 wr ∧ l < wr.heap.size) (fun i _ => n5 - (intOf i).toNat)
              case atStart => exact ⟨0, Nat.zero_le _, rfl, HJJ.out, HY.out, HLP.out, HP5.out, HLW.out⟩
              case round =>
                clear HJJ HY HLP HLW HP5
                obtain ⟨k, hk, rfl, hjj, hyw, hlp, hp5, hlw⟩ := hrel
                have HJJ := Lib.hid hjj
                have HY := Lib.hid hyw
                have HLP := Lib.hid hlp
                have HP5 := Lib.hid hp5
                have HLW := Lib.hid hlw
                have k0 : (0 : Int) ≤ k := by omega
                clear hjj hyw hlp hp5 hlw
                by_cases hkt : k < n5
                · have k1 : (k : Int) < n5 := by omega
                  have k2 : (k : Int) < 15 := by have := HK15.out; omega
                  obtain ⟨⟨za, zb, zi, zt, zs⟩, hZ⟩ : ∃ X, L5.getD k p0 = X := ⟨_, rfl⟩
                  have hdt := dataY_take (a := a) (k := k) (L := L5) (by rw [HN5.out]; exact hkt)
                  have hzw : WfP (L5.getD k p0) := HP5.out.pt.wf (by
                    rw [List.getD_eq_getElem?_getD, List.getElem?_eq_getElem (by rw [HN5.out]; exact hkt)]
                    exact List.getElem_mem _)
                  rw [hZ] at hdt hzw
                  have HZE := Lib.hid hZ
                  have HDT := Lib.hid hdt
                  have HZW := Lib.hid hzw
                  clear hZ hdt hzw
                  obtain ⟨b5, o5, ea, _, _, v0_, v1_, v2_, v3_, v4_⟩ := HP5.out.pt.cells k hkt
                  cases ea
                  rw [HZE.out] at v0_ v1_ v2_ v3_ v4_
                  simp only at v0_ v1_ v2_ v3_ v4_
                  have y0_ : ∀ o : Obj, (wr.alloc o).cell? ⟨g + 4, 0, none⟩ = some (.func (.func 51) #[] #[.pointer (some ⟨g + 2, 0, none⟩)]) := fun o => (HY.out.bel (below_al wr o)).kp.bY.cell 0
                  gi_wp2
                  clear v0_ v1_ v2_ v3_ v4_ y0_
                  have hbx := YgB.mk_new HY.out 32 #[.int .i64 za, .int .u32 (zb : Int), .int .u32 (zi : Int), .int .u32 (zt : Int), .int .u32 (zs : Int)]
                  have bq := below_al wr (.cells #[.int .i64 za, .int .u32 (zb : Int), .int .u32 (zi : Int), .int .u32 (zt : Int), .int .u32 (zs : Int)] 32)
                  obtain ⟨w11, hn⟩ : ∃ X, wr.alloc (.cells #[.int .i64 za, .int .u32 (zb : Int), .int .u32 (zi : Int), .int .u32 (zt : Int), .int .u32 (zs : Int)] 32) = X := ⟨_, rfl⟩
                  obtain ⟨g11, hgn⟩ : ∃ X, wr.heap.size = X := ⟨_, rfl⟩
                  have hlb : l < g11 := by rw [← hgn]; exact HLW.out
                  have hgb : L ≤ g11 ∧ gl < g11 := by rw [← hgn]; exact ⟨HY.out.lw, HY.out.gw⟩
                  rw [hn] at hbx bq ⊢
                  rw [hgn] at hbx
                  rw [hgn]
                  have HB11 := Lib.hid hbx
                  have HLHB11 := Lib.hid hlb
                  have HGHB11 := Lib.hid hgb
                  replace HLP := Lib.hid (HLP.out.bel bq HY.out.gw)
                  replace HP5 := Lib.hid (HP5.out.bel bq HY.out.gw)
                  replace HJJ := Lib.hid (HJ.out _ _ _ none HJJ.out (below_grown bq) (fun _ e => by cases e))
                  replace HLW := Lib.hid (Nat.lt_of_lt_of_le HLW.out bq.size)
                  replace HY := Lib.hid (HY.out.bel bq)
                  clear bq hbx hlb hgb hn hgn
                  by_cases hzb : a < zb
                  · have HYD := Lib.hid (show true = decide (a < zb) from (decide_eq_true hzb).symm)
                    have HNZ := Lib.hid (show Yng a (za, zb, zi, zt, zs) from (yng_iff a _).2 hzb)
                    clear hzb
                    refine ⟨trivial, ?_⟩
                    have his := seIs_any (za, zb, zi, zt, zs) a (g + 2) w11 (HY.out.kp.bA.cell 0) true (by exact HYD.out)
                    refine (callsIn_wide.2 his).mono ?_
                    rintro e w12 ⟨rfl, bq⟩
                    clear his
                    replace HLP := Lib.hid (HLP.out.bel bq HY.out.gw)
                    replace HP5 := Lib.hid (HP5.out.bel bq HY.out.gw)
                    replace HB11 := Lib.hid (HB11.out.bel bq HY.out.gw)
                    replace HJJ := Lib.hid (HJ.out _ _ _ none HJJ.out (below_grown bq) (fun _ e => by cases e))
                    replace HLW := Lib.hid (Nat.lt_of_lt_of_le HLW.out bq.size)
                    replace HY := Lib.hid (HY.out.bel bq)
                    clear bq HYD
                    have q0 := bx0 HB11.out.bx
                    have q1 := bx1 HB11.out.bx
                    have q2 := bx2 HB11.out.bx
                    have q3 := bx3 HB11.out.bx
                    have q4 := bx4 HB11.out.bx
                    obtain ⟨fn, tmps, assign, body, hy, hR⟩ := HYL.out (((pa, pb, pi, pt, ps) :: (LL.take j).flatMap (chunkS S a)) ++ ((ya, yb, yi, yt, ys) :: dataY a (L5.take k))) (za, zb, zi, zt, zs) w12 HJJ.out HZW.out (by have h1 := HPL.out; have h2 := dataY_len a k L5; have h3 := HK15.out; rw [List.length_append, List.length_cons, List.length_cons]; omega)
                    simp only [ptV] at hy
                    gi_wp2
                    refine hR.mono ?_
                    rintro e w13 ⟨rfl, hj, hrd⟩
                    clear hR hy
                    replace HLP := Lib.hid (HLP.out.rd hrd HLHLP.out)
                    replace HP5 := Lib.hid (HP5.out.rd hrd HLHP5.out)
                    replace HY := Lib.hid (HY.out.rd hrd HL.out HD.out (fun q h => HJR.out _ _ q hj h))
                    replace HLW := Lib.hid (Nat.lt_of_lt_of_le HLW.out hrd.kp.size)
                    replace HJJ := Lib.hid hj
                    clear hrd hj
                    clear q0 q1 q2 q3 q4
                    gi_wp2
                    go_roundw
                    case rel =>
                      have hk15 := HK15.out
                      refine ⟨k + 1, by omega, by go_num, ?_, HY.out, HLP.out, HP5.out, HLW.out⟩
                      have e := HDT.out
                      rw [if_pos HNZ.out] at e
                      rw [e]
                      have h := HJJ.out
                      simpa using h
                    case measure =>
                      have hk15 := HK15.out
                      simp [intOf]
                      omega
                  · have HYD := Lib.hid (show false = decide (a < zb) from (decide_eq_false hzb).symm)
                    have HNZ := Lib.hid (show ¬ Yng a (za, zb, zi, zt, zs) from fun h => hzb ((yng_iff a _).1 h))
                    clear hzb
                    refine ⟨trivial, ?_⟩
                    have his := seIs_any (za, zb, zi, zt, zs) a (g + 2) w11 (HY.out.kp.bA.cell 0) false (by exact HYD.out)
                    refine (callsIn_wide.2 his).mono ?_
                    rintro e w12 ⟨rfl, bq⟩
                    clear his
                    replace HLP := Lib.hid (HLP.out.bel bq HY.out.gw)
                    replace HP5 := Lib.hid (HP5.out.bel bq HY.out.gw)
                    replace HJJ := Lib.hid (HJ.out _ _ _ none HJJ.out (below_grown bq) (fun _ e => by cases e))
                    replace HLW := Lib.hid (Nat.lt_of_lt_of_le HLW.out bq.size)
                    replace HY := Lib.hid (HY.out.bel bq)
                    clear bq HYD
                    gi_wp2
                    refine ⟨fun _ h => (by cases h), ?_⟩
                    gi_wp2
                    go_roundw
                    case rel =>
                      have hk15 := HK15.out
                      refine ⟨k + 1, by omega, by go_num, ?_, HY.out, HLP.out, HP5.out, HLW.out⟩
                      have e := HDT.out
                      rw [if_neg HNZ.out] at e
                      rw [e]
                      have h := HJJ.out
                      simpa using h
                    case measure =>
                      have hk15 := HK15.out
                      simp [intOf]
                      omega
                · have hkn : k = n5 := by omega
                  subst hkn
                  have HDE := Lib.hid (show dataY a (L5.take k) = dataY a L5 by rw [List.take_of_length_le (by rw [HN5.out]; exact Nat.le_refl _)])
                  clear hkt hk
                  gi_wp2
                  go_roundw
                  case rel =>
                    refine ⟨j + 1, by omega, by go_num, fun t ht => ?_, ?_, HY.out, HLP.out, HLW.out⟩
                    · by_cases e : t = j
                      · subst e
                        rw [HPE.out]
                        unfold errS
                        rw [if_pos HYQ.out, HOE.out]
                      · exact HE.out t (by omega)
                    · have hc : chunkS S a (ya, yb, yi, yt, ys) = (ya, yb, yi, yt, ys) :: dataY a L5 := by unfold chunkS; rw [if_pos HYQ.out, HOE.out]
                      rw [HFL.out, hc]
                      have h := HJJ.out
                      rw [HDE.out] at h
                      exact h
                  case measure => simp [intOf]; omega
          · have HYD := Lib.hid (show false = decide (a < yb) from (decide_eq_false hyb).symm)
            have HNY := Lib.hid (show ¬ Yng a (ya, yb, yi, yt, ys) from fun h => hyb ((yng_iff a _).1 h))
            clear hyb
            refine ⟨trivial, ?_⟩
            have his := seIs_any (ya, yb, yi, yt, ys) a (g + 2) w5 (HY.out.kp.bA.cell 0) false (by exact HYD.out)
            refine (callsIn_wide.2 his).mono ?_
            rintro e w6 ⟨rfl, bq⟩
            clear his
            replace HLP := Lib.hid (HLP.out.bel bq HY.out.gw)
            replace HJJ := Lib.hid (HJ.out _ _ _ none HJJ.out (below_grown bq) (fun _ e => by cases e))
            replace HLW := Lib.hid (Nat.lt_of_lt_of_le HLW.out bq.size)
            replace HY := Lib.hid (HY.out.bel bq)
            clear bq HYD
            gi_wp2
            go_roundw
            case rel =>
              refine ⟨j + 1, by omega, by go_num, fun t ht => ?_, ?_, HY.out, HLP.out, HLW.out⟩
              · by_cases e : t = j
                · subst e
                  rw [HPE.out]
                  unfold errS
                  rw [if_neg HNY.out]
                · exact HE.out t (by omega)
              · have hc : chunkS S a (ya, yb, yi, yt, ys) = [] := by unfold chunkS; rw [if_neg HNY.out]
                rw [HFL.out, hc, List.append_nil]
                exact HJJ.out
            case measure => simp [intOf]; omega
        · have hj16 : j = 16 := by omega
          subst hj16
          have HO := Lib.hid (show youngSO S (pa, pb, pi, pt, ps) a = ((pa, pb, pi, pt, ps) :: LL.flatMap (chunkS S a), 0) from youngSO_row HYP.out HER.out fun q hq hy => by
            obtain ⟨i, hi, rfl⟩ := List.getElem_of_mem hq
            have h := HE.out i (by have := HL16.out; omega)
            rw [List.getD_eq_getElem?_getD, List.getElem?_eq_getElem hi] at h
            unfold errS at h
            rw [if_pos (show Yng a ((some LL[i]).getD p0) from hy)] at h
            exact h)
          have HT := Lib.hid (show LL.take 16 = LL from List.take_of_length_le (by rw [HL16.out]; exact Nat.le_refl _))
          clear hlt hj
          gi_wp2
          go_end0
          have h := HJJ.out
          rw [HT.out] at h
          exact ⟨⟨_, rfl⟩, _, ⟨0, HY.out.er, .inl ⟨rfl, HO.out⟩⟩, h⟩
  · have HYD := Lib.hid (show false = decide (a < pb) from (decide_eq_false hy).symm)
    have HO := Lib.hid (show youngSO S (pa, pb, pi, pt, ps) a = ([], 0) by unfold youngSO; rw [if_pos (fun h => hy ((yng_iff a _).1 h))])
    clear hy
    have y0_ : W.cell? ⟨g + 4, 0, none⟩ = some (.func (.func 51) #[] #[.pointer (some ⟨g + 2, 0, none⟩)]) := HY.out.kp.bY.cell 0
    have r0_ := bx0 HY.out.kp.bR
    have r1_ := bx1 HY.out.kp.bR
    have r2_ := bx2 HY.out.kp.bR
    have r3_ := bx3 HY.out.kp.bR
    have r4_ := bx4 HY.out.kp.bR
    refine callsIn_of_wp Tryz.func52 rfl trivial ?_ rfl
    simp only [Tryz.ntmps52, List.size_toArray, List.length_cons, List.length_nil, Nat.reduceAdd, Nat.reduceSub, Array.replicate_succ, Array.replicate_zero, List.push_toArray, List.append_toArray, List.nil_append, List.cons_append]
    gi_wp2
    clear y0_ r0_ r1_ r2_ r3_ r4_
    refine ⟨trivial, ?_⟩
    have his := seIs_any (pa, pb, pi, pt, ps) a (g + 2) W (HY.out.kp.bA.cell 0) false (by exact HYD.out)
    refine (callsIn_wide.2 his).mono ?_
    rintro e w1 ⟨rfl, bq⟩
    clear his
    replace HJJ := Lib.hid (HJ.out _ _ _ none HJJ.out (below_grown bq) (fun _ e => by cases e))
    replace HLW := Lib.hid (Nat.lt_of_lt_of_le HLW.out bq.size)
    replace HY := Lib.hid (HY.out.bel bq)
    clear bq HYD
    gi_wp2
    refine ⟨fun _ h => (by cases h), ?_⟩
    gi_wp2
    refine bodyPost_ret (results_none rfl _ _ _) rfl ?_
    exact ⟨⟨_, rfl⟩, [], ⟨0, HY.out.er, .inl ⟨rfl, HO.out⟩⟩, HJJ.out⟩
end Go.Proofs.YtbggkfomfeeikaaGreatDoor
/-
  Set's own Walk: what it answers, in new memory; nothing that was there is written.
-/
namespace Go.Proofs.YtbggkfomfeeikaaGreatDoor
open Go.RowKit Go.Shelf
set_option maxRecDepth 100000
attribute [local go_sem] Oper.semAt_some

/-- append of pointers in the round of a loop over a function: where the new row lies. -/
theorem wpListIn_append_plie {F : Fence} {nF : Nat} {w : World} {o : Oper} {a : Act} {Q : Exit → Act → World → Prop} {ops : Array Oper} {rest : List Oper} (hgd : o.guard = none) (x y : Operand) (ho : o.op = .call { callee := .builtin .append, args := #[x, y], argTypes := #[35, 35] })
    (base : Nat) (v : Value) (L : List Pt) (hx : a.eval x = v) (hr : PRow w base v L) (B : Nat) (A : Option Addr) (m c : Nat) (M : List Pt) (hy : a.eval y = .slice A m c) (hs : Pts w B A m c M) (hm0 : 0 < m)
    (hn : L.length + m ≤ 1000000) (hbase : base ≤ w.heap.size)
    (h : ∀ g cap w', PRow w' base (.slice (some ⟨g, 0, none⟩) (L.length + m) cap) (L ++ M) → w.grownBy w' v.ownBlock → (v.ownBlock = some g ∨ g = w.heap.size) → g < w'.heap.size → wpListIn F nF Tryz.prog ops Q rest (a.put o.dst (.slice (some ⟨g, 0, none⟩) (L.length + m) cap)) w') : wpListIn F nF Tryz.prog ops Q (o :: rest) a w := by
  refine wpListIn_plain hgd fun K hK => ?_
  obtain ⟨i0, hi0, hz0, hz1, hz2⟩ := info_parts infoPt
  obtain ⟨h1, h2⟩ := hr
  have hwf : ∀ p ∈ L ++ M, WfP p := fun p hp => by
    rcases List.mem_append.1 hp with hp | hp
    · exact h2 p hp
    · exact hs.wf hp
  have hml := hs.1
  obtain ⟨b, off, rfl, _, _⟩ := hs.2.2.2.2 hm0
  obtain ⟨g, cap, w', hrun, h6, h7, h8, h9⟩ := run_append_lies (P := Tryz.prog) w 35 o.type base 32 i0 (.agg #[.int .i64 0, .int .u32 0, .int .u32 0, .int .u32 0, .int .u32 0]) 5 24 Tryz.underlying35 hi0 hz0 hz1 hz2 rfl (by decide) v L.length (ptCs L) h1 ⟨b, off, none⟩ m c (ptCs M) (by rw [ptCs_length, hml]) (fun j u hu => by
    have e1 : (⟨b, off, none⟩ : Addr).add j = ⟨b, off + j, none⟩ := by unfold Addr.add; split <;> simp_all
    rw [e1]
    exact hs.row j u hu) (fun u hu => ptCs_mem hu) hm0 (by unfold maxLen; omega) (by omega) hbase _ rfl
  unfold Oper.wpIn
  refine ⟨by simp [Oper.about, ho, resolve, Target.leads, Sem.run_pure], ?_⟩
  rw [Oper.semAt_plain F _ _ (by rw [ho]; intro c hc'; cases hc')]
  simp [execOp, ho, resolve, invoke, builtin, hx, hy, hrun, Result.andThen]
  refine hK _ _ (h g cap w' ⟨?_, hwf⟩ h7 h8 h9)
  rw [List.length_append, hml, ptCs_append]
  exact h6
/-- What the loop of Walk keeps. -/
def WkI (D0 gl B : Nat) (w : World) (pre : List Pt) (W : World) : Prop := ∃ v, Blk W gl 35 #[v] ∧ PRow W B v pre ∧ Below D0 w W
theorem WkI.row {D0 gl B : Nat} {w W : World} {pre : List Pt} (h : WkI D0 gl B w pre W) : ∀ r, rowAt gl W = some r → B ≤ r ∧ r < W.heap.size := fun r hr => by
  obtain ⟨v, h1, h2, _⟩ := h
  rw [rowAt_of (h1.cell 0)] at hr
  exact h2.1.lt r hr
theorem WkI.grown {D0 gl B : Nat} {w A A' : World} {pre : List Pt} {row : Option Nat} (h : WkI D0 gl B w pre A) (hD : D0 ≤ A.heap.size) (hg : A.grownBy A' row) (hr : ∀ k, row = some k → Fr D0 gl k A) : WkI D0 gl B w pre A' := by
  obtain ⟨v, h1, h2, h3⟩ := h
  refine ⟨v, h1.grown hg fun e => (hr gl e.symm).ne rfl, ⟨?_, h2.2⟩, h3.trans ⟨hg.os, hg.tape, hg.output, hg.size, fun b hb => hg.block b (by omega) fun e => by have := (hr b e.symm).lo; omega⟩⟩
  cases row with
  | none => exact h2.1.kept hg (by cases v.ownBlock with | none => exact .inl rfl | some k => exact .inr (by simp))
  | some k =>
    refine own_other h2.1 hg fun q hq e => ?_
    subst e
    exact (hr q rfl).row (by rw [rowAt_of (h1.cell 0)]; exact hq.symm)
/-- A round of Walk's loop: one pointer more. -/
theorem wk_round {L D0 gl B gg : Nat} {w W W2 W3 : World} {pre : List Pt} {x : Pt} {v : Value} {c : Nat} (hb : Blk W gl 35 #[v]) (hr : PRow W B v pre) (hbe : Below D0 w W) (hL : L ≤ gl) (hD : D0 ≤ gl) (hglB : gl < B) (hBW : B ≤ W.heap.size)
    (b2 : Below W.heap.size W W2) (hr3 : PRow W3 B (.slice (some ⟨gg, 0, none⟩) (pre.length + 1) c) (pre ++ [x])) (hg3 : W2.grownBy W3 v.ownBlock) (hat : v.ownBlock = some gg ∨ gg = W2.heap.size) :
    Rd L D0 gl none W (W3.setCell ⟨gl, 0, none⟩ (.slice (some ⟨gg, 0, none⟩) (pre.length + 1) c)) ∧ WkI D0 gl B w (pre ++ [x]) (W3.setCell ⟨gl, 0, none⟩ (.slice (some ⟨gg, 0, none⟩) (pre.length + 1) c)) ∧ (∀ k, k < B → k ≠ gl → (W3.setCell ⟨gl, 0, none⟩ (.slice (some ⟨gg, 0, none⟩) (pre.length + 1) c)).heap[k]? = W.heap[k]?) := by
  have hown : ∀ k, v.ownBlock = some k → B ≤ k ∧ k < W.heap.size := fun k hk => hr.1.lt k hk
  have hgg : B ≤ gg := by
    rcases hat with h | h
    · exact (hown gg h).1
    · have := b2.size; omega
  have hbl := hb.lt
  have hb2 := hb.below b2 hb.lt
  have hb3 : Blk W3 gl 35 #[v] := hb2.grown hg3 fun e => by have := (hown gl e.symm).1; omega
  obtain ⟨W4, hW4⟩ : ∃ X, W3.setCell ⟨gl, 0, none⟩ (.slice (some ⟨gg, 0, none⟩) (pre.length + 1) c) = X := ⟨_, rfl⟩
  have hg4 : W3.grownBy W4 (some gl) := by rw [← hW4]; exact grown_set1 W3 gl _
  have hb4 : Blk W4 gl 35 #[.slice (some ⟨gg, 0, none⟩) (pre.length + 1) c] := by rw [← hW4]; exact hb3.set_ 0 _
  rw [hW4]
  have hr2 := own_below hr.1 b2
  have hk3 : Keeps L W2 W3 := by
    obtain ⟨_, ⟨e, _⟩ | ⟨g', cap', cur, e, q1, q2, _⟩⟩ := hr2
    · rw [e] at hg3
      exact Keeps.of_below ⟨hg3.os, hg3.tape, hg3.output, hg3.size, fun k hk => hg3.block k hk (by simp [Value.ownBlock])⟩
    · rw [e] at hg3
      exact Keeps.of_box (g := g') hg3 q2 (by decide) (by omega)
  have hn3 : ∀ k, some k ≠ v.ownBlock → k ≠ gl → k < W.heap.size → W4.heap[k]? = W.heap[k]? := fun k h1 h2 h3 => by
    have h4 : k < W2.heap.size := Nat.lt_of_lt_of_le h3 b2.size
    have h5 : k < W3.heap.size := Nat.lt_of_lt_of_le h4 hg3.size
    exact (hg4.block k h5 (fun e => h2 (Option.some.inj e))).trans ((hg3.block k h4 h1).trans (b2.block k h3))
  have hD4 : Below D0 W W4 := ⟨hg4.os.trans (hg3.os.trans b2.os), hg4.tape.trans (hg3.tape.trans b2.tape), hg4.output.trans (hg3.output.trans b2.output), Nat.le_trans b2.size (Nat.le_trans hg3.size hg4.size), fun k hk => hn3 k (fun e => by have := (hown k e.symm).1; omega) (by omega) (by omega)⟩
  refine ⟨⟨(Keeps.of_below b2).trans (hk3.trans (Keeps.of_box hg4 hb3 (by decide) hL)), hD4, fun k hk _ => ?_⟩, ⟨_, hb4, ⟨own_other hr3.1 hg4 fun q hq => ?_, hr3.2⟩, hbe.trans hD4⟩, fun k h1 h2 => hn3 k (fun e => by have := (hown k e.symm).1; omega) h2 (by omega)⟩
  · have hne : some k ≠ v.ownBlock := by
      have := hk.row
      rwa [rowAt_of (hb.cell 0)] at this
    refine ⟨hn3 k hne hk.ne hk.lt, hk.lo, Nat.lt_of_lt_of_le hk.lt (Nat.le_trans b2.size (Nat.le_trans hg3.size hg4.size)), hk.ne, ?_⟩
    rw [rowAt_of (hb4.cell 0)]
    intro e
    have e2 : gg = k := by simpa [Value.ownBlock] using e.symm
    subst e2
    rcases hat with h | h
    · exact hne h.symm
    · have := hk.lt
      have := b2.size
      omega
  · have e2 : gg = q := by simpa [Value.ownBlock] using hq
    omega
theorem prow_put {B D : Nat} {W : World} {v : Value} {M : List Pt} {ds : Option (List Deferred)} (h : PRow W B v M) (hD : W.heap[D]? = some (.deferred ds)) (o : Obj) : PRow (W.putObj D o) B v M := by
  refine ⟨own_other h.1 (grownBy_putObj' W D o) fun k hk e => ?_, h.2⟩
  subst e
  obtain ⟨_, ⟨e, _⟩ | ⟨g', cap', cur, e, q1, q2, _⟩⟩ := h.1
  · rw [e] at hk; cases hk
  · rw [e] at hk
    have e2 : g' = k := by simpa [Value.ownBlock] using hk
    subst e2
    have e3 : some (Obj.cells cur 32 (0, 0)) = some (Obj.deferred ds) := (show W.heap[g']? = _ from q2).symm.trans hD
    cases e3
theorem outLs_end {B D : Nat} {w W : World} {v : Value} {M : List Pt} {ds : Option (List Deferred)} (h : PRow W B v M) (hb : Below w.heap.size w W) (hB : w.heap.size ≤ B) (hD : W.heap[D]? = some (.deferred ds)) (hDg : w.heap.size ≤ D) (o : Obj) : ∃ a c, v = .slice a M.length c ∧ Pts (W.putObj D o) (W.putObj D o).heap.size a M.length c M ∧ HiA w.heap.size a ∧ Below w.heap.size w (W.putObj D o) := by
  have h2 := prow_put h hD o
  obtain ⟨a, c, rfl, ht⟩ := h2.pts
  exact ⟨a, c, rfl, ht, (prow_hi h2).less hB, hb.trans (below_putObj _ hDg)⟩
set_option linter.unusedSimpArgs false in
set_option maxHeartbeats 16000000 in
theorem seWalk_in (m : Nat) (hm : 4 ≤ m) (L : Nat) (x : SAt) (S : StL) (p : Pt) (a : Nat) (w : World) (h : StP L w x S) (hwp : WfP p) (hL : L ≤ w.heap.size) (hz : Szs w) (hms : MayS S) (hmp : MayP p) : CallsIn Fence.wide m Tryz.prog 11 #[stV x S, ptV p, .int .u32 (a : Int)] w (OutLs (youngSO S p a) w) := by
  have hwp2 := hwp
  have HLL := Lib.hid hL
  clear hwp
  obtain ⟨pa, pb, pi, pt, ps⟩ := p
  obtain ⟨w0, hw0, b0, z0, q1, q2⟩ := two_al w (stC x S) (ptA (pa, pb, pi, pt, ps)) 30 32
  obtain ⟨g, hg⟩ : ∃ g, w.heap.size = g := ⟨_, rfl⟩
  obtain ⟨g1, hg1⟩ : ∃ g1, g + 1 = g1 := ⟨_, rfl⟩
  rw [hg] at q1 q2
  rw [hg1] at q2
  have HX := Lib.hid q1
  have HQ := Lib.hid q2
  have HT := Lib.hid (h.bel b0)
  have HB := Lib.hid b0
  have HLW := Lib.hid (show L ≤ w0.heap.size from Nat.le_trans hL b0.size)
  simp only [stC, ptA] at hw0
  clear h b0 z0 q1 q2 hL
  have HZ0 := Lib.hid hz.1
  have HZ := Lib.hid (hz.step HB.out)
  clear hz
  have HMY := Lib.hid (seMay_any L x S (pa, pb, pi, pt, ps) w0 HT.out HLW.out true ⟨fun _ => ⟨hms, hmp⟩, fun _ => rfl⟩)
  have HMS := Lib.hid hms
  have HMP := Lib.hid hmp
  have HWP := Lib.hid hwp2
  clear hms hmp hwp2
  have hd : 1 ≤ m := by omega
  have hd1 : 1 ≤ m - 1 := by omega
  have d0 := bx0 HX.out
  have d1 := bx1 HX.out
  have d2 := bx2 HX.out
  have d3 := bx3 HX.out
  have d4 := bx4 HX.out
  have q0 := bx0 HQ.out
  have q1 := bx1 HQ.out
  have q2 := bx2 HQ.out
  have q3 := bx3 HQ.out
  have q4 := bx4 HQ.out
  refine callsIn_of_wp_marks Tryz.func11 rfl trivial ?_ rfl
  simp only [Tryz.ntmps11, List.size_toArray, List.length_cons, List.length_nil, Nat.reduceAdd, Nat.reduceSub, Array.replicate_succ, Array.replicate_zero, List.push_toArray, List.append_toArray, List.nil_append, List.cons_append]
  gi_wp2
  try rw [hw0]
  try rw [hg]
  try rw [hg1]
  clear hw0 hg hg1
  clear d0 d1 d2 d3 d4
  clear q0 q1 q2 q3 q4
  refine ⟨trivial, ?_⟩
  refine (callsIn_wide.2 HMY.out).mono ?_
  rintro e w1 ⟨rfl, b1⟩
  replace HX := Lib.hid (HX.out.below b1 HX.out.lt)
  replace HQ := Lib.hid (HQ.out.below b1 HQ.out.lt)
  replace HT := Lib.hid (HT.out.bel b1)
  replace HB := Lib.hid (HB.out.trans (b1.mono HB.out.size))
  replace HZ := Lib.hid (HZ.out.step b1)
  replace HLW := Lib.hid (Nat.le_trans HLW.out b1.size)
  clear b1 HMY
  have d0 := bx0 HX.out
  have d1 := bx1 HX.out
  have d2 := bx2 HX.out
  have d3 := bx3 HX.out
  have d4 := bx4 HX.out
  have q0 := bx0 HQ.out
  have q1 := bx1 HQ.out
  have q2 := bx2 HQ.out
  have q3 := bx3 HQ.out
  have q4 := bx4 HQ.out
  gi_wp2
  clear d0 d1 d2 d3 d4
  clear q0 q1 q2 q3 q4
  have hon := seOnes_any x S (pa, pb, pi, pt, ps) a w1
  obtain ⟨W1z, hW1z⟩ : ∃ X, w1.heap.size = X := ⟨_, rfl⟩
  refine ⟨trivial, ?_⟩
  refine (callsIn_wide.2 hon).mono ?_
  rintro e w2 ⟨gy, hgy, rfl, hkp, her, b2, hz2⟩
  clear hon
  have HGY := Lib.hid (show w.heap.size ≤ gy by rw [← hgy]; exact HB.out.size)
  replace HT := Lib.hid (HT.out.bel b2)
  replace HB := Lib.hid (HB.out.trans (b2.mono HB.out.size))
  replace HZ := Lib.hid (HZ.out.step b2)
  replace HLW := Lib.hid (Nat.le_trans HLW.out b2.size)
  have HK := Lib.hid hkp
  have HE := Lib.hid her
  have HZ2 := Lib.hid hz2
  clear b2 HX HQ hkp her hz2 hgy hW1z
  gi_wp2
  have hb3 := below_al w2 (.cells #[.slice none 0 0] 35)
  have hx3 := Blk.new w2 35 #[.slice none 0 0]
  have hz3 : (w2.alloc (.cells #[.slice none 0 0] 35)).heap.size = w2.heap.size + 1 := by simp
  obtain ⟨w3, hn3⟩ : ∃ X, w2.alloc (.cells #[.slice none 0 0] 35) = X := ⟨_, rfl⟩
  rw [hn3] at hb3 hx3 hz3 ⊢
  obtain ⟨gl, hgl⟩ : ∃ X, w2.heap.size = X := ⟨_, rfl⟩
  have hgl2 : gl = gy + 5 := by rw [← hgl]; exact HZ2.out
  have hglw : w2.heap.size ≤ gl := by omega
  rw [hgl] at hx3 hz3
  rw [hgl]
  have hr3 : rowAt gl w3 = none := rowAt_of (hx3.cell 0)
  have hk3 : Kept gy a x S (pa, pb, pi, pt, ps) w3 := HK.out.blocks fun i hi _ => hb3.block _ (by omega)
  have he3 : Blk w3 (gy + 3) 36 #[.int .i64 ((0 : Nat) : Int)] := HE.out.below hb3 HE.out.lt
  have hgyw := HGY.out
  have hw0 : 0 < w.heap.size := HZ0.out
  have hyw : YgW L w.heap.size gl gy a x S (pa, pb, pi, pt, ps) 0 w3 := ⟨HT.out.bel hb3, hk3, he3, fun i hi => ⟨by omega, by omega, by omega, by rw [hr3]; simp⟩, Nat.le_trans HLW.out hb3.size, HZ.out.step hb3, by omega, by omega, fun r hr => by rw [hr3] at hr; cases hr⟩
  have hbw : Below w.heap.size w w3 := HB.out.trans (hb3.mono HB.out.size)
  have hLw : L ≤ w.heap.size := HLL.out
  have hi0 : WkI w.heap.size gl (w3.heap.size + 2) w [] w3 := ⟨_, hx3, ⟨World.ownsRow_nil _ _ _ _, fun _ h => (by cases h)⟩, hbw⟩
  have HY3 := Lib.hid hyw
  have HGL := Lib.hid (show L ≤ w.heap.size ∧ w.heap.size ≤ gy ∧ gl = gy + 5 ∧ w3.heap.size = gl + 1 from ⟨hLw, hgyw, hgl2, hz3⟩)
  clear hb3 hx3 hz3 hn3 hgl hgl2 hglw hr3 hk3 he3 hyw hbw HT HZ HB HLW HK HE HZ2 HGY
  have hsz := HGL.out.2.2.2
  have hg5 := HGL.out.2.2.1
  have hgy2 := HGL.out.2.1
  refine range_priv (gf := 52) (lb := #[.pointer (some ⟨gy + 4, 0, none⟩), .pointer (some ⟨gy + 1, 0, none⟩), .pointer (some ⟨gy, 0, none⟩), .pointer (some ⟨gy + 3, 0, none⟩)]) rfl (enters_of Tryz.func52 (by kernel_rfl) rfl) (fun p : Pt => #[ptV p]) (fun _ => rfl) WfP L w.heap.size gl 1000 (by omega) (by omega) (by omega)
    (WkI w.heap.size gl (w3.heap.size + 2) w) (fun pre A A' row h hg hr => h.grown (by obtain ⟨_, _, _, hb⟩ := h; exact hb.size) hg hr) (fun pre A k h hk e => by have := (h.row _ e.symm).1; omega) (fun pre A r h hr => (h.row r hr).2)
    (YgS S (pa, pb, pi, pt, ps) a gy) (fun xs A A' h hg => by obtain ⟨c, h1, h2⟩ := h; exact ⟨c, h1.grown hg (fun e => by injection e; omega), h2⟩) hi0
    (fun J W hb hsw hJ hJr hY h0 => seGo_in (m - 1) (by omega) L w.heap.size gl gy a x S (pa, pb, pi, pt, ps) (w3.heap.size + 1) HMS.out HMP.out HWP.out (by omega) (by omega) hw0 hgy2 (by omega) J W (by omega) (fun pre A A' row h1 h2 h3 => hJ pre A A' row h1 h2 (fun k e => ⟨(h3 k e).1, by have := (h3 k e).2.1; omega, (h3 k e).2.2⟩)) hJr hY h0 (HY3.out.bel (hb.mono (Nat.le_refl _))))
    (fun y b W => ∃ Bx, Blk W Bx 32 (ptA y) ∧ b = { tmps := #[stV x S, ptV (pa, pb, pi, pt, ps), .int .u32 (a : Int), .pointer (some ⟨g, 0, none⟩), .pointer (some ⟨g1, 0, none⟩), undef, .slice none 0 0, .int .i64 0, .func (.func 52) #[] #[.pointer (some ⟨gy + 4, 0, none⟩), .pointer (some ⟨gy + 1, 0, none⟩), .pointer (some ⟨gy, 0, none⟩), .pointer (some ⟨gy + 3, 0, none⟩)], .func (.func 53) #[] #[.pointer (some ⟨gy + 3, 0, none⟩)], .pointer (some ⟨gl, 0, none⟩), .pointer (some ⟨Bx, 0, none⟩), undef, .agg #[.slice x.d.ba S.1.1.length x.d.bc, .slice x.d.wa S.1.2.length x.d.wc, .slice x.a S.2.1.length x.c, .int .u32 (S.2.2.1 : Int), .int .u32 (S.2.2.2 : Int)], .agg #[.int .i64 pa, .int .u32 (pb : Int), .int .u32 (pi : Int), .int .u32 (pt : Int), .int .u32 (ps : Int)], .bool true, .bool false, .tuple #[.func (.func 52) #[] #[.pointer (some ⟨gy + 4, 0, none⟩), .pointer (some ⟨gy + 1, 0, none⟩), .pointer (some ⟨gy, 0, none⟩), .pointer (some ⟨gy + 3, 0, none⟩)], .func (.func 53) #[] #[.pointer (some ⟨gy + 3, 0, none⟩)]], .agg #[.slice x.d.ba S.1.1.length x.d.bc, .slice x.d.wa S.1.2.length x.d.wc, .slice x.a S.2.1.length x.c, .int .u32 (S.2.2.1 : Int), .int .u32 (S.2.2.2 : Int)], .agg #[.int .i64 pa, .int .u32 (pb : Int), .int .u32 (pi : Int), .int .u32 (pt : Int), .int .u32 (ps : Int)], .int .u32 (a : Int), .tuple #[.func (.func 52) #[] #[.pointer (some ⟨gy + 4, 0, none⟩), .pointer (some ⟨gy + 1, 0, none⟩), .pointer (some ⟨gy, 0, none⟩), .pointer (some ⟨gy + 3, 0, none⟩)], .func (.func 53) #[] #[.pointer (some ⟨gy + 3, 0, none⟩)]], .func (.func 52) #[] #[.pointer (some ⟨gy + 4, 0, none⟩), .pointer (some ⟨gy + 1, 0, none⟩), .pointer (some ⟨gy, 0, none⟩), .pointer (some ⟨gy + 3, 0, none⟩)], .func (.func 53) #[] #[.pointer (some ⟨gy + 3, 0, none⟩)], .func (.func 52) #[] #[.pointer (some ⟨gy + 4, 0, none⟩), .pointer (some ⟨gy + 1, 0, none⟩), .pointer (some ⟨gy, 0, none⟩), .pointer (some ⟨gy + 3, 0, none⟩)], ptV y, undef, undef, undef, undef, undef, undef, undef, undef, undef, undef], defers := [] })
    (fun y b A l r o' h hl => by
      obtain ⟨Bx, h1, h2⟩ := h
      refine ⟨Bx, h1.grown (grownBy_putObj' A l o') (fun e => ?_), h2⟩
      obtain rfl : Bx = l := Option.some.inj e
      have e3 : some (Obj.cells (ptA y) 32 (0, 0)) = some (Obj.loop r) := (show A.heap[Bx]? = _ from h1).symm.trans hl
      cases e3) ?assign ?body ?done
  case assign =>
    clear hsz hg5 hgy2
    intro l pre y W K _ _ hK
    obtain ⟨ya, yb, yi, yt, ys⟩ := y
    simp only [ptV]
    gi_wp2
    exact hK _ _ ⟨W.heap.size, Blk.new W _ _, rfl⟩ (below_al W _)
  case body =>
    clear hsz hg5 hgy2
    rintro l pre y b W ⟨v, hb, hr, hbe⟩ hwy ⟨Bx, hbx, rfl⟩ hlen hsW
    obtain ⟨ya, yb, yi, yt, ys⟩ := y
    have q0_ := bx0 hbx
    have q1_ := bx1 hbx
    have q2_ := bx2 hbx
    have q3_ := bx3 hbx
    have q4_ := bx4 hbx
    have c0_ : W.cell? ⟨gl, 0, none⟩ = some v := hb.cell 0
    have h1p := one_pts W (ya, yb, yi, yt, ys) hwy
    have hba := below_al W (.cells (ptC (ya, yb, yi, yt, ys)).toArray 32)
    have hra : PRow (W.alloc (.cells (ptC (ya, yb, yi, yt, ys)).toArray 32)) (w3.heap.size + 2) v pre := hr.below hba
    have hca : Blk (W.alloc (.cells (ptC (ya, yb, yi, yt, ys)).toArray 32)) gl 35 #[v] := hb.alloc _
    obtain ⟨W2, hW2⟩ : ∃ X, W.alloc (.cells (ptC (ya, yb, yi, yt, ys)).toArray 32) = X := ⟨_, rfl⟩
    rw [hW2] at h1p hba hra hca
    have HB := Lib.hid hb
    have HR := Lib.hid hr
    have HBE := Lib.hid hbe
    have H1P := Lib.hid h1p
    have HBA := Lib.hid hba
    have HRA := Lib.hid hra
    have HCA := Lib.hid hca
    have HW2 := Lib.hid hW2
    clear hb hr hbe h1p hba hra hca hW2 hbx
    gi_wp2_with (with_reducible refine atAppendIn ?_
                 have hW2 := HW2.out
                 simp only [ptC] at hW2
                 rw [hW2]
                 clear hW2
                 refine wpListIn_append_plie (w := W2) rfl (.tmp 26) (.tmp 28) rfl (w3.heap.size + 2) v pre rfl HRA.out W2.heap.size _ 1 1 [(ya, yb, yi, yt, ys)] rfl H1P.out (by decide) (by omega) (by have := HBA.out.size; omega) ?_
                 intro gg cg W3 hp' hg' hd' hl'
                 have y3 : Blk W3 gl 35 #[v] := HCA.out.grown hg' (fun e => by have := (HRA.out.1.lt gl e.symm).1; have := HGL.out; omega)
                 have c4_ : W3.cell? ⟨gl, 0, none⟩ = some v := y3.cell 0
                 have f4_ : W3.frozen? ⟨gl, 0, none⟩ = false := y3.frozen 0
                 have HP3 := Lib.hid hp'
                 have HG3 := Lib.hid hg'
                 have HD3 := Lib.hid hd'
                 clear hp' hg' hd' hl' y3)
    obtain ⟨r1, r2, r3⟩ := wk_round (L := L) (D0 := w.heap.size) (w := w) HB.out HR.out HBE.out (by have := HGL.out; omega) (by have := HGL.out; omega) (by have := HGL.out; omega) hsW HBA.out HP3.out HG3.out HD3.out
    exact ⟨r3 _ (by omega) (by have := HGL.out; omega), r3 _ (by omega) (by have := HGL.out; omega), r1, r2⟩
  case done =>
    clear hsz hg5 hgy2
    rintro D xs W hD ⟨c, her, hcs⟩ ⟨v, hbl, hpr, hbe⟩ hKD
    have c0_ : W.cell? ⟨gl, 0, none⟩ = some v := hbl.cell 0
    have e0_ : W.cell? ⟨gy + 3, 0, none⟩ = some (.int .i64 (c : Int)) := her.cell 0
    have hen := seEnded_any (c : Int) (gy + 3) W e0_
    have HEN := Lib.hid hen
    have HPR := Lib.hid hpr
    have HBE := Lib.hid hbe
    have HKD := Lib.hid hKD
    have HDD := Lib.hid hD
    have HCS := Lib.hid hcs
    clear her hbl hpr hbe hKD hen hcs e0_ hD
    by_cases hc : c = 0
    · subst hc
      have HO := Lib.hid (show youngSO S (pa, pb, pi, pt, ps) a = (xs, 0) by
        rcases HCS.out with ⟨_, h⟩ | ⟨h, _⟩
        · exact h
        · exact absurd rfl h)
      have e1_ : (((0 : Nat) : Int) != 0) = false := rfl
      gi_wp2
      refine ⟨trivial, ?_⟩
      refine (callsIn_wide.2 HEN.out).mono ?_
      rintro e W' ⟨rfl, rfl⟩
      gi_wp2
      refine ⟨by simp, .inl ⟨_, _, rfl, run_takeDeferred HKD.out, ?_⟩⟩
      obtain ⟨a3, c3, rfl, h3, h4, h5⟩ := outLs_end HPR.out HBE.out (by have := HGL.out; omega) HKD.out (by have := HDD.out; have := HGL.out; omega) (.deferred none)
      refine ⟨.tuple #[.slice a3 xs.length c3, .int .i64 0], by simp [results, Tryz.f11, go_sem], ?_⟩
      rw [HO.out]
      exact ⟨a3, c3, rfl, h3, h4, h5⟩
    · have HO := Lib.hid (show youngSO S (pa, pb, pi, pt, ps) a = ([], c) by
        rcases HCS.out with ⟨h, _⟩ | ⟨_, h⟩
        · exact absurd h hc
        · exact h)
      have e1_ : ((c : Int) != 0) = true := by simp; omega
      gi_wp2
      refine ⟨trivial, ?_⟩
      refine (callsIn_wide.2 HEN.out).mono ?_
      rintro e W' ⟨rfl, rfl⟩
      gi_wp2
      refine ⟨by simp, .inl ⟨_, _, rfl, run_takeDeferred HKD.out, ?_⟩⟩
      refine ⟨.tuple #[.slice none 0 0, .int .i64 (c : Int)], by simp [results, Tryz.f11, go_sem], ?_⟩
      rw [HO.out]
      exact outLs_no c (HBE.out.trans (below_putObj _ (by have := HDD.out; have := HGL.out; omega)))
theorem setWalk_no (L : Nat) (x : SAt) (S : StL) (p : Pt) (a : Nat) (w : World) (h : StP L w x S) (hL : L ≤ w.heap.size) (hm : ¬ (MayS S ∧ MayP p)) : Calls Tryz.prog 11 #[stV x S, ptV p, .int .u32 (a : Int)] w (OutLs ([], 8) w) := by
  obtain ⟨pa, pb, pi, pt, ps⟩ := p
  obtain ⟨w0, hw0, b0, z0, q1, q2⟩ := two_al w (stC x S) (ptA (pa, pb, pi, pt, ps)) 30 32
  obtain ⟨g, hg⟩ : ∃ g, w.heap.size = g := ⟨_, rfl⟩
  obtain ⟨g1, hg1⟩ : ∃ g1, g + 1 = g1 := ⟨_, rfl⟩
  rw [hg] at q1 q2
  rw [hg1] at q2
  have HX := Lib.hid q1
  have HQ := Lib.hid q2
  have HT := Lib.hid (h.bel b0)
  have HB := Lib.hid b0
  have HLW := Lib.hid (show L ≤ w0.heap.size from Nat.le_trans hL b0.size)
  simp only [stC, ptA] at hw0
  clear h b0 z0 q1 q2 hL
  have HMY := Lib.hid (seMay_any L x S (pa, pb, pi, pt, ps) w0 HT.out HLW.out false ⟨fun h => (by cases h), fun h => absurd h hm⟩)
  clear hm
  have d0 := bx0 HX.out
  have d1 := bx1 HX.out
  have d2 := bx2 HX.out
  have d3 := bx3 HX.out
  have d4 := bx4 HX.out
  have q0 := bx0 HQ.out
  have q1 := bx1 HQ.out
  have q2 := bx2 HQ.out
  have q3 := bx3 HQ.out
  have q4 := bx4 HQ.out
  go_enter Tryz.func11, Tryz.ntmps11
  go_wp2_with fail
  try rw [hw0]
  try rw [hg]
  try rw [hg1]
  clear hw0 hg hg1
  clear d0 d1 d2 d3 d4
  clear q0 q1 q2 q3 q4
  refine HMY.out.mono ?_
  rintro e w1 ⟨rfl, b1⟩
  replace HX := Lib.hid (HX.out.below b1 HX.out.lt)
  replace HQ := Lib.hid (HQ.out.below b1 HQ.out.lt)
  replace HT := Lib.hid (HT.out.bel b1)
  replace HB := Lib.hid (HB.out.trans (b1.mono HB.out.size))
  replace HLW := Lib.hid (Nat.le_trans HLW.out b1.size)
  clear b1 HMY
  go_wp2_with fail
  go_ret2
  exact outLs_no 8 HB.out
theorem setWalk_any (L : Nat) (x : SAt) (S : StL) (p : Pt) (a : Nat) (w : World) (h : StP L w x S) (_hwf : WfS S) (hwp : WfP p) (_ha : a < 4294967296) (hL : L ≤ w.heap.size) (hz : Szs w) : Calls Tryz.prog 11 #[stV x S, ptV p, .int .u32 (a : Int)] w (OutLs (walkSO S p a) w) := by
  by_cases hm : MayS S ∧ MayP p
  · rw [walkSO_may hm.1 hm.2]
    exact callsIn_wide.1 (seWalk_in 4 (Nat.le_refl _) L x S p a w h hwp hL hz hm.1 hm.2)
  · rw [walkSO_no hm]
    exact setWalk_no L x S p a w h hL hm
end Go.Proofs.YtbggkfomfeeikaaGreatDoor
/-
  Law 15's alive: the chapter's dataset has the pointers that the document says.
-/
namespace Go.Proofs.YtbggkfomfeeikaaGreatDoor
open Go.RowKit Go.Shelf
set_option maxRecDepth 100000

theorem made_wfS {S : StL} (h : MayS S) : WfS S := ⟨by have := h.2.2.1.2; omega, by have := h.2.2.2; omega⟩
theorem made_wfR (Z : List UInt8) : WfP (madeR Z) := madeP_wf (by omega) (by omega) _
theorem made_mayR (Z : List UInt8) : MayP (madeR Z) := madeP_may (by omega) (by omega) _
theorem made_walk0 {Z : List UInt8} (h : Z.length = 256) : walkSO (madeS Z) (madeR Z) 0 = ([madeR Z, madeT Z, madeP 12 3 Z, madeP 13 5 Z], 0) := by
  rw [walkSO_may (made_may h) (made_mayR Z), made_young Z (by omega)]
  rfl
set_option linter.unusedSimpArgs false in
set_option maxHeartbeats 16000000 in
theorem seAlive_any (w : World) (hz : Szs w) : Calls Tryz.prog 9 #[] w fun e w' => e = .returned (.bool true) ∧ Below w.heap.size w w' := by
  have hmx : Tryz.prog.follows Departure.mixedOrders = true := by kernel_rfl
  have HM := Lib.hid (seMade_any w hz)
  have HZ := Lib.hid hz
  have HZ0 := Lib.hid hz
  have HB := Lib.hid (Below.refl w.heap.size w)
  have HLW := Lib.hid (Nat.zero_le w.heap.size)
  clear hz
  go_enter Tryz.func9, Tryz.ntmps9
  go_wp2_with fail
  refine HM.out.mono ?_
  rintro e w1 ⟨y, Z, hl, rfl, hy, b1⟩
  have HT := Lib.hid hy
  replace HB := Lib.hid (HB.out.trans (b1.mono HB.out.size))
  replace HZ := Lib.hid (HZ.out.step b1)
  replace HLW := Lib.hid (Nat.le_trans HLW.out b1.size)
  have HWF := Lib.hid (made_wfS (made_may hl))
  have HWP := Lib.hid (made_wfR Z)
  have hw := made_walk0 hl
  have hs : (madeP 12 3 Z).2.1 = 3 := rfl
  have hg0 : [madeR Z, madeT Z, madeP 12 3 Z, madeP 13 5 Z].getD 0 p0 = madeR Z := rfl
  have hg2 : [madeR Z, madeT Z, madeP 12 3 Z, madeP 13 5 Z].getD 2 p0 = madeP 12 3 Z := rfl
  have hn : [madeR Z, madeT Z, madeP 12 3 Z, madeP 13 5 Z].length = 4 := rfl
  obtain ⟨LW, hLW⟩ : ∃ X, [madeR Z, madeT Z, madeP 12 3 Z, madeP 13 5 Z] = X := ⟨_, rfl⟩
  rw [hLW] at hw hg0 hg2 hn
  obtain ⟨⟨xa, xb, xi, xt, xs⟩, hx⟩ : ∃ X, madeP 12 3 Z = X := ⟨_, rfl⟩
  rw [hx] at hg2 hs
  obtain ⟨S, hS⟩ : ∃ X, madeS Z = X := ⟨_, rfl⟩
  obtain ⟨⟨pa, pb, pi, pt, ps⟩, hR⟩ : ∃ X, madeR Z = X := ⟨_, rfl⟩
  rw [hS] at HT HWF hw ⊢
  rw [hR] at HWP hw hg0 ⊢
  have hs3 : xb = 3 := hs
  subst hs3
  have HW := Lib.hid hw
  have HG0 := Lib.hid hg0
  have HG2 := Lib.hid hg2
  have HN := Lib.hid hn
  clear hw hg0 hg2 hn hLW hx hS hR hs hy b1 HM hl
  obtain ⟨w2, hw2, b2, _, q1, q2⟩ := two_al w1 stZ ptZ 30 32
  obtain ⟨g, hg⟩ : ∃ g, w1.heap.size = g := ⟨_, rfl⟩
  obtain ⟨g1, hg1⟩ : ∃ g1, g + 1 = g1 := ⟨_, rfl⟩
  have HGHX := Lib.hid (show w.heap.size ≤ g by have := HB.out.size; omega)
  have HGHQ := Lib.hid (show w.heap.size ≤ g1 by have := HB.out.size; omega)
  have HNE := Lib.hid (show g ≠ g1 by omega)
  rw [hg] at q1 q2
  rw [hg1] at q2
  replace HT := Lib.hid (HT.out.bel b2)
  replace HB := Lib.hid (HB.out.trans (b2.mono HB.out.size))
  replace HZ := Lib.hid (HZ.out.step b2)
  replace HLW := Lib.hid (Nat.le_trans HLW.out b2.size)
  have HX := Lib.hid q1
  have HQ := Lib.hid q2
  clear b2 q1 q2
  have m0 := stZ0 HX.out
  have m1 := stZ1 HX.out
  have m2 := stZ2 HX.out
  have m3 := stZ3 HX.out
  have m4 := stZ4 HX.out
  have mf := fun i => HX.out.frozen i
  obtain ⟨xa, ka, ba⟩ := box_five (L := 0) HX.out (by decide) (Nat.zero_le _) HB.out HGHX.out (.slice y.d.ba S.1.1.length y.d.bc) (.slice y.d.wa S.1.2.length y.d.wc) (.slice y.a S.2.1.length y.c) (.int .u32 (S.2.2.1 : Int)) (.int .u32 (S.2.2.2 : Int))
  have yHQ := far5_bl HQ.out HNE.out.symm (.slice y.d.ba S.1.1.length y.d.bc) (.slice y.d.wa S.1.2.length y.d.wc) (.slice y.a S.2.1.length y.c) (.int .u32 (S.2.2.1 : Int)) (.int .u32 (S.2.2.2 : Int))
  obtain ⟨w3, mn⟩ : ∃ X, set5 w2 g (.slice y.d.ba S.1.1.length y.d.bc) (.slice y.d.wa S.1.2.length y.d.wc) (.slice y.a S.2.1.length y.c) (.int .u32 (S.2.2.1 : Int)) (.int .u32 (S.2.2.2 : Int)) = X := ⟨_, rfl⟩
  rw [mn] at xa ka ba yHQ
  simp only [set5] at mn
  replace HT := Lib.hid (HT.out.step ka)
  replace HX := Lib.hid xa
  replace HQ := Lib.hid yHQ
  replace HB := Lib.hid ba
  clear xa ka ba yHQ
  have n0 := ptZ0 HQ.out
  have n1 := ptZ1 HQ.out
  have n2 := ptZ2 HQ.out
  have n3 := ptZ3 HQ.out
  have n4 := ptZ4 HQ.out
  have nf := fun i => HQ.out.frozen i
  obtain ⟨xa, ka, ba⟩ := box_five (L := 0) HQ.out (by decide) (Nat.zero_le _) HB.out HGHQ.out (.int .i64 pa) (.int .u32 (pb : Int)) (.int .u32 (pi : Int)) (.int .u32 (pt : Int)) (.int .u32 (ps : Int))
  have yHX := far5_bl HX.out HNE.out (.int .i64 pa) (.int .u32 (pb : Int)) (.int .u32 (pi : Int)) (.int .u32 (pt : Int)) (.int .u32 (ps : Int))
  obtain ⟨w4, nn⟩ : ∃ X, set5 w3 g1 (.int .i64 pa) (.int .u32 (pb : Int)) (.int .u32 (pi : Int)) (.int .u32 (pt : Int)) (.int .u32 (ps : Int)) = X := ⟨_, rfl⟩
  rw [nn] at xa ka ba yHX
  simp only [set5] at nn
  replace HT := Lib.hid (HT.out.step ka)
  replace HQ := Lib.hid xa
  replace HX := Lib.hid yHX
  replace HB := Lib.hid ba
  clear xa ka ba yHX
  replace HZ := Lib.hid (HZ0.out.step HB.out)
  replace HLW := Lib.hid (Nat.zero_le w4.heap.size)
  clear HZ0
  have d0 := bx0 HX.out
  have d1 := bx1 HX.out
  have d2 := bx2 HX.out
  have d3 := bx3 HX.out
  have d4 := bx4 HX.out
  have q0 := bx0 HQ.out
  have q1 := bx1 HQ.out
  have q2 := bx2 HQ.out
  have q3 := bx3 HQ.out
  have q4 := bx4 HQ.out
  simp only [stV, ptV]
  go_wp2_with fail
  clear m0 m1 m2 m3 m4 mf mn
  clear n0 n1 n2 n3 n4 nf nn
  clear hw2 hg hg1
  clear d0 d1 d2 d3 d4
  clear q0 q1 q2 q3 q4
  have hwc := setWalk_any 0 y S (pa, pb, pi, pt, ps) 0 w4 HT.out HWF.out HWP.out (by omega) HLW.out HZ.out
  rw [HW.out] at hwc
  refine hwc.mono ?_
  rintro e w5 ⟨a3, c3, rfl, ht, _, bq⟩
  simp only [HN.out] at ht ⊢
  replace HT := Lib.hid (HT.out.bel bq)
  replace HB := Lib.hid (HB.out.trans (bq.mono HB.out.size))
  replace HX := Lib.hid (HX.out.below bq HX.out.lt)
  replace HQ := Lib.hid (HQ.out.below bq HQ.out.lt)
  replace HZ := Lib.hid (HZ.out.step bq)
  replace HLW := Lib.hid (Nat.le_trans HLW.out bq.size)
  have HV := Lib.hid ht
  clear bq ht hwc
  go_wp2_with fail
  obtain ⟨b3, o3, ea, _⟩ := HV.out.cells 0 (by omega)
  subst ea
  have hlip := eqPt_lit pa pb pi pt ps pa pb pi pt ps
  rw [eqP_yes] at hlip
  obtain ⟨w6, hwd⟩ : ∃ wd, w5.drew = wd := ⟨_, rfl⟩
  have bq : Below w5.heap.size w5 w6 := by rw [← hwd]; exact (Below.refl _ w5).drew
  replace HT := Lib.hid (HT.out.bel bq)
  replace HB := Lib.hid (HB.out.trans (bq.mono HB.out.size))
  replace HX := Lib.hid (HX.out.below bq HX.out.lt)
  replace HQ := Lib.hid (HQ.out.below bq HQ.out.lt)
  replace HZ := Lib.hid (HZ.out.step bq)
  replace HV := Lib.hid (HV.out.step bq)
  replace HLW := Lib.hid (Nat.le_trans HLW.out bq.size)
  have hwd0 := Below.refl w6.heap.size w6
  refine wpI_start (Below w6.heap.size w6) [0, 1, 2, 3, 4, 5, 6, 7, 8, 9, 10, 11, 12, 13, 14, 15, 16, 17, 18, 19, 20, 21, 22, 23, 24] hmx rfl hwd ?_
  clear hwd bq
  iterate 25 (
    refine wpI_read (v := ?_) hwd0 rfl (by kernel_rfl) (by kernel_rfl) (by kernel_rfl) (fun _ _ _ h => h) (.inl ⟨by rfl, ?_⟩) ?_
    rotate_left
    · intro X hX
      have q0 := bx0 (HQ.out.below hX HQ.out.lt)
      have q1 := bx1 (HQ.out.below hX HQ.out.lt)
      have q2 := bx2 (HQ.out.below hX HQ.out.lt)
      have q3 := bx3 (HQ.out.below hX HQ.out.lt)
      have q4 := bx4 (HQ.out.below hX HQ.out.lt)
      obtain ⟨_, _, ea, _, _, v0_, v1_, v2_, v3_, v4_⟩ := (HV.out.below hX).cells 0 (by omega)
      cases ea
      rw [HG0.out] at v0_ v1_ v2_ v3_ v4_
      simp only [Nat.zero_mul, Nat.add_zero, Nat.reduceMul, Nat.add_assoc, Nat.reduceAdd] at v0_ v1_ v2_ v3_ v4_
      obtain ⟨_, _, ea, _, _, p0_, p1_, p2_, p3_, p4_⟩ := (HV.out.below hX).cells 2 (by omega)
      cases ea
      rw [HG2.out] at p0_ p1_ p2_ p3_ p4_
      simp only [Nat.zero_mul, Nat.add_zero, Nat.reduceMul, Nat.add_assoc, Nat.reduceAdd] at p0_ p1_ p2_ p3_ p4_
      clear hX
      go_simp
      with_reducible rfl
    try simp only [Act.put, List.setIfInBounds_toArray, List.set_cons_zero, List.set_cons_succ])
  refine wpI_done (by kernel_rfl) ?_
  clear hwd0 hlip
  go_wp2_with fail
  go_ret
  exact ⟨rfl, HB.out⟩
end Go.Proofs.YtbggkfomfeeikaaGreatDoor
/-
  What a pointer that came in by value is; what a slice of pointers that came in is.
-/
namespace Go.Proofs.YtbggkfomfeeikaaGreatDoor
open Go.RowKit Go.Shelf Go.Joins Go.ChangeShapes Go.WideShapes Go.ChangeAt
set_option maxRecDepth 100000

theorem u32_wf {n : Int} (h : (Lit.int .u32 n).wf = true) : ∃ m : Nat, n = (m : Int) ∧ m < 4294967296 := by
  simp [Lit.wf, IntKind.min, IntKind.max, IntKind.signed, IntKind.bits] at h
  exact ⟨n.toNat, by omega, by omega⟩
theorem i64_wf {n : Int} (h : (Lit.int .i64 n).wf = true) : -9223372036854775808 ≤ n ∧ n ≤ 9223372036854775807 := by
  simpa [Lit.wf, IntKind.min, IntKind.max, IntKind.signed, IntKind.bits] using h
/-- Five cells that read as a pointer are one. -/
theorem pt_of_trod {H : Type} {enc : TypeId × Value → H} {W : World} {fuel : Nat} {cs : List Value} {x : DataW H × List MemPlace} (h : DataW.trod enc Tryz.prog W 0 (fun _ => true) true fuel 32 cs = some x) : ∃ p, WfP p ∧ cs = ptC p := by
  obtain ⟨f0, f1, f2, f3, f4, hu, t0, t1, t2, t3, t4, o0, o1, o2, o3, o4⟩ : ∃ f0 f1 f2 f3 f4 : Field, Tryz.prog.underlying 32 = some (.struct #[f0, f1, f2, f3, f4]) ∧ f0.type = 3 ∧ f1.type = 28 ∧ f2.type = 28 ∧ f3.type = 28 ∧ f4.type = 28 ∧ f0.offset = 0 ∧ f1.offset = 1 ∧ f2.offset = 2 ∧ f3.offset = 3 ∧ f4.offset = 4 :=
    ⟨_, _, _, _, _, Tryz.underlying32, rfl, rfl, rfl, rfl, rfl, rfl, rfl, rfl, rfl, rfl⟩
  have cI : Tryz.prog.cellsOf 3 = 1 := by kernel_rfl
  have cU : Tryz.prog.cellsOf 28 = 1 := by kernel_rfl
  have cP : Tryz.prog.cellsOf 32 = 5 := by kernel_rfl
  obtain ⟨xs, k, hk, hxy, hcl, hxl, hf⟩ := DataW.trod_struct hu h
  rw [cP] at hcl
  match xs, hxl, cs, hcl with
  | [y0, y1, y2, y3, y4], _, [v0, v1, v2, v3, v4], _ =>
    have g0 := hf 0 f0 rfl
    have g1 := hf 1 f1 rfl
    have g2 := hf 2 f2 rfl
    have g3 := hf 3 f3 rfl
    have g4 := hf 4 f4 rfl
    simp [t0, t1, t2, t3, t4, o0, o1, o2, o3, o4, cI, cU] at g0 g1 g2 g3 g4
    obtain ⟨n0, e0, _, w0⟩ := DataW.trod_int Tryz.underlying3 g0
    obtain ⟨n1, e1, _, w1⟩ := DataW.trod_int Tryz.underlying28 g1
    obtain ⟨n2, e2, _, w2⟩ := DataW.trod_int Tryz.underlying28 g2
    obtain ⟨n3, e3, _, w3⟩ := DataW.trod_int Tryz.underlying28 g3
    obtain ⟨n4, e4, _, w4⟩ := DataW.trod_int Tryz.underlying28 g4
    obtain ⟨m1, rfl, l1⟩ := u32_wf w1
    obtain ⟨m2, rfl, l2⟩ := u32_wf w2
    obtain ⟨m3, rfl, l3⟩ := u32_wf w3
    obtain ⟨m4, rfl, l4⟩ := u32_wf w4
    refine ⟨(n0, m1, m2, m3, m4), ⟨i64_wf w0, l1, l2, l3, l4⟩, ?_⟩
    simp at e0 e1 e2 e3 e4
    rw [e0, e1, e2, e3, e4]
    rfl
/-- A pointer that came in by value. -/
theorem open_ptr {H : Type} {enc : TypeId × Value → H} {W : World} {r : Go.Reach} {b0 : Nat} {v : Value} {d : DataW H} {p : List MemPlace} (hv : Value.okWide Tryz.prog W r b0 32 v) (h : DataW.Trod enc Tryz.prog W 0 (fun _ => true) true 32 v d p) :
    ∃ q, v = ptV q ∧ WfP q := by
  obtain ⟨cs, rfl, hsz⟩ := okWide_struct Tryz.underlying32 hv
  obtain ⟨fuel, hf⟩ := h
  obtain ⟨q, hw, hq⟩ := pt_of_trod hf
  refine ⟨q, ?_, hw⟩
  have : cs = (ptC q).toArray := by
    rw [← hq]
    simp [Value.cells]
  rw [this]
  rfl
end Go.Proofs.YtbggkfomfeeikaaGreatDoor
/-
  What the program's sizes are where they lie as they were laid.
-/
namespace Go.Proofs.YtbggkfomfeeikaaGreatDoor
open Go.RowKit Go.Shelf Go.Joins Go.ChangeShapes Go.WideShapes Go.ChangeAt
set_option maxRecDepth 100000

theorem gSizes : Tryz.prog.globalNamed "charterhouse/ptr.sizes" = some 0 := by kernel_rfl
theorem tSizes : (Tryz.prog.globals[0]?).map (·.type) = some 148 := by kernel_rfl
/-- The door's own heap meets the condition: closed facts. -/
theorem door_met (os : Os) (args : Array Value) : laidMetH Tryz.prog [("charterhouse/ptr.sizes", Rows.laid_charterhouse_ptr_sizes)] ((World.doorLaid Tryz.prog 400 os).forCall (fun _ _ => 0) ⟨#[], args, []⟩).memory :=
  laidMetH_of_parts3 (fuel := 8) (laidMet_of_run' 8 (by kernel_rfl) (by kernel_rfl)) (by kernel_rfl) (by kernel_rfl)
theorem szs_of_laid {W : World} (h : laidMetH Tryz.prog [("charterhouse/ptr.sizes", Rows.laid_charterhouse_ptr_sizes)] W) : Szs W := by
  rw [MakeChecks.laidMetH_plain _ _ _ (by kernel_rfl)] at h
  obtain ⟨ps, ⟨g0, t0, cs0, f0, q0, r0, hg0, ht0, hv0, hd0, _⟩, _⟩ := h
  obtain rfl := Option.some.inj (gSizes.symm.trans hg0)
  obtain rfl := Option.some.inj (tSizes.symm.trans ht0)
  obtain ⟨xs, m1, rfl, hx1, hlen, hn5, hel⟩ := DataW.trod_array Tryz.underlying148 hd0
  have c3 : Tryz.prog.cellsOf 3 = 1 := by kernel_rfl
  simp only [Prod.mk.injEq, Rows.laid_charterhouse_ptr_sizes, DataW.agg.injEq] at hx1
  have one : ∀ (i : Nat) (x : DataW Unit × List MemPlace) (n : Int), i < 5 → xs[i]? = some x → x.1 = .lit (.int .i64 n) → W.cell? ⟨0, i, none⟩ = some (.int .i64 n) := fun i x n hi hx hn => by
    have h0 := hel i hi
    rw [hx, c3, Nat.mul_one] at h0
    obtain ⟨k, e1, e2, _⟩ := DataW.trod_int Tryz.underlying3 h0
    have hk : k = n := by rw [e2] at hn; simpa using hn
    subst hk
    have hv := World.var?_cell hg0 hv0 i
    have e3 : (cs0.toList.drop i)[0]? = some (.int .i64 k) := by
      have : ((cs0.toList.drop i).take 1)[0]? = some (.int .i64 k) := by rw [e1]; rfl
      rwa [List.getElem?_take_of_lt (by omega)] at this
    rw [List.getElem?_drop, Nat.add_zero, Array.getElem?_toList] at e3
    rw [← e3]
    exact hv
  match xs, hn5, hx1, one with
  | [x0, x1, x2, x3, x4], _, hx1, one =>
    simp only [List.map_cons, List.map_nil, List.cons.injEq] at hx1
    have d0 := one 0 x0 1 (by omega) rfl hx1.1.1.symm
    exact ⟨World.block_lt_of_cell? W _ d0, d0, one 1 x1 3 (by omega) rfl hx1.1.2.1.symm, one 2 x2 4 (by omega) rfl hx1.1.2.2.1.symm, one 3 x3 4 (by omega) rfl hx1.1.2.2.2.1.symm, one 4 x4 4 (by omega) rfl hx1.1.2.2.2.2.1.symm⟩

end Go.Proofs.YtbggkfomfeeikaaGreatDoor
/-
  Law 15's falls: whether no pointer below a root is younger than the one above it.
-/
namespace Go.Proofs.YtbggkfomfeeikaaGreatDoor
open Go.RowKit Go.Shelf
set_option maxRecDepth 100000

/-- What holds where falls answers true. -/
def FallsP (S : StL) (p : Pt) : Prop := ∃ L, ptrsSO S p = (L, 0) ∧ ∀ n, n < L.length → L.getD n p0 ≠ p0 → (objSO S p (n : Int)).2 = 0 ∧ (L.getD n p0).2.1 ≤ p.2.1 ∧ ∀ r ∈ (objSO S p (n : Int)).1.2.2.2, r.2.1 ≤ (L.getD n p0).2.1
set_option linter.unusedSimpArgs false in
set_option maxHeartbeats 16000000 in
theorem seFalls_any (L : Nat) (x : SAt) (S : StL) (p : Pt) (w : World) (h : StP L w x S) (hwf : WfS S) (hwp : WfP p) (hL : L ≤ w.heap.size) (hz : Szs w) : Calls Tryz.prog 22 #[stV x S, ptV p] w fun e w' => ∃ R : Bool, e = .returned (.bool R) ∧ (R = true → FallsP S p) ∧ Below w.heap.size w w' := by
  have hmx : Tryz.prog.follows Departure.mixedOrders = true := by kernel_rfl
  obtain ⟨pa, pb, pi, pt, ps⟩ := p
  obtain ⟨w0, hw0, b0, z0, q1, q2⟩ := two_al w (stC x S) (ptA (pa, pb, pi, pt, ps)) 30 32
  obtain ⟨g, hg⟩ : ∃ g, w.heap.size = g := ⟨_, rfl⟩
  obtain ⟨g1, hg1⟩ : ∃ g1, g + 1 = g1 := ⟨_, rfl⟩
  rw [hg] at q1 q2
  rw [hg1] at q2
  have HX := Lib.hid q1
  have HQ := Lib.hid q2
  have HT := Lib.hid (h.bel b0)
  have HB := Lib.hid b0
  have HLW := Lib.hid (show L ≤ w0.heap.size from Nat.le_trans hL b0.size)
  simp only [stC, ptA] at hw0
  clear h b0 z0 q1 q2 hL
  have HZ := Lib.hid (hz.step HB.out)
  have HWF := Lib.hid hwf
  have HWP := Lib.hid hwp
  obtain ⟨⟨LL, le⟩, hle⟩ : ∃ o, ptrsSO S (pa, pb, pi, pt, ps) = o := ⟨_, rfl⟩
  have hpc := setPtrs_any L x S (pa, pb, pi, pt, ps) w0 HT.out HWF.out HWP.out HLW.out HZ.out
  rw [hle] at hpc
  obtain ⟨n, hn⟩ : ∃ n, LL.length = n := ⟨_, rfl⟩
  have HPC := Lib.hid hpc
  have HN := Lib.hid hn
  have HLE := Lib.hid hle
  clear hpc hn hle hwf hwp hz
  have d0 := bx0 HX.out
  have d1 := bx1 HX.out
  have d2 := bx2 HX.out
  have d3 := bx3 HX.out
  have d4 := bx4 HX.out
  have q0 := bx0 HQ.out
  have q1 := bx1 HQ.out
  have q2 := bx2 HQ.out
  have q3 := bx3 HQ.out
  have q4 := bx4 HQ.out
  go_enter Tryz.func22, Tryz.ntmps22
  go_wp2_with fail
  try rw [hw0]
  try rw [hg]
  try rw [hg1]
  clear hw0 hg hg1
  clear d0 d1 d2 d3 d4
  clear q0 q1 q2 q3 q4
  refine HPC.out.mono ?_
  rintro e w1 ⟨a1, c1, rfl, ht1, _, b1⟩
  simp only [HN.out] at ht1 ⊢
  replace HX := Lib.hid (HX.out.below b1 HX.out.lt)
  replace HQ := Lib.hid (HQ.out.below b1 HQ.out.lt)
  replace HT := Lib.hid (HT.out.bel b1)
  replace HB := Lib.hid (HB.out.trans (b1.mono HB.out.size))
  replace HZ := Lib.hid (HZ.out.step b1)
  replace HLW := Lib.hid (Nat.le_trans HLW.out b1.size)
  have n9 := ht1.len_le
  have n0 : (0 : Int) ≤ n := by omega
  have HP := Lib.hid ht1
  clear b1 ht1 HPC
  by_cases he : le ≠ 0
  · have e1 : ((le : Int) != 0) = true := by simp; omega
    go_wp2_with fail
    go_ret
    exact ⟨false, rfl, fun h => (by cases h), HB.out⟩
  · obtain rfl : le = 0 := by omega
    have ez : (((0 : Nat) : Int)) = 0 := rfl
    rw [ez]
    clear ez
    go_wp2_with fail
    clear he
    go_loopw [7] (fun i wr => ∃ j : Nat, j ≤ n ∧ i = .int .i64 j ∧ (∀ t, t < j → LL.getD t p0 ≠ p0 → (objSO S (pa, pb, pi, pt, ps) (t : Int)).2 = 0 ∧ (LL.getD t p0).2.1 ≤ pb ∧ ∀ r ∈ (objSO S (pa, pb, pi, pt, ps) (t : Int)).1.2.2.2, r.2.1 ≤ (LL.getD t p0).2.1) ∧ Below w1.heap.size w1 wr) (fun i _ => n - (intOf i).toNat)
    case atStart => exact ⟨0, Nat.zero_le _, rfl, fun j hj => absurd hj (Nat.not_lt_zero _), Below.refl _ _⟩
    case round =>
      obtain ⟨j, hj, rfl, hall, hb⟩ := hrel
      have HBR := Lib.hid hb
      have HA := Lib.hid hall
      replace HX := Lib.hid (HX.out.below hb HX.out.lt)
      replace HQ := Lib.hid (HQ.out.below hb HQ.out.lt)
      replace HT := Lib.hid (HT.out.bel hb)
      replace HB := Lib.hid (HB.out.trans (hb.mono HB.out.size))
      replace HZ := Lib.hid (HZ.out.step hb)
      replace HP := Lib.hid (HP.out.step hb)
      replace HLW := Lib.hid (Nat.le_trans HLW.out hb.size)
      have j0 : (0 : Int) ≤ j := by omega
      clear hb hall
      by_cases hlt : j < n
      · have j1 : (j : Int) < n := by omega
        obtain ⟨ba, oa, ea, _, hwfP, p0_, p1_, p2_, p3_, p4_⟩ := HP.out.cells j hlt
        obtain ⟨P, hP⟩ : ∃ X, LL.getD j p0 = X := ⟨_, rfl⟩
        rw [hP] at hwfP p0_ p1_ p2_ p3_ p4_
        have HPE := Lib.hid hP
        have HWPP := Lib.hid hwfP
        subst ea
        clear hP hwfP
        by_cases hP0 : P = p0
        · have hlit := eqPt_zero P.1 P.2.1 P.2.2.1 P.2.2.2.1 P.2.2.2.2
          have hyes : eqP (P.1, P.2.1, P.2.2.1, P.2.2.2.1, P.2.2.2.2) p0 = true := (eqP_iff _ _).2 hP0
          rw [hyes] at hlit
          have HP0 := Lib.hid hP0
          clear hP0 hyes
          go_wp2_with fail
          go_roundw
          case rel =>
            refine ⟨j + 1, by omega, by go_num, fun t ht => ?_, HBR.out⟩
            by_cases e : t = j
            · subst e
              intro hne
              exact absurd (by rw [HPE.out]; exact HP0.out) hne
            · exact HA.out t (by omega)
          case measure => simp [intOf]; omega
        · obtain ⟨ya, yb, yi, yt, ys⟩ := P
          have hlit := eqPt_zero ya yb yi yt ys
          rw [eqP_not hP0] at hlit
          have HP0 := Lib.hid hP0
          simp only at p0_ p1_ p2_ p3_ p4_
          obtain ⟨⟨⟨k5, l5, r5, L5⟩, z5⟩, hoe⟩ : ∃ o, objSO S (pa, pb, pi, pt, ps) (j : Int) = o := ⟨_, rfl⟩
          have hoc := setObject_any L x S (pa, pb, pi, pt, ps) (j : Int) wr HT.out HWF.out HWP.out HLW.out HZ.out (by omega)
          rw [hoe] at hoc
          obtain ⟨n5, hn5⟩ : ∃ n, L5.length = n := ⟨_, rfl⟩
          have HOC := Lib.hid hoc
          have HOE := Lib.hid hoe
          have HN5 := Lib.hid hn5
          clear hP0 hoc hoe hn5
          have d0 := bx0 HX.out
          have d1 := bx1 HX.out
          have d2 := bx2 HX.out
          have d3 := bx3 HX.out
          have d4 := bx4 HX.out
          have q0 := bx0 HQ.out
          have q1 := bx1 HQ.out
          have q2 := bx2 HQ.out
          have q3 := bx3 HQ.out
          have q4 := bx4 HQ.out
          go_wp2_with fail
          clear d0 d1 d2 d3 d4
          clear q0 q1 q2 q3 q4
          clear p0_ p1_ p2_ p3_ p4_ hlit
          refine HOC.out.mono ?_
          rintro e w5 ⟨a5, c5, rfl, ht5, _, b5⟩
          simp only [HN5.out] at ht5 ⊢
          replace HX := Lib.hid (HX.out.below b5 HX.out.lt)
          replace HQ := Lib.hid (HQ.out.below b5 HQ.out.lt)
          replace HT := Lib.hid (HT.out.bel b5)
          replace HB := Lib.hid (HB.out.trans (b5.mono HB.out.size))
          replace HBR := Lib.hid (HBR.out.trans (b5.mono HBR.out.size))
          replace HZ := Lib.hid (HZ.out.step b5)
          replace HP := Lib.hid (HP.out.step b5)
          replace HLW := Lib.hid (Nat.le_trans HLW.out b5.size)
          have HP5 := Lib.hid ht5
          have m9 := ht5.len_le
          have m0 : (0 : Int) ≤ n5 := by omega
          clear b5 ht5 HOC
          have bq := (Below.refl w5.heap.size w5).alloc (Nat.le_refl _) (.cells #[.int .u8 (k5 : Int), .int .i64 l5, .int .i64 r5, .slice a5 n5 c5] 40)
          have xo := Blk.new w5 40 #[.int .u8 (k5 : Int), .int .i64 l5, .int .i64 r5, .slice a5 n5 c5]
          go_wp2_with fail
          obtain ⟨w6, hn⟩ : ∃ X, w5.alloc (.cells #[.int .u8 (k5 : Int), .int .i64 l5, .int .i64 r5, .slice a5 n5 c5] 40) = X := ⟨_, rfl⟩
          obtain ⟨g6, hg6⟩ : ∃ X, w5.heap.size = X := ⟨_, rfl⟩
          rw [hn] at bq xo
          rw [hg6] at xo
          try rw [hn]
          try rw [hg6]
          replace HX := Lib.hid (HX.out.below bq HX.out.lt)
          replace HQ := Lib.hid (HQ.out.below bq HQ.out.lt)
          replace HT := Lib.hid (HT.out.bel bq)
          replace HB := Lib.hid (HB.out.trans (bq.mono HB.out.size))
          replace HBR := Lib.hid (HBR.out.trans (bq.mono HBR.out.size))
          replace HZ := Lib.hid (HZ.out.step bq)
          replace HP := Lib.hid (HP.out.step bq)
          replace HP5 := Lib.hid (HP5.out.step bq)
          replace HLW := Lib.hid (Nat.le_trans HLW.out bq.size)
          have HO6 := Lib.hid xo
          clear bq xo hn hg6
          by_cases hz5 : z5 ≠ 0
          · have e1 : ((z5 : Int) != 0) = true := by simp; omega
            obtain ⟨w7, hwd⟩ : ∃ wd, w6.drew = wd := ⟨_, rfl⟩
            have bq : Below w6.heap.size w6 w7 := by rw [← hwd]; exact (Below.refl _ w6).drew
            replace HX := Lib.hid (HX.out.below bq HX.out.lt)
            replace HQ := Lib.hid (HQ.out.below bq HQ.out.lt)
            replace HT := Lib.hid (HT.out.bel bq)
            replace HB := Lib.hid (HB.out.trans (bq.mono HB.out.size))
            replace HBR := Lib.hid (HBR.out.trans (bq.mono HBR.out.size))
            replace HO6 := Lib.hid (HO6.out.below bq HO6.out.lt)
            replace HZ := Lib.hid (HZ.out.step bq)
            replace HP := Lib.hid (HP.out.step bq)
            replace HP5 := Lib.hid (HP5.out.step bq)
            replace HLW := Lib.hid (Nat.le_trans HLW.out bq.size)
            have hwd0 := Below.refl w7.heap.size w7
            refine wpI_start (Below w7.heap.size w7) [0, 1, 2, 3, 4, 5, 6, 7, 8, 9, 10, 11] hmx rfl hwd ?_
            clear hwd bq
            iterate 3 (
              refine wpI_read (v := ?_) hwd0 rfl (by kernel_rfl) (by kernel_rfl) (by kernel_rfl) (fun _ _ _ h => h) (.inl ⟨by rfl, ?_⟩) ?_
              rotate_left
              · intro X hX
                clear hX
                go_simp
                with_reducible rfl
              try simp only [Act.put, List.setIfInBounds_toArray, List.set_cons_zero, List.set_cons_succ])
            iterate 8 (
              refine wpI_read (v := undef) hwd0 rfl (by kernel_rfl) (by kernel_rfl) (by kernel_rfl) (fun _ _ _ h => h) (.inr ⟨by rfl, rfl⟩) ?_
              try simp only [Act.put, List.setIfInBounds_toArray, List.set_cons_zero, List.set_cons_succ])
            iterate 1 (
              refine wpI_read (v := ?_) hwd0 rfl (by kernel_rfl) (by kernel_rfl) (by kernel_rfl) (fun _ _ _ h => h) (.inl ⟨by rfl, ?_⟩) ?_
              rotate_left
              · intro X hX
                clear hX
                go_simp
                with_reducible rfl
              try simp only [Act.put, List.setIfInBounds_toArray, List.set_cons_zero, List.set_cons_succ])
            refine wpI_done (by kernel_rfl) ?_
            clear hwd0
            go_wp2_with fail
            go_ret
            exact ⟨false, rfl, fun h => (by cases h), HB.out⟩
          · obtain rfl : z5 = 0 := by omega
            have ez : (((0 : Nat) : Int)) = 0 := rfl
            rw [ez]
            clear ez
            by_cases hy : pb < yb
            · have d1 : decide ((pb : Int) < (yb : Int)) = true := decide_eq_true (by omega)
              obtain ⟨w7, hwd⟩ : ∃ wd, w6.drew = wd := ⟨_, rfl⟩
              have bq : Below w6.heap.size w6 w7 := by rw [← hwd]; exact (Below.refl _ w6).drew
              replace HX := Lib.hid (HX.out.below bq HX.out.lt)
              replace HQ := Lib.hid (HQ.out.below bq HQ.out.lt)
              replace HT := Lib.hid (HT.out.bel bq)
              replace HB := Lib.hid (HB.out.trans (bq.mono HB.out.size))
              replace HBR := Lib.hid (HBR.out.trans (bq.mono HBR.out.size))
              replace HO6 := Lib.hid (HO6.out.below bq HO6.out.lt)
              replace HZ := Lib.hid (HZ.out.step bq)
              replace HP := Lib.hid (HP.out.step bq)
              replace HP5 := Lib.hid (HP5.out.step bq)
              replace HLW := Lib.hid (Nat.le_trans HLW.out bq.size)
              have hwd0 := Below.refl w7.heap.size w7
              refine wpI_start (Below w7.heap.size w7) [0, 1, 2, 3, 4, 5, 6, 7, 8, 9, 10, 11] hmx rfl hwd ?_
              clear hwd bq
              iterate 12 (
                refine wpI_read (v := ?_) hwd0 rfl (by kernel_rfl) (by kernel_rfl) (by kernel_rfl) (fun _ _ _ h => h) (.inl ⟨by rfl, ?_⟩) ?_
                rotate_left
                · intro X hX
                  have q1 := bx1 (HQ.out.below hX HQ.out.lt)
                  obtain ⟨_, _, ea, _, _, p0_, p1_, p2_, p3_, p4_⟩ := (HP.out.below hX).cells j hlt
                  cases ea
                  rw [HPE.out] at p0_ p1_ p2_ p3_ p4_
                  simp only at p0_ p1_ p2_ p3_ p4_
                  clear hX
                  go_simp
                  with_reducible rfl
                try simp only [Act.put, List.setIfInBounds_toArray, List.set_cons_zero, List.set_cons_succ])
              refine wpI_done (by kernel_rfl) ?_
              clear hwd0
              go_wp2_with fail
              go_ret
              exact ⟨false, rfl, fun h => (by cases h), HB.out⟩
            · have d1 : decide ((pb : Int) < (yb : Int)) = false := decide_eq_false (by omega)
              have HY := Lib.hid (show yb ≤ pb by omega)
              obtain ⟨w7, hwd⟩ : ∃ wd, w6.drew = wd := ⟨_, rfl⟩
              have bq : Below w6.heap.size w6 w7 := by rw [← hwd]; exact (Below.refl _ w6).drew
              replace HX := Lib.hid (HX.out.below bq HX.out.lt)
              replace HQ := Lib.hid (HQ.out.below bq HQ.out.lt)
              replace HT := Lib.hid (HT.out.bel bq)
              replace HB := Lib.hid (HB.out.trans (bq.mono HB.out.size))
              replace HBR := Lib.hid (HBR.out.trans (bq.mono HBR.out.size))
              replace HO6 := Lib.hid (HO6.out.below bq HO6.out.lt)
              replace HZ := Lib.hid (HZ.out.step bq)
              replace HP := Lib.hid (HP.out.step bq)
              replace HP5 := Lib.hid (HP5.out.step bq)
              replace HLW := Lib.hid (Nat.le_trans HLW.out bq.size)
              have hwd0 := Below.refl w7.heap.size w7
              refine wpI_start (Below w7.heap.size w7) [0, 1, 2, 3, 4, 5, 6, 7, 8, 9, 10, 11] hmx rfl hwd ?_
              clear hwd bq
              iterate 12 (
                refine wpI_read (v := ?_) hwd0 rfl (by kernel_rfl) (by kernel_rfl) (by kernel_rfl) (fun _ _ _ h => h) (.inl ⟨by rfl, ?_⟩) ?_
                rotate_left
                · intro X hX
                  have q1 := bx1 (HQ.out.below hX HQ.out.lt)
                  obtain ⟨_, _, ea, _, _, p0_, p1_, p2_, p3_, p4_⟩ := (HP.out.below hX).cells j hlt
                  cases ea
                  rw [HPE.out] at p0_ p1_ p2_ p3_ p4_
                  simp only at p0_ p1_ p2_ p3_ p4_
                  clear hX
                  go_simp
                  with_reducible rfl
                try simp only [Act.put, List.setIfInBounds_toArray, List.set_cons_zero, List.set_cons_succ])
              refine wpI_done (by kernel_rfl) ?_
              clear hwd0 d1
              go_wp2_with fail
              go_loopw [10] (fun i wr => ∃ k : Nat, k ≤ n5 ∧ i = .int .i64 k ∧ (∀ t, t < k → (L5.getD t p0).2.1 ≤ yb) ∧ Below w7.heap.size w7 wr) (fun i _ => n5 - (intOf i).toNat)
              case atStart => exact ⟨0, Nat.zero_le _, rfl, fun j hj => absurd hj (Nat.not_lt_zero _), Below.refl _ _⟩
              case round =>
                obtain ⟨k, hk, rfl, hin, hb⟩ := hrel
                have HIN := Lib.hid hin
                have HB7 := Lib.hid hb
                replace HX := Lib.hid (HX.out.below hb HX.out.lt)
                replace HQ := Lib.hid (HQ.out.below hb HQ.out.lt)
                replace HT := Lib.hid (HT.out.bel hb)
                replace HB := Lib.hid (HB.out.trans (hb.mono HB.out.size))
                replace HBR := Lib.hid (HBR.out.trans (hb.mono HBR.out.size))
                replace HO6 := Lib.hid (HO6.out.below hb HO6.out.lt)
                replace HZ := Lib.hid (HZ.out.step hb)
                replace HP := Lib.hid (HP.out.step hb)
                replace HP5 := Lib.hid (HP5.out.step hb)
                replace HLW := Lib.hid (Nat.le_trans HLW.out hb.size)
                have i0 : (0 : Int) ≤ k := by omega
                have o3 := ox3 HO6.out
                clear hb hin
                by_cases hkt : k < n5
                · have i1 : (k : Int) < n5 := by omega
                  obtain ⟨b5, o5, ea, _⟩ := HP5.out.cells k hkt
                  subst ea
                  obtain ⟨Q, hQ⟩ : ∃ X, L5.getD k p0 = X := ⟨_, rfl⟩
                  have HQE := Lib.hid hQ
                  clear hQ
                  obtain ⟨ua, ub, ui, ut, us⟩ := Q
                  go_wp2_with fail
                  clear o3
                  by_cases hyu : yb < ub
                  · have d1 : decide ((yb : Int) < (ub : Int)) = true := decide_eq_true (by omega)
                    obtain ⟨w8, hwd⟩ : ∃ wd, wr.drew = wd := ⟨_, rfl⟩
                    have bq : Below wr.heap.size wr w8 := by rw [← hwd]; exact (Below.refl _ wr).drew
                    replace HX := Lib.hid (HX.out.below bq HX.out.lt)
                    replace HQ := Lib.hid (HQ.out.below bq HQ.out.lt)
                    replace HT := Lib.hid (HT.out.bel bq)
                    replace HB := Lib.hid (HB.out.trans (bq.mono HB.out.size))
                    replace HBR := Lib.hid (HBR.out.trans (bq.mono HBR.out.size))
                    replace HO6 := Lib.hid (HO6.out.below bq HO6.out.lt)
                    replace HB7 := Lib.hid (HB7.out.trans (bq.mono HB7.out.size))
                    replace HZ := Lib.hid (HZ.out.step bq)
                    replace HP := Lib.hid (HP.out.step bq)
                    replace HP5 := Lib.hid (HP5.out.step bq)
                    replace HLW := Lib.hid (Nat.le_trans HLW.out bq.size)
                    have hwd0 := Below.refl w8.heap.size w8
                    refine wpI_start (Below w8.heap.size w8) [0, 1, 2, 3, 4, 5, 6, 7, 8, 9, 10, 11] hmx rfl hwd ?_
                    clear hwd bq
                    iterate 12 (
                      refine wpI_read (v := ?_) hwd0 rfl (by kernel_rfl) (by kernel_rfl) (by kernel_rfl) (fun _ _ _ h => h) (.inl ⟨by rfl, ?_⟩) ?_
                      rotate_left
                      · intro X hX
                        have o3 := ox3 (HO6.out.below hX HO6.out.lt)
                        obtain ⟨_, _, ea, _, _, p0_, p1_, p2_, p3_, p4_⟩ := (HP.out.below hX).cells j hlt
                        cases ea
                        rw [HPE.out] at p0_ p1_ p2_ p3_ p4_
                        simp only at p0_ p1_ p2_ p3_ p4_
                        obtain ⟨_, _, ea, _, _, u_0_, u_1_, u_2_, u_3_, u_4_⟩ := (HP5.out.below hX).cells k hkt
                        cases ea
                        rw [HQE.out] at u_0_ u_1_ u_2_ u_3_ u_4_
                        simp only at u_0_ u_1_ u_2_ u_3_ u_4_
                        clear hX
                        go_simp
                        with_reducible rfl
                      try simp only [Act.put, List.setIfInBounds_toArray, List.set_cons_zero, List.set_cons_succ])
                    refine wpI_done (by kernel_rfl) ?_
                    clear hwd0
                    go_wp2_with fail
                    go_ret
                    exact ⟨false, rfl, fun h => (by cases h), HB.out⟩
                  · have d1 : decide ((yb : Int) < (ub : Int)) = false := decide_eq_false (by omega)
                    obtain ⟨w8, hwd⟩ : ∃ wd, wr.drew = wd := ⟨_, rfl⟩
                    have bq : Below wr.heap.size wr w8 := by rw [← hwd]; exact (Below.refl _ wr).drew
                    replace HX := Lib.hid (HX.out.below bq HX.out.lt)
                    replace HQ := Lib.hid (HQ.out.below bq HQ.out.lt)
                    replace HT := Lib.hid (HT.out.bel bq)
                    replace HB := Lib.hid (HB.out.trans (bq.mono HB.out.size))
                    replace HBR := Lib.hid (HBR.out.trans (bq.mono HBR.out.size))
                    replace HO6 := Lib.hid (HO6.out.below bq HO6.out.lt)
                    replace HB7 := Lib.hid (HB7.out.trans (bq.mono HB7.out.size))
                    replace HZ := Lib.hid (HZ.out.step bq)
                    replace HP := Lib.hid (HP.out.step bq)
                    replace HP5 := Lib.hid (HP5.out.step bq)
                    replace HLW := Lib.hid (Nat.le_trans HLW.out bq.size)
                    have hwd0 := Below.refl w8.heap.size w8
                    refine wpI_start (Below w8.heap.size w8) [0, 1, 2, 3, 4, 5, 6, 7, 8, 9, 10, 11] hmx rfl hwd ?_
                    clear hwd bq
                    iterate 12 (
                      refine wpI_read (v := ?_) hwd0 rfl (by kernel_rfl) (by kernel_rfl) (by kernel_rfl) (fun _ _ _ h => h) (.inl ⟨by rfl, ?_⟩) ?_
                      rotate_left
                      · intro X hX
                        have o3 := ox3 (HO6.out.below hX HO6.out.lt)
                        obtain ⟨_, _, ea, _, _, p0_, p1_, p2_, p3_, p4_⟩ := (HP.out.below hX).cells j hlt
                        cases ea
                        rw [HPE.out] at p0_ p1_ p2_ p3_ p4_
                        simp only at p0_ p1_ p2_ p3_ p4_
                        obtain ⟨_, _, ea, _, _, u_0_, u_1_, u_2_, u_3_, u_4_⟩ := (HP5.out.below hX).cells k hkt
                        cases ea
                        rw [HQE.out] at u_0_ u_1_ u_2_ u_3_ u_4_
                        simp only at u_0_ u_1_ u_2_ u_3_ u_4_
                        clear hX
                        go_simp
                        with_reducible rfl
                      try simp only [Act.put, List.setIfInBounds_toArray, List.set_cons_zero, List.set_cons_succ])
                    refine wpI_done (by kernel_rfl) ?_
                    clear hwd0
                    go_wp2_with fail
                    go_roundw
                    case rel =>
                      refine ⟨k + 1, by omega, by go_num, fun t ht => ?_, HB7.out⟩
                      by_cases e : t = k
                      · subst e
                        rw [HQE.out]
                        show ub ≤ yb
                        omega
                      · exact HIN.out t (by omega)
                    case measure => simp [intOf]; omega
                · obtain rfl : k = n5 := by omega
                  go_wp2_with fail
                  go_roundw
                  case rel =>
                    refine ⟨j + 1, by omega, by go_num, fun t ht => ?_, HBR.out⟩
                    by_cases e : t = j
                    · subst e
                      intro hne
                      refine ⟨by rw [HOE.out], by rw [HPE.out]; exact HY.out, fun q hq => ?_⟩
                      rw [HOE.out] at hq
                      obtain ⟨i, hi, rfl⟩ := List.getElem_of_mem hq
                      have := HIN.out i (by rw [← HN5.out]; exact hi)
                      rw [List.getD_eq_getElem?_getD, List.getElem?_eq_getElem hi] at this
                      rw [HPE.out]
                      exact this
                    · exact HA.out t (by omega)
                  case measure => simp [intOf]; omega
      · obtain rfl : j = n := by omega
        go_wp2_with fail
        go_ret
        exact ⟨true, rfl, fun _ => ⟨LL, HLE.out, fun t ht => HA.out t (by rw [← HN.out]; exact ht)⟩, HB.out⟩
end Go.Proofs.YtbggkfomfeeikaaGreatDoor
/-
  What a disk that came in by value is; what a slice of marks that came in is.
-/
namespace Go.Proofs.YtbggkfomfeeikaaGreatDoor
open Go.RowKit Go.Shelf Go.Joins Go.ChangeShapes Go.WideShapes Go.ChangeAt
set_option maxRecDepth 100000

theorem weights_of {H : Type} {P : Program} {e : TypeId} {d : DataW H} {n : Nat} (hn : n ∈ d.weights P e) : ∀ {l : List (DataW H)}, d ∈ l → n ∈ DataW.weightsAll P e l
  | [], h => by cases h
  | x :: l, h => by
    unfold DataW.weightsAll
    rcases List.mem_cons.1 h with rfl | h
    · exact List.mem_append_left _ hn
    · exact List.mem_append_right _ (weights_of hn h)
/-- A slice of bytes that came in, and how long it may be. -/
theorem open_piece {H : Type} {enc : TypeId × Value → H} {W : World} {fuel : Nat} {v : Value} {y : DataW H × List MemPlace} (hf : DataW.trod enc Tryz.prog W 0 (fun _ => true) true fuel 27 [v] = some y) :
    ∃ a len cap s, v = .slice a len cap ∧ Bsl W W.heap.size a len cap s ∧ ((∀ n ∈ y.1.weights Tryz.prog 27, n ≤ reachBytes) → s.length ≤ reachBytes) := by
  have hb : Tryz.prog.bytesOf 5 = 1 := by kernel_rfl
  rcases open_ints Tryz.underlying27 Tryz.underlying5 (by kernel_rfl) hf with ⟨hcs, rfl⟩ | ⟨x, l, c, zs, hcs, _, hl, hm, hz, rfl, hcell, hwz⟩
  · obtain rfl : v = .slice none 0 0 := by simpa using hcs
    exact ⟨none, 0, 0, _, rfl, bsl_of_row (.inl ⟨rfl, rfl, rfl, rfl⟩), fun _ => Nat.zero_le _⟩
  · obtain rfl : v = .slice (some x) l c := by simpa using hcs
    have hz' : zs.length = c := by simpa using hz
    refine ⟨_, l, c, _, rfl, bsl_of_row (.inr ⟨x, rfl, hl, hm, hz', hcell, hwz⟩), fun hw => ?_⟩
    have := hw ((lits (H := H) .u8 (zs.take l)).length + (lits (H := H) .u8 (zs.drop l)).length) (by
      simp only [DataW.weights, Tryz.underlying27, hb, Nat.mul_one]
      exact List.mem_cons_self ..)
    simp only [lits, List.length_map, List.length_take, List.length_drop] at this ⊢
    omega
/-- A slice of slices of bytes that came in. -/
theorem open_blocks {H : Type} {enc : TypeId × Value → H} {W : World} {fuel : Nat} {v : Value} {y : DataW H × List MemPlace} (hf : DataW.trod enc Tryz.prog W 0 (fun _ => true) true fuel 23 [v] = some y) :
    ∃ a len cap bl, v = .slice a len cap ∧ Bls W W.heap.size a len cap bl ∧ ((∀ n ∈ y.1.weights Tryz.prog 23, n ≤ reachBytes) → ∀ i, i < bl.length → (bl.getD i []).length ≤ reachBytes) := by
  rcases Go.Deep.open_slice1 Tryz.underlying23 (by kernel_rfl) hf with ⟨hcs, rfl⟩ | ⟨x, len, cap, m, n, V, D, Pl, hcs, _, hl, hm, hmm, rfl, hr⟩
  · obtain rfl : v = .slice none 0 0 := by simpa using hcs
    exact ⟨none, 0, 0, [], rfl, bls_nil _ _, fun _ i hi => absurd hi (Nat.not_lt_zero _)⟩
  · obtain rfl : v = .slice (some x) len cap := by simpa using hcs
    obtain ⟨A, L, C, s, hs⟩ : ∃ (A : Nat → Option Addr) (L C : Nat → Nat) (s : Nat → List UInt8), ∀ i, i < len → V i = .slice (A i) (L i) (C i) ∧ Bsl W W.heap.size (A i) (L i) (C i) (s i) ∧ ((∀ n ∈ (D i).weights Tryz.prog 27, n ≤ reachBytes) → (s i).length ≤ reachBytes) := by
      have : ∀ i, ∃ q : Option Addr × Nat × Nat × List UInt8, i < len → V i = .slice q.1 q.2.1 q.2.2.1 ∧ Bsl W W.heap.size q.1 q.2.1 q.2.2.1 q.2.2.2 ∧ ((∀ n ∈ (D i).weights Tryz.prog 27, n ≤ reachBytes) → q.2.2.2.length ≤ reachBytes) := fun i => by
        by_cases hi : i < len
        · obtain ⟨a, l, c, s, h1, h2, h3⟩ := open_piece (hr i (by simp only [if_true] at hmm; omega)).2
          exact ⟨(a, l, c, s), fun _ => ⟨h1, h2, h3⟩⟩
        · exact ⟨(none, 0, 0, []), fun h => absurd h hi⟩
      exact ⟨fun i => (this i).choose.1, fun i => (this i).choose.2.1, fun i => (this i).choose.2.2.1, fun i => (this i).choose.2.2.2, fun i hi => (this i).choose_spec hi⟩
    have hg : ∀ i, i < len → ((List.range len).map s).getD i [] = s i := fun i hi => by simp [List.getD_eq_getElem?_getD, hi]
    refine ⟨_, len, cap, (List.range len).map s, rfl, ⟨by simp, hl, hm, fun h0 => ?_⟩, fun hw i hi => ?_⟩
    · obtain ⟨b, off, spot⟩ := x
      have h00 := (hr 0 (by simp only [if_true] at hmm; omega)).1
      have hspot : spot = none := by simpa [Addr.add] using World.cell?_spot h00
      subst hspot
      have hadd : ∀ i, (⟨b, off, none⟩ : Addr).add i = ⟨b, off + i, none⟩ := fun i => by unfold Addr.add; split <;> simp_all
      refine ⟨b, off, rfl, ?_, fun i hi => ?_⟩
      · rw [hadd] at h00
        exact World.block_lt_of_cell? W _ h00
      · have h1 := (hr i (by simp only [if_true] at hmm; omega)).1
        obtain ⟨e1, e2, _⟩ := hs i hi
        rw [hadd, e1] at h1
        rw [hg i hi, e2.1]
        exact ⟨A i, C i, h1, e2⟩
    · have hi' : i < len := by simpa using hi
      rw [hg i hi']
      refine (hs i hi').2.2 fun n hn => hw n ?_
      simp only [DataW.weights, Tryz.underlying23]
      exact List.mem_cons_of_mem _ (List.mem_append_left _ (weights_of hn (List.mem_map.2 ⟨i, List.mem_range.2 hi', rfl⟩)))
/-- A slice of writes that came in. -/
theorem open_writes {H : Type} {enc : TypeId × Value → H} {W : World} {fuel : Nat} {v : Value} {y : DataW H × List MemPlace} (hf : DataW.trod enc Tryz.prog W 0 (fun _ => true) true fuel 24 [v] = some y) :
    ∃ a len cap ws, v = .slice a len cap ∧ Wts W W.heap.size a len cap ws ∧ ((∀ n ∈ y.1.weights Tryz.prog 24, n ≤ reachBytes) → ∀ i, i < ws.length → (wr_ ws i).2.length ≤ reachBytes) := by
  rcases Go.Deep.open_slice_pairs Tryz.underlying24 Tryz.underlying91 (by kernel_rfl) rfl rfl (by kernel_rfl) (by kernel_rfl) hf with ⟨hcs, rfl⟩ | ⟨x, len, cap, m, n, V0, V1, D0, D1, P0, P1, hcs, _, hl, hm, hmm, rfl, hr⟩
  · obtain rfl : v = .slice none 0 0 := by simpa using hcs
    exact ⟨none, 0, 0, [], rfl, wts_nil _ _, fun _ i hi => absurd hi (Nat.not_lt_zero _)⟩
  · obtain rfl : v = .slice (some x) len cap := by simpa using hcs
    obtain ⟨A, L, C, s, p, hs⟩ : ∃ (A : Nat → Option Addr) (L C : Nat → Nat) (s : Nat → List UInt8) (p : Nat → Int), ∀ i, i < len → V1 i = .slice (A i) (L i) (C i) ∧ Bsl W W.heap.size (A i) (L i) (C i) (s i) ∧ ((∀ n ∈ (D1 i).weights Tryz.prog 27, n ≤ reachBytes) → (s i).length ≤ reachBytes) ∧ V0 i = .int .i64 (p i) ∧ (Lit.int .i64 (p i)).wf = true := by
      have : ∀ i, ∃ q : Option Addr × Nat × Nat × List UInt8 × Int, i < len → V1 i = .slice q.1 q.2.1 q.2.2.1 ∧ Bsl W W.heap.size q.1 q.2.1 q.2.2.1 q.2.2.2.1 ∧ ((∀ n ∈ (D1 i).weights Tryz.prog 27, n ≤ reachBytes) → q.2.2.2.1.length ≤ reachBytes) ∧ V0 i = .int .i64 q.2.2.2.2 ∧ (Lit.int .i64 q.2.2.2.2).wf = true := fun i => by
        by_cases hi : i < len
        · obtain ⟨_, _, h3, h4⟩ := hr i (by simp only [if_true] at hmm; omega)
          obtain ⟨a, l, c, s, h5, h6, h7⟩ := open_piece h4
          obtain ⟨p, e1, _, wn⟩ := DataW.trod_int Tryz.underlying3 h3
          exact ⟨(a, l, c, s, p), fun _ => ⟨h5, h6, h7, by simpa using e1, wn⟩⟩
        · exact ⟨(none, 0, 0, [], 0), fun h => absurd h hi⟩
      exact ⟨fun i => (this i).choose.1, fun i => (this i).choose.2.1, fun i => (this i).choose.2.2.1, fun i => (this i).choose.2.2.2.1, fun i => (this i).choose.2.2.2.2, fun i hi => (this i).choose_spec hi⟩
    have hg : ∀ i, i < len → wr_ ((List.range len).map fun i => (p i, s i)) i = (p i, s i) := fun i hi => by simp [wr_, List.getD_eq_getElem?_getD, hi]
    refine ⟨_, len, cap, (List.range len).map fun i => (p i, s i), rfl, ⟨by simp, hl, hm, fun h0 => ?_⟩, fun hw i hi => ?_⟩
    · obtain ⟨b, off, spot⟩ := x
      have h00 := (hr 0 (by simp only [if_true] at hmm; omega)).1
      have hspot : spot = none := by simpa [Addr.add] using World.cell?_spot h00
      subst hspot
      have hadd : ∀ i, (⟨b, off, none⟩ : Addr).add i = ⟨b, off + i, none⟩ := fun i => by unfold Addr.add; split <;> simp_all
      refine ⟨b, off, rfl, ?_, fun i hi => ?_⟩
      · rw [hadd] at h00
        exact World.block_lt_of_cell? W _ h00
      · obtain ⟨h1, h2, _⟩ := hr i (by simp only [if_true] at hmm; omega)
        obtain ⟨e1, e2, _, e3, e4⟩ := hs i hi
        rw [hadd, e3] at h1
        rw [hadd, e1, ← Nat.add_assoc] at h2
        rw [hg i hi]
        refine ⟨e4, h1, A i, C i, ?_, ?_⟩
        · show _ = some (Value.slice (A i) (s i).length (C i))
          rw [e2.1]
          exact h2
        · show Bsl _ _ _ (s i).length _ _
          rw [e2.1]
          exact e2
    · have hi' : i < len := by simpa using hi
      rw [hg i hi']
      refine (hs i hi').2.2.1 fun n hn => hw n ?_
      simp only [DataW.weights, Tryz.underlying24]
      refine List.mem_cons_of_mem _ (List.mem_append_left _ (weights_of (d := .agg [D0 i, D1 i]) ?_ (List.mem_map.2 ⟨i, List.mem_range.2 hi', rfl⟩)))
      simp only [DataW.weights, Tryz.underlying91]
      simp only [DataW.weightsEach, List.map_cons, List.map_nil]
      exact List.mem_append_right _ (List.mem_append_left _ hn)
end Go.Proofs.YtbggkfomfeeikaaGreatDoor
/-
  What a store that came in by value is.
-/
namespace Go.Proofs.YtbggkfomfeeikaaGreatDoor
open Go.RowKit Go.Shelf Go.Joins Go.ChangeShapes Go.WideShapes Go.ChangeAt
set_option maxRecDepth 100000

/-- Two cells that read as a disk are one. -/
theorem disk_of_trod {H : Type} {enc : TypeId × Value → H} {W : World} {fuel : Nat} {cs : List Value} {y : DataW H × List MemPlace} (h : DataW.trod enc Tryz.prog W 0 (fun _ => true) true fuel 26 cs = some y) :
    ∃ (x : DAt) (D : DkL), cs = [.slice x.ba D.1.length x.bc, .slice x.wa D.2.length x.wc] ∧ Dsk W W.heap.size x D ∧ ((∀ n ∈ y.1.weights Tryz.prog 26, n ≤ reachBytes) → Near D) := by
  obtain ⟨f0, f1, hu, t0, t1, o0, o1⟩ : ∃ f0 f1 : Field, Tryz.prog.underlying 26 = some (.struct #[f0, f1]) ∧ f0.type = 23 ∧ f1.type = 24 ∧ f0.offset = 0 ∧ f1.offset = 1 := ⟨_, _, Tryz.underlying26, rfl, rfl, rfl, rfl⟩
  have cB : Tryz.prog.cellsOf 23 = 1 := by kernel_rfl
  have cW : Tryz.prog.cellsOf 24 = 1 := by kernel_rfl
  have cD : Tryz.prog.cellsOf 26 = 2 := by kernel_rfl
  obtain ⟨xs, k, hk, hxy, hcl, hxl, hf⟩ := DataW.trod_struct hu h
  rw [cD] at hcl
  match xs, hxl, cs, hcl with
  | [y0, y1], _, [v0, v1], _ =>
    have g0 := hf 0 f0 rfl
    have g1 := hf 1 f1 rfl
    simp [t0, t1, o0, o1, cB, cW] at g0 g1
    obtain ⟨ba, bn, bc, bl, rfl, hb, hb2⟩ := open_blocks g0
    obtain ⟨wa, wn, wc, ws, rfl, hs, hs2⟩ := open_writes g1
    obtain rfl := hb.1
    obtain rfl := hs.1
    refine ⟨⟨ba, bc, wa, wc⟩, (bl, ws), rfl, ⟨hb, hs⟩, fun hw => ?_⟩
    have hwt : ∀ n, n ∈ y0.1.weights Tryz.prog 23 ∨ n ∈ y1.1.weights Tryz.prog 24 → n ≤ reachBytes := fun n hn => hw n (by
      rw [hxy]
      simp only [List.map_cons, List.map_nil]
      simp only [DataW.weights, Tryz.underlying26]
      simp only [DataW.weightsEach, List.map_cons, List.map_nil]
      rcases hn with hn | hn
      · exact List.mem_append_left _ hn
      · exact List.mem_append_right _ (List.mem_append_left _ hn))
    exact ⟨hb2 fun n hn => hwt n (.inl hn), hs2 fun n hn => hwt n (.inr hn)⟩
/-- A store that came in by value. -/
theorem open_store {H : Type} {enc : TypeId × Value → H} {W : World} {r : Go.Reach} {b0 : Nat} {v : Value} {d : DataW H} {p : List MemPlace} (hv : Value.okWide Tryz.prog W r b0 30 v) (h : DataW.Trod enc Tryz.prog W 0 (fun _ => true) true 30 v d p)
    (hw : ∀ n ∈ d.weights Tryz.prog 30, n ≤ reachBytes) : ∃ x S, v = stV x S ∧ Str W W.heap.size x S ∧ Near S.1 ∧ WfS S := by
  obtain ⟨f0, f1, f2, f3, hu, t0, t1, t2, t3, o0, o1, o2, o3⟩ : ∃ f0 f1 f2 f3 : Field, Tryz.prog.underlying 30 = some (.struct #[f0, f1, f2, f3]) ∧ f0.type = 26 ∧ f1.type = 27 ∧ f2.type = 28 ∧ f3.type = 28 ∧ f0.offset = 0 ∧ f1.offset = 2 ∧ f2.offset = 3 ∧ f3.offset = 4 :=
    ⟨_, _, _, _, Tryz.underlying30, rfl, rfl, rfl, rfl, rfl, rfl, rfl, rfl⟩
  have cS : Tryz.prog.cellsOf 27 = 1 := by kernel_rfl
  have cU : Tryz.prog.cellsOf 28 = 1 := by kernel_rfl
  have cD : Tryz.prog.cellsOf 26 = 2 := by kernel_rfl
  have cT : Tryz.prog.cellsOf 30 = 5 := by kernel_rfl
  obtain ⟨cs, rfl, hsz⟩ := okWide_struct hu hv
  obtain ⟨fuel, hf⟩ := h
  obtain ⟨xs, k, hk, hxy, hcl, hxl, hg⟩ := DataW.trod_struct hu hf
  rw [cT] at hsz
  obtain ⟨c0, c1, c2, c3, c4, rfl⟩ : ∃ c0 c1 c2 c3 c4, cs = #[c0, c1, c2, c3, c4] := by
    obtain ⟨l⟩ := cs
    match l, hsz with
    | [a, b, c, d, e], _ => exact ⟨a, b, c, d, e, rfl⟩
  match xs, hxl with
  | [y0, y1, y2, y3], _ =>
    have g0 := hg 0 f0 rfl
    have g1 := hg 1 f1 rfl
    have g2 := hg 2 f2 rfl
    have g3 := hg 3 f3 rfl
    simp [t0, t1, t2, t3, o0, o1, o2, o3, cS, cU, cD, Value.cells] at g0 g1 g2 g3
    obtain ⟨x, D, hcs, hd, hn⟩ := disk_of_trod g0
    obtain ⟨a, len, cap, s, rfl, hs, _⟩ := open_piece g1
    obtain ⟨n2, e2, _, w2⟩ := DataW.trod_int Tryz.underlying28 g2
    obtain ⟨n3, e3, _, w3⟩ := DataW.trod_int Tryz.underlying28 g3
    have l2 : 0 ≤ n2 ∧ n2 ≤ 4294967295 := by simpa [Lit.wf, IntKind.min, IntKind.max, IntKind.signed, IntKind.bits] using w2
    have l3 : 0 ≤ n3 ∧ n3 ≤ 4294967295 := by simpa [Lit.wf, IntKind.min, IntKind.max, IntKind.signed, IntKind.bits] using w3
    obtain ⟨m2, rfl⟩ := Int.eq_ofNat_of_zero_le l2.1
    obtain ⟨m3, rfl⟩ := Int.eq_ofNat_of_zero_le l3.1
    obtain rfl : c3 = .int .u32 (m2 : Int) := by simpa using e2
    obtain rfl : c4 = .int .u32 (m3 : Int) := by simpa using e3
    obtain rfl := hs.1
    simp only [List.cons.injEq, and_true] at hcs
    obtain ⟨rfl, rfl⟩ := hcs
    refine ⟨⟨x, a, cap⟩, (D, s, m2, m3), rfl, ⟨hd, hs⟩, hn fun n hn' => hw n ?_, ⟨by show m2 < 4294967296; omega, by show m3 < 4294967296; omega⟩⟩
    have hdd : d = .agg [y0.1, y1.1, y2.1, y3.1] := by
      have := hxy
      simp only [Prod.mk.injEq] at this
      simpa using this.1
    rw [hdd]
    simp only [DataW.weights, Tryz.underlying30]
    simp only [DataW.weightsEach, List.map_cons, List.map_nil]
    exact List.mem_append_left _ hn'
end Go.Proofs.YtbggkfomfeeikaaGreatDoor
/-
  What layer 13's comparing statements need: how long the answers' lists are; stores that came in where blocks above them are written.
-/
namespace Go.Proofs.YtbggkfomfeeikaaGreatDoor
open Go.RowKit Go.Shelf
set_option maxRecDepth 100000

theorem Str.below {w w' : World} {B : Nat} {x : SAt} {S : StL} (h : Str w B x S) (k : Below B w w') : Str w' B x S := ⟨⟨h.1.1.below k, h.1.2.below k⟩, h.2.below k⟩
end Go.Proofs.YtbggkfomfeeikaaGreatDoor
