/-
  Texts of one seat, one behind the other.
-/
import Derived.Lib.SmallJoins
import Derived.Deep.Matrix
import Derived.Deep.SlicePairs
import Derived.ProofKit
import Derived.OpenShut
import Derived.Deep.Grids
import Derived.SizedLaws
import Derived.Test.YtjdjbonljohnbaaGreatDoorRows
import Derived.Test.YtjdjbonljohnbaaGreatDoorTie
import Derived.Test.YtjdjbonljohnbaaGreatDoorCards
import Derived.LaidMore
import Derived.Stop.Joined
import Derived.SevenTiedAt
import Derived.Test.YtjdjbonljohnbaaGreatDoorPkDB6
/-
  The document's own Loaded and Load of layer 16.
-/
namespace Go.Proofs.YtjdjbonljohnbaaGreatDoor
open Go.RowKit Go.Shelf
set_option maxRecDepth 100000

/-- A row that was seen, trimmed: what trowO says. -/
theorem trow_trim {S : StL} {p : Pt} {R : List Pt} (h : seenR S p = (R, 0)) : (trimD R = none ∧ trowO S p = ([], 8)) ∨ (trimD R = some (R.take (trimN R)) ∧ ((trimN R = 0 ∧ trowO S p = ([], 8)) ∨ (0 < trimN R ∧ trowO S p = (R.take (trimN R), 0)))) := by
  cases ht : trimD R with
  | none => exact .inl ⟨rfl, trow_none h (.inl ht)⟩
  | some t =>
    obtain ⟨e, _⟩ := trimD_some ht
    have hl := trimN_le R
    refine .inr ⟨by rw [e], ?_⟩
    by_cases h0 : trimN R = 0
    · refine .inl ⟨h0, trow_none h (.inr ?_)⟩
      rw [ht, e, h0]
      rfl
    · refine .inr ⟨by omega, ?_⟩
      rw [← e]
      exact trow_ok h ht (fun e2 => h0 (by rw [e2] at e; have := congrArg List.length e; rw [List.length_take] at this; simp only [List.length_nil] at this; omega))
set_option linter.unusedSimpArgs false in
set_option maxHeartbeats 16000000 in
theorem ruLoaded_any (L : Nat) (x : SAt) (S : StL) (p : Pt) (w : World) (h : StP L w x S) (hm : MayS S) (hmp : MayP p) (hL : L ≤ w.heap.size) : Calls Tryz.prog 31 #[stV x S, ptV p] w (OutLo (loadedO S p) w) := by
  have hmx : Tryz.prog.follows Departure.mixedOrders = true := by kernel_rfl
  obtain ⟨pa, pb, pi, pt, ps⟩ := p
  obtain ⟨w0, hw0, b0, z0, q1, q2⟩ := two_al w (stC x S) (ptA (pa, pb, pi, pt, ps)) 29 32
  obtain ⟨g, hg⟩ : ∃ g, w.heap.size = g := ⟨_, rfl⟩
  obtain ⟨g1, hg1⟩ : ∃ g1, g + 1 = g1 := ⟨_, rfl⟩
  rw [hg] at q1 q2
  rw [hg1] at q2
  have HX := Lib.hid q1
  have HQ := Lib.hid q2
  have HT := Lib.hid (h.bel b0)
  have HB := Lib.hid b0
  have HLW := Lib.hid (show L ≤ w0.heap.size from Nat.le_trans hL b0.size)
  simp only [stC, ptA] at hw0
  clear h b0 z0 q1 q2 hL
  have HMS := Lib.hid hm
  have HMP := Lib.hid hmp
  clear hm hmp
  by_cases hp0 : ((pa, pb, pi, pt, ps) : Pt) = p0
  · have hnn : eqP (pa, pb, pi, pt, ps) p0 = true := (eqP_iff _ _).2 hp0
    have HO := Lib.hid (show loadedO S (pa, pb, pi, pt, ps) = ([], [], 0) by unfold loadedO; rw [if_pos hp0])
    clear hp0
    have q0 := bx0 HQ.out
    have q1 := bx1 HQ.out
    have q2 := bx2 HQ.out
    have q3 := bx3 HQ.out
    have q4 := bx4 HQ.out
    go_enter Tryz.func31, Tryz.ntmps31
    go_wp2_with fail
    try rw [hw0]
    try rw [hg]
    try rw [hg1]
    clear hw0 hg hg1
    clear q0 q1 q2 q3 q4
    refine (rpNone_any (pa, pb, pi, pt, ps) w0).mono ?_
    rintro e w1 ⟨rfl, b1⟩
    replace HX := Lib.hid (HX.out.below b1 HX.out.lt)
    replace HQ := Lib.hid (HQ.out.below b1 HQ.out.lt)
    replace HT := Lib.hid (HT.out.bel b1)
    replace HB := Lib.hid (HB.out.trans (b1.mono HB.out.size))
    replace HLW := Lib.hid (Nat.le_trans HLW.out b1.size)
    clear b1
    rw [hnn]
    clear hnn
    go_wp2_with fail
    go_ret3
    rw [HO.out]
    exact outLo_no 0 HB.out
  · have hnn : eqP (pa, pb, pi, pt, ps) p0 = false := decide_eq_false hp0
    have HP0 := Lib.hid hp0
    rcases seenR_cases S (pa, pb, pi, pt, ps) with ⟨ee, hs, hn⟩ | ⟨R, hs, hl16, hwf, hmy⟩
    · have HO := Lib.hid (show loadedO S (pa, pb, pi, pt, ps) = ([], [], ee) by rw [loadedO_rows hp0 (trow_seen (S := S) (p := (pa, pb, pi, pt, ps)) (e := ee) (by rw [hs]) hn), if_pos hn])
      have e1 : ((ee : Int) != 0) = true := by simp; omega
      clear hp0
      have q0 := bx0 HQ.out
      have q1 := bx1 HQ.out
      have q2 := bx2 HQ.out
      have q3 := bx3 HQ.out
      have q4 := bx4 HQ.out
      go_enter Tryz.func31, Tryz.ntmps31
      go_wp2_with fail
      try rw [hw0]
      try rw [hg]
      try rw [hg1]
      clear hw0 hg hg1
      clear q0 q1 q2 q3 q4
      refine (rpNone_any (pa, pb, pi, pt, ps) w0).mono ?_
      rintro e w1 ⟨rfl, b1⟩
      replace HX := Lib.hid (HX.out.below b1 HX.out.lt)
      replace HQ := Lib.hid (HQ.out.below b1 HQ.out.lt)
      replace HT := Lib.hid (HT.out.bel b1)
      replace HB := Lib.hid (HB.out.trans (b1.mono HB.out.size))
      replace HLW := Lib.hid (Nat.le_trans HLW.out b1.size)
      clear b1
      rw [hnn]
      have hsn := ruSeen_any L x S (pa, pb, pi, pt, ps) w1 HT.out HMS.out HMP.out HLW.out
      rw [hs] at hsn
      have HSN := Lib.hid hsn
      clear hsn hnn
      have d0 := bx0 HX.out
      have d1 := bx1 HX.out
      have d2 := bx2 HX.out
      have d3 := bx3 HX.out
      have d4 := bx4 HX.out
      have q0 := bx0 HQ.out
      have q1 := bx1 HQ.out
      have q2 := bx2 HQ.out
      have q3 := bx3 HQ.out
      have q4 := bx4 HQ.out
      go_wp2_with fail
      clear d0 d1 d2 d3 d4
      clear q0 q1 q2 q3 q4
      refine HSN.out.mono ?_
      rintro e w2 ⟨a2, c2, rfl, ht2, hh2, b2⟩
      simp only at ht2
      replace HX := Lib.hid (HX.out.below b2 HX.out.lt)
      replace HQ := Lib.hid (HQ.out.below b2 HQ.out.lt)
      replace HT := Lib.hid (HT.out.bel b2)
      replace HB := Lib.hid (HB.out.trans (b2.mono HB.out.size))
      replace HLW := Lib.hid (Nat.le_trans HLW.out b2.size)
      clear b2 ht2 hh2 HSN hs hn
      go_wp2_with fail
      go_ret3
      rw [HO.out]
      exact outLo_no ee HB.out
    · rcases trow_trim hs with ⟨htd, htw⟩ | ⟨htd, ⟨hk, htw⟩ | ⟨hk, htw⟩⟩
      · have HO := Lib.hid (show loadedO S (pa, pb, pi, pt, ps) = ([], [], 8) by rw [loadedO_rows hp0 htw, if_pos (by decide)])
        clear hp0
        have q0 := bx0 HQ.out
        have q1 := bx1 HQ.out
        have q2 := bx2 HQ.out
        have q3 := bx3 HQ.out
        have q4 := bx4 HQ.out
        go_enter Tryz.func31, Tryz.ntmps31
        go_wp2_with fail
        try rw [hw0]
        try rw [hg]
        try rw [hg1]
        clear hw0 hg hg1
        clear q0 q1 q2 q3 q4
        refine (rpNone_any (pa, pb, pi, pt, ps) w0).mono ?_
        rintro e w1 ⟨rfl, b1⟩
        replace HX := Lib.hid (HX.out.below b1 HX.out.lt)
        replace HQ := Lib.hid (HQ.out.below b1 HQ.out.lt)
        replace HT := Lib.hid (HT.out.bel b1)
        replace HB := Lib.hid (HB.out.trans (b1.mono HB.out.size))
        replace HLW := Lib.hid (Nat.le_trans HLW.out b1.size)
        clear b1
        rw [hnn]
        have hsn := ruSeen_any L x S (pa, pb, pi, pt, ps) w1 HT.out HMS.out HMP.out HLW.out
        rw [hs] at hsn
        have HSN := Lib.hid hsn
        clear hsn hnn
        have d0 := bx0 HX.out
        have d1 := bx1 HX.out
        have d2 := bx2 HX.out
        have d3 := bx3 HX.out
        have d4 := bx4 HX.out
        have q0 := bx0 HQ.out
        have q1 := bx1 HQ.out
        have q2 := bx2 HQ.out
        have q3 := bx3 HQ.out
        have q4 := bx4 HQ.out
        go_wp2_with fail
        clear d0 d1 d2 d3 d4
        clear q0 q1 q2 q3 q4
        refine HSN.out.mono ?_
        rintro e w2 ⟨a2, c2, rfl, ht2, hh2, b2⟩
        simp only at ht2
        replace HX := Lib.hid (HX.out.below b2 HX.out.lt)
        replace HQ := Lib.hid (HQ.out.below b2 HQ.out.lt)
        replace HT := Lib.hid (HT.out.bel b2)
        replace HB := Lib.hid (HB.out.trans (b2.mono HB.out.size))
        replace HLW := Lib.hid (Nat.le_trans HLW.out b2.size)
        have e1 : (((0 : Nat) : Int) != 0) = false := rfl
        rw [hl16] at ht2
        have HTI := Lib.hid (ruTrim_any a2 16 c2 R w2 ht2 (by omega))
        have HT2 := Lib.hid ht2
        clear b2 ht2 hh2 HSN
        go_wp2_with fail
        refine HTI.out.mono ?_
        rintro e w3 ⟨b3, htr⟩
        replace HT2 := Lib.hid (HT2.out.step b3)
        replace HX := Lib.hid (HX.out.below b3 HX.out.lt)
        replace HQ := Lib.hid (HQ.out.below b3 HQ.out.lt)
        replace HT := Lib.hid (HT.out.bel b3)
        replace HB := Lib.hid (HB.out.trans (b3.mono HB.out.size))
        replace HLW := Lib.hid (Nat.le_trans HLW.out b3.size)
        clear b3
        rcases htr with ⟨h_, rfl⟩ | ⟨h_, rfl⟩
        rotate_left
        · exact absurd (h_.symm.trans htd) (by simp)
        clear h_ htd
        go_wp2_with fail
        go_ret3
        rw [HO.out]
        exact outLo_no 8 HB.out
      · have HO := Lib.hid (show loadedO S (pa, pb, pi, pt, ps) = ([], [], 8) by rw [loadedO_rows hp0 htw, if_pos (by decide)])
        clear hp0
        have q0 := bx0 HQ.out
        have q1 := bx1 HQ.out
        have q2 := bx2 HQ.out
        have q3 := bx3 HQ.out
        have q4 := bx4 HQ.out
        go_enter Tryz.func31, Tryz.ntmps31
        go_wp2_with fail
        try rw [hw0]
        try rw [hg]
        try rw [hg1]
        clear hw0 hg hg1
        clear q0 q1 q2 q3 q4
        refine (rpNone_any (pa, pb, pi, pt, ps) w0).mono ?_
        rintro e w1 ⟨rfl, b1⟩
        replace HX := Lib.hid (HX.out.below b1 HX.out.lt)
        replace HQ := Lib.hid (HQ.out.below b1 HQ.out.lt)
        replace HT := Lib.hid (HT.out.bel b1)
        replace HB := Lib.hid (HB.out.trans (b1.mono HB.out.size))
        replace HLW := Lib.hid (Nat.le_trans HLW.out b1.size)
        clear b1
        rw [hnn]
        have hsn := ruSeen_any L x S (pa, pb, pi, pt, ps) w1 HT.out HMS.out HMP.out HLW.out
        rw [hs] at hsn
        have HSN := Lib.hid hsn
        clear hsn hnn
        have d0 := bx0 HX.out
        have d1 := bx1 HX.out
        have d2 := bx2 HX.out
        have d3 := bx3 HX.out
        have d4 := bx4 HX.out
        have q0 := bx0 HQ.out
        have q1 := bx1 HQ.out
        have q2 := bx2 HQ.out
        have q3 := bx3 HQ.out
        have q4 := bx4 HQ.out
        go_wp2_with fail
        clear d0 d1 d2 d3 d4
        clear q0 q1 q2 q3 q4
        refine HSN.out.mono ?_
        rintro e w2 ⟨a2, c2, rfl, ht2, hh2, b2⟩
        simp only at ht2
        replace HX := Lib.hid (HX.out.below b2 HX.out.lt)
        replace HQ := Lib.hid (HQ.out.below b2 HQ.out.lt)
        replace HT := Lib.hid (HT.out.bel b2)
        replace HB := Lib.hid (HB.out.trans (b2.mono HB.out.size))
        replace HLW := Lib.hid (Nat.le_trans HLW.out b2.size)
        have e1 : (((0 : Nat) : Int) != 0) = false := rfl
        rw [hl16] at ht2
        have HTI := Lib.hid (ruTrim_any a2 16 c2 R w2 ht2 (by omega))
        have HT2 := Lib.hid ht2
        clear b2 ht2 hh2 HSN
        go_wp2_with fail
        refine HTI.out.mono ?_
        rintro e w3 ⟨b3, htr⟩
        replace HT2 := Lib.hid (HT2.out.step b3)
        replace HX := Lib.hid (HX.out.below b3 HX.out.lt)
        replace HQ := Lib.hid (HQ.out.below b3 HQ.out.lt)
        replace HT := Lib.hid (HT.out.bel b3)
        replace HB := Lib.hid (HB.out.trans (b3.mono HB.out.size))
        replace HLW := Lib.hid (Nat.le_trans HLW.out b3.size)
        clear b3
        rcases htr with ⟨h_, rfl⟩ | ⟨h_, rfl⟩
        · exact absurd (h_.symm.trans htd) (by simp)
        clear h_ htd
        rw [hk]
        go_wp2_with fail
        go_ret3
        rw [HO.out]
        exact outLo_no 8 HB.out
      · obtain ⟨rows, hrw⟩ : ∃ rows, R.take (trimN R) = rows := ⟨_, rfl⟩
        obtain ⟨n, hn⟩ : ∃ n, trimN R = n := ⟨_, rfl⟩
        have hnl := trimN_le R
        have hrl : rows.length = n := by rw [← hrw, List.length_take]; omega
        rw [hrw] at htw
        have HTW := Lib.hid htw
        clear hp0
        have q0 := bx0 HQ.out
        have q1 := bx1 HQ.out
        have q2 := bx2 HQ.out
        have q3 := bx3 HQ.out
        have q4 := bx4 HQ.out
        go_enter Tryz.func31, Tryz.ntmps31
        go_wp2_with fail
        try rw [hw0]
        try rw [hg]
        try rw [hg1]
        clear hw0 hg hg1
        clear q0 q1 q2 q3 q4
        refine (rpNone_any (pa, pb, pi, pt, ps) w0).mono ?_
        rintro e w1 ⟨rfl, b1⟩
        replace HX := Lib.hid (HX.out.below b1 HX.out.lt)
        replace HQ := Lib.hid (HQ.out.below b1 HQ.out.lt)
        replace HT := Lib.hid (HT.out.bel b1)
        replace HB := Lib.hid (HB.out.trans (b1.mono HB.out.size))
        replace HLW := Lib.hid (Nat.le_trans HLW.out b1.size)
        clear b1
        rw [hnn]
        have hsn := ruSeen_any L x S (pa, pb, pi, pt, ps) w1 HT.out HMS.out HMP.out HLW.out
        rw [hs] at hsn
        have HSN := Lib.hid hsn
        clear hsn hnn
        have d0 := bx0 HX.out
        have d1 := bx1 HX.out
        have d2 := bx2 HX.out
        have d3 := bx3 HX.out
        have d4 := bx4 HX.out
        have q0 := bx0 HQ.out
        have q1 := bx1 HQ.out
        have q2 := bx2 HQ.out
        have q3 := bx3 HQ.out
        have q4 := bx4 HQ.out
        go_wp2_with fail
        clear d0 d1 d2 d3 d4
        clear q0 q1 q2 q3 q4
        refine HSN.out.mono ?_
        rintro e w2 ⟨a2, c2, rfl, ht2, hh2, b2⟩
        simp only at ht2
        replace HX := Lib.hid (HX.out.below b2 HX.out.lt)
        replace HQ := Lib.hid (HQ.out.below b2 HQ.out.lt)
        replace HT := Lib.hid (HT.out.bel b2)
        replace HB := Lib.hid (HB.out.trans (b2.mono HB.out.size))
        replace HLW := Lib.hid (Nat.le_trans HLW.out b2.size)
        have e1 : (((0 : Nat) : Int) != 0) = false := rfl
        rw [hl16] at ht2
        have HTI := Lib.hid (ruTrim_any a2 16 c2 R w2 ht2 (by omega))
        have HT2 := Lib.hid ht2
        clear b2 ht2 hh2 HSN
        go_wp2_with fail
        refine HTI.out.mono ?_
        rintro e w3 ⟨b3, htr⟩
        replace HT2 := Lib.hid (HT2.out.step b3)
        replace HX := Lib.hid (HX.out.below b3 HX.out.lt)
        replace HQ := Lib.hid (HQ.out.below b3 HQ.out.lt)
        replace HT := Lib.hid (HT.out.bel b3)
        replace HB := Lib.hid (HB.out.trans (b3.mono HB.out.size))
        replace HLW := Lib.hid (Nat.le_trans HLW.out b3.size)
        clear b3
        rcases htr with ⟨h_, rfl⟩ | ⟨h_, rfl⟩
        · exact absurd (h_.symm.trans htd) (by simp)
        have htk := HT2.out.take (k := trimN R) (by omega)
        rw [hrw, hn] at htk
        rw [hn] at hk hnl ⊢
        have HR := Lib.hid htk
        have HN := Lib.hid hrl
        obtain ⟨br, or, ea, _⟩ := htk.cells 0 hk
        subst ea
        have hsub : ∀ q ∈ rows, MayP q ∧ WfP q ∧ q ≠ p0 := fun q hq => by
          obtain ⟨e_, hne_⟩ := trimD_some htd
          have hq2 := hq
          rw [← hrw] at hq2
          exact ⟨hmy q (List.mem_of_mem_take hq2), hwf q (List.mem_of_mem_take hq2), hne_ q hq2⟩
        have HSU := Lib.hid hsub
        have n0 : (0 : Int) ≤ (n : Int) := by omega
        have n16 : (n : Int) ≤ 16 := by omega
        have nz : ((n : Int) == 0) = false := by simp; omega
        clear h_ htd htk hrl hrw hn hnl hsub HTI HT2 htw hwf hmy hs
        go_wp2_with fail
        go_loopw [11, 12, 13] (fun v u i wr => ∃ (k : Nat) (l : List Pt), k ≤ n ∧ i = .int .i64 k ∧ loadTo S rows k = (l, 0) ∧ l.length ≤ 16 * k ∧ PRow wr w3.heap.size v l ∧ wr.ownsRow w3.heap.size 3 1 u k (valsN (blksD (rows.take k))) ∧ Below w3.heap.size w3 wr) (fun _ _ i _ => n - (intOf i).toNat)
        case atStart => exact ⟨0, [], Nat.zero_le _, rfl, rfl, Nat.zero_le _, prow_nil _ _, World.ownsRow_nil _ _ _ _, Below.refl _ _⟩
        case round =>
          obtain ⟨k, l, hkn, rfl, hlt, hll, hvo, huo, hbs⟩ := hrel
          have k0 : (0 : Int) ≤ k := by omega
          have HLT := Lib.hid hlt
          have HLL := Lib.hid hll
          have HV := Lib.hid hvo
          have HU := Lib.hid huo
          have HS := Lib.hid hbs
          have HXR := Lib.hid (HX.out.below HS.out HX.out.lt)
          have HTT := Lib.hid (HT.out.bel HS.out)
          have HRR := Lib.hid (HR.out.step HS.out)
          replace HLW := Lib.hid (Nat.le_trans HLW.out HS.out.size)
          clear hlt hll hvo huo hbs
          by_cases hkn2 : k < n
          · have k1 : (k : Int) < n := by omega
            have hkl : k < rows.length := by rw [HN.out]; exact hkn2
            have HKL := Lib.hid hkl
            obtain ⟨⟨ya, yb, yi, yt, ys⟩, hP⟩ : ∃ P, rows.getD k p0 = P := ⟨_, rfl⟩
            obtain ⟨hym, hyw, hy0⟩ := HSU.out (ya, yb, yi, yt, ys) (by rw [← hP, ddGetD hkl]; exact List.getElem_mem _)
            have HYM := Lib.hid hym
            have HY0 := Lib.hid hy0
            have HPE := Lib.hid hP
            clear hP hkl hym hyw hy0
            obtain ⟨⟨R2, ee⟩, hs2⟩ : ∃ o, seenR S (ya, yb, yi, yt, ys) = o := ⟨_, rfl⟩
            have HS2 := Lib.hid hs2
            go_wp2_with fail
            obtain ⟨wd, hwd⟩ : ∃ wd, wr.drew = wd := ⟨_, rfl⟩
            have bq : Below wr.heap.size wr wd := by rw [← hwd]; exact (Below.refl _ wr).drew
            replace HXR := Lib.hid (HXR.out.below bq HXR.out.lt)
            replace HTT := Lib.hid (HTT.out.bel bq)
            replace HU := Lib.hid (own_below HU.out bq)
            replace HS := Lib.hid (HS.out.trans (bq.mono HS.out.size))
            replace HRR := Lib.hid (HRR.out.step bq)
            replace HLW := Lib.hid (Nat.le_trans HLW.out bq.size)
            replace HV := Lib.hid (HV.out.below bq)
            have hwd0 := Below.refl wd.heap.size wd
            refine wpI_start (Below wd.heap.size wd) [0, 1, 2, 3, 4, 5, 6, 7, 8, 9, 10] hmx rfl hwd ?_
            clear hwd bq
            have hsn := ruSeen_any L x S (ya, yb, yi, yt, ys) wd HTT.out HMS.out HYM.out HLW.out
            rw [hs2] at hsn
            have HSN := Lib.hid hsn
            clear hsn hs2
            iterate 5 (
              refine wpI_read (v := ?_) hwd0 rfl (by kernel_rfl) (by kernel_rfl) (by kernel_rfl) (fun _ _ _ h => h) (.inl ⟨by rfl, ?_⟩) ?_
              rotate_left
              · intro X hX
                have d0 := bx0 (HXR.out.below hX HXR.out.lt)
                have d1 := bx1 (HXR.out.below hX HXR.out.lt)
                have d2 := bx2 (HXR.out.below hX HXR.out.lt)
                have d3 := bx3 (HXR.out.below hX HXR.out.lt)
                have d4 := bx4 (HXR.out.below hX HXR.out.lt)
                obtain ⟨_, _, ea, _, _, v0_, v1_, v2_, v3_, v4_⟩ := (HRR.out.step hX).cells k hkn2
                cases ea
                rw [HPE.out] at v0_ v1_ v2_ v3_ v4_
                simp only at v0_ v1_ v2_ v3_ v4_
                clear hX
                go_simp
                with_reducible rfl
              try simp only [Act.put, List.setIfInBounds_toArray, List.set_cons_zero, List.set_cons_succ])
            refine wpI_lone rfl (by kernel_rfl) (fun K hK => ?_)
            go_simp
            refine HSN.out.mono ?_
            rintro ev w5 ⟨a5, c5, rfl, ht5, hh5, b5⟩
            simp only at ht5
            replace HXR := Lib.hid (HXR.out.below b5 HXR.out.lt)
            replace HTT := Lib.hid (HTT.out.bel b5)
            replace HU := Lib.hid (own_below HU.out b5)
            replace HS := Lib.hid (HS.out.trans (b5.mono HS.out.size))
            replace HRR := Lib.hid (HRR.out.step b5)
            replace HLW := Lib.hid (Nat.le_trans HLW.out b5.size)
            replace HV := Lib.hid (HV.out.below b5)
            have HT5 := Lib.hid ht5
            have hs5 := b5
            refine hK _ _ hs5 ?_
            clear hK K b5 ht5 hh5 HSN hwd0
            try simp only [Act.put, List.setIfInBounds_toArray, List.set_cons_zero, List.set_cons_succ]
            iterate 5 (
              refine wpI_read (v := ?_) hs5 rfl (by kernel_rfl) (by kernel_rfl) (by kernel_rfl) (fun _ _ _ h => h) (.inl ⟨by rfl, ?_⟩) ?_
              rotate_left
              · intro X hX
                clear hX
                go_simp
                with_reducible rfl
              try simp only [Act.put, List.setIfInBounds_toArray, List.set_cons_zero, List.set_cons_succ])
            refine wpI_done (by kernel_rfl) ?_
            clear hs5
            rcases seenR_cases S (ya, yb, yi, yt, ys) with ⟨e2_, h2_, hn2⟩ | ⟨R3, h2_, hl3, _, _⟩
            · rw [HS2.out] at h2_
              injection h2_ with h21 h22
              subst h21 h22
              have hst := loadTo_step HLT.out (show trowO S (rows.getD k p0) = ([], ee) by rw [HPE.out]; exact (trow_seen (S := S) (p := (ya, yb, yi, yt, ys)) (e := ee) (by rw [HS2.out]) hn2))
              rw [if_pos hn2] at hst
              have hend : loadTo S rows rows.length = ([], ee) := by rw [loadTo_stop (i := k + 1) (by rw [hst]; exact hn2) (by have := HKL.out; omega), hst]
              have HO := Lib.hid (show loadedO S (pa, pb, pi, pt, ps) = ([], [], ee) by rw [loadedO_rows HP0.out HTW.out, if_neg (fun h => h rfl), hend, if_pos hn2])
              clear hst hend
              have e3 : ((ee : Int) != 0) = true := by simp; omega
              clear hn2
              have HBE := Lib.hid (HB.out.trans (HS.out.mono HB.out.size))
              go_wp2_with fail
              go_ret3
              rw [HO.out]
              exact outLo_no ee HBE.out
            · rw [HS2.out] at h2_
              injection h2_ with h21 h22
              subst h21 h22
              rw [hl3] at HT5
              rcases trow_trim HS2.out with ⟨htd2, htw2⟩ | ⟨htd2, ⟨hk2, htw2⟩ | ⟨hk2, htw2⟩⟩
              · have hst := loadTo_step HLT.out (show trowO S (rows.getD k p0) = ([], 8) by rw [HPE.out]; exact htw2)
                rw [if_pos (by decide)] at hst
                have hend : loadTo S rows rows.length = ([], 8) := by rw [loadTo_stop (i := k + 1) (by rw [hst]; exact (by decide)) (by have := HKL.out; omega), hst]
                have HO := Lib.hid (show loadedO S (pa, pb, pi, pt, ps) = ([], [], 8) by rw [loadedO_rows HP0.out HTW.out, if_neg (fun h => h rfl), hend, if_pos (by decide)])
                clear hst hend
                have HTI2 := Lib.hid (ruTrim_any a5 16 c5 R2 w5 HT5.out (by omega))
                have e3 : (((0 : Nat) : Int) != 0) = false := rfl
                go_wp2_with fail
                refine HTI2.out.mono ?_
                rintro ev w6 ⟨b6, htr2⟩
                replace HT5 := Lib.hid (HT5.out.step b6)
                replace HXR := Lib.hid (HXR.out.below b6 HXR.out.lt)
                replace HTT := Lib.hid (HTT.out.bel b6)
                replace HU := Lib.hid (own_below HU.out b6)
                replace HS := Lib.hid (HS.out.trans (b6.mono HS.out.size))
                replace HRR := Lib.hid (HRR.out.step b6)
                replace HLW := Lib.hid (Nat.le_trans HLW.out b6.size)
                replace HV := Lib.hid (HV.out.below b6)
                clear b6 HTI2
                rcases htr2 with ⟨h_, rfl⟩ | ⟨h_, rfl⟩
                rotate_left
                · exact absurd (h_.symm.trans htd2) (by simp)
                clear h_
                have HBE := Lib.hid (HB.out.trans (HS.out.mono HB.out.size))
                go_wp2_with fail
                go_ret3
                rw [HO.out]
                exact outLo_no 8 HBE.out
              · have hst := loadTo_step HLT.out (show trowO S (rows.getD k p0) = ([], 8) by rw [HPE.out]; exact htw2)
                rw [if_pos (by decide)] at hst
                have hend : loadTo S rows rows.length = ([], 8) := by rw [loadTo_stop (i := k + 1) (by rw [hst]; exact (by decide)) (by have := HKL.out; omega), hst]
                have HO := Lib.hid (show loadedO S (pa, pb, pi, pt, ps) = ([], [], 8) by rw [loadedO_rows HP0.out HTW.out, if_neg (fun h => h rfl), hend, if_pos (by decide)])
                clear hst hend
                have HTI2 := Lib.hid (ruTrim_any a5 16 c5 R2 w5 HT5.out (by omega))
                have e3 : (((0 : Nat) : Int) != 0) = false := rfl
                go_wp2_with fail
                refine HTI2.out.mono ?_
                rintro ev w6 ⟨b6, htr2⟩
                replace HT5 := Lib.hid (HT5.out.step b6)
                replace HXR := Lib.hid (HXR.out.below b6 HXR.out.lt)
                replace HTT := Lib.hid (HTT.out.bel b6)
                replace HU := Lib.hid (own_below HU.out b6)
                replace HS := Lib.hid (HS.out.trans (b6.mono HS.out.size))
                replace HRR := Lib.hid (HRR.out.step b6)
                replace HLW := Lib.hid (Nat.le_trans HLW.out b6.size)
                replace HV := Lib.hid (HV.out.below b6)
                clear b6 HTI2
                rcases htr2 with ⟨h_, rfl⟩ | ⟨h_, rfl⟩
                · exact absurd (h_.symm.trans htd2) (by simp)
                clear h_
                rw [hk2]
                have HBE := Lib.hid (HB.out.trans (HS.out.mono HB.out.size))
                go_wp2_with fail
                go_ret3
                rw [HO.out]
                exact outLo_no 8 HBE.out
              · obtain ⟨t, ht⟩ : ∃ t, R2.take (trimN R2) = t := ⟨_, rfl⟩
                obtain ⟨m, hm⟩ : ∃ m, trimN R2 = m := ⟨_, rfl⟩
                have hml := trimN_le R2
                have htl : t.length = m := by rw [← ht, List.length_take]; omega
                rw [ht] at htw2
                have hst := loadTo_step HLT.out (show trowO S (rows.getD k p0) = (t, 0) by rw [HPE.out]; exact htw2)
                rw [if_neg (fun h => h rfl)] at hst
                have HTI2 := Lib.hid (ruTrim_any a5 16 c5 R2 w5 HT5.out (by omega))
                have e3 : (((0 : Nat) : Int) != 0) = false := rfl
                go_wp2_with fail
                refine HTI2.out.mono ?_
                rintro ev w6 ⟨b6, htr2⟩
                replace HT5 := Lib.hid (HT5.out.step b6)
                replace HXR := Lib.hid (HXR.out.below b6 HXR.out.lt)
                replace HTT := Lib.hid (HTT.out.bel b6)
                replace HU := Lib.hid (own_below HU.out b6)
                replace HS := Lib.hid (HS.out.trans (b6.mono HS.out.size))
                replace HRR := Lib.hid (HRR.out.step b6)
                replace HLW := Lib.hid (Nat.le_trans HLW.out b6.size)
                replace HV := Lib.hid (HV.out.below b6)
                clear b6 HTI2
                rcases htr2 with ⟨h_, rfl⟩ | ⟨h_, rfl⟩
                · exact absurd (h_.symm.trans htd2) (by simp)
                clear h_
                have ht5 := HT5.out.take (k := trimN R2) (by omega)
                rw [ht, hm] at ht5
                rw [hm] at hk2 hml ⊢
                have HQ5 := Lib.hid ht5
                have m0 : (0 : Int) ≤ (m : Int) := by omega
                have m16 : m ≤ 16 := by omega
                have mz : ((m : Int) == 0) = false := by simp; omega
                clear ht5 ht hm hml HT5 htd2 htw2
                by_cases hsh : k + 1 < n ∧ m < 16
                · rw [if_pos (by rw [HN.out, htl]; exact hsh)] at hst
                  have hend : loadTo S rows rows.length = ([], 8) := by rw [loadTo_stop (i := k + 1) (by rw [hst]; decide) (by have := HKL.out; omega), hst]
                  have HO := Lib.hid (show loadedO S (pa, pb, pi, pt, ps) = ([], [], 8) by rw [loadedO_rows HP0.out HTW.out, if_neg (fun h => h rfl), hend, if_pos (by decide)])
                  have f0 : decide ((m : Int) < 16) = true := decide_eq_true (by omega)
                  have f1 : decide ((k : Int) + 1 < (n : Int)) = true := decide_eq_true (by omega)
                  clear hst hend hsh
                  have HBE := Lib.hid (HB.out.trans (HS.out.mono HB.out.size))
                  go_wp2_with fail
                  go_ret3
                  rw [HO.out]
                  exact outLo_no 8 HBE.out
                · rw [if_neg (by rw [HN.out, htl]; exact hsh)] at hst
                  have HST := Lib.hid hst
                  have HM := Lib.hid htl
                  have HLA := Lib.hid (show l.length + m ≤ 1000000 by have := HLL.out; omega)
                  clear hst
                  by_cases hkk : k + 1 < n
                  · have f0 : decide ((m : Int) < 16) = false := decide_eq_false (by omega)
                    have f1 : decide ((k : Int) + 1 < (n : Int)) = true := decide_eq_true (by omega)
                    clear hsh hkk
                    go_wp2_with (first
                      | (at_builtin
                         refine wpList_append_prow rfl (.tmp 83) (.tmp 84) rfl w3.heap.size _ l rfl HV.out _ a5 m c5 t rfl HQ5.out HLA.out HS.out.size ?_
                         intro v7 w7 hp7 hg7
                         have hud := own_keep HU.out (ty_dis HV.out HU.out) hg7
                         have hb7 := app_below HS.out HV.out.1 hg7 HS.out.size
                         obtain ⟨a7, c7, rfl, _⟩ := hp7.pts
                         obtain ⟨q7, hq7⟩ : ∃ q, (l ++ t).length = q := ⟨_, rfl⟩
                         have h7 := hp7
                         rw [hq7] at h7 ⊢
                         obtain ⟨_, _, ea, _, _, v0_, _, _, _, _⟩ := (HR.out.step hb7).cells k hkn2
                         cases ea
                         rw [HPE.out] at v0_
                         simp only at v0_
                         have hyn := at_nat HYM.out HY0.out
                         have hbb := (Below.refl w7.heap.size w7).alloc (Nat.le_refl _) (.cells #[.int .i64 ya] 3)
                         have HAV := Lib.hid (h7.below hbb)
                         have HAU := Lib.hid (own_below hud hbb)
                         have HAS := Lib.hid (hb7.trans (hbb.mono hb7.size))
                         have hon := one_nsl w7 ya.toNat
                         simp only at hyn
                         rw [hyn] at hon
                         have HON := Lib.hid hon
                         clear hp7 hg7 hud hb7 hbb hon hyn h7 hq7)
                      | (at_builtin
                         refine wpList_append_nsl rfl (.tmp 86) (.tmp 92) rfl w3.heap.size _ k _ rfl HAU.out _ _ 1 1 [ya.toNat] rfl HON.out (by omega) HAS.out.size ?_
                         intro v8 w8 hp8 hg8
                         have hvd := own_keep HAV.out.1 (ty_dis HAV.out HAU.out).symm hg8
                         have HV8 := Lib.hid (show PRow w8 w3.heap.size _ (l ++ t) from ⟨hvd, HAV.out.2⟩)
                         have HS8 := Lib.hid (app_below HAS.out HAU.out hg8 HAS.out.size)
                         have HU8 := Lib.hid hp8
                         clear hp8 hg8 hvd))
                    go_roundw
                    case rel =>
                      refine ⟨k + 1, l ++ t, by omega, by go_num, HST.out, by rw [List.length_append, HM.out]; have := HLL.out; omega, HV8.out, ?_, HS8.out⟩
                      rw [blksD_take HKL.out, HPE.out]
                      exact HU8.out
                    case measure => simp [intOf]; omega
                  · have f1 : decide ((k : Int) + 1 < (n : Int)) = false := decide_eq_false (by omega)
                    clear hsh hkk
                    go_wp2_with (first
                      | (at_builtin
                         refine wpList_append_prow rfl (.tmp 83) (.tmp 84) rfl w3.heap.size _ l rfl HV.out _ a5 m c5 t rfl HQ5.out HLA.out HS.out.size ?_
                         intro v7 w7 hp7 hg7
                         have hud := own_keep HU.out (ty_dis HV.out HU.out) hg7
                         have hb7 := app_below HS.out HV.out.1 hg7 HS.out.size
                         obtain ⟨a7, c7, rfl, _⟩ := hp7.pts
                         obtain ⟨q7, hq7⟩ : ∃ q, (l ++ t).length = q := ⟨_, rfl⟩
                         have h7 := hp7
                         rw [hq7] at h7 ⊢
                         obtain ⟨_, _, ea, _, _, v0_, _, _, _, _⟩ := (HR.out.step hb7).cells k hkn2
                         cases ea
                         rw [HPE.out] at v0_
                         simp only at v0_
                         have hyn := at_nat HYM.out HY0.out
                         have hbb := (Below.refl w7.heap.size w7).alloc (Nat.le_refl _) (.cells #[.int .i64 ya] 3)
                         have HAV := Lib.hid (h7.below hbb)
                         have HAU := Lib.hid (own_below hud hbb)
                         have HAS := Lib.hid (hb7.trans (hbb.mono hb7.size))
                         have hon := one_nsl w7 ya.toNat
                         simp only at hyn
                         rw [hyn] at hon
                         have HON := Lib.hid hon
                         clear hp7 hg7 hud hb7 hbb hon hyn h7 hq7)
                      | (at_builtin
                         refine wpList_append_nsl rfl (.tmp 86) (.tmp 92) rfl w3.heap.size _ k _ rfl HAU.out _ _ 1 1 [ya.toNat] rfl HON.out (by omega) HAS.out.size ?_
                         intro v8 w8 hp8 hg8
                         have hvd := own_keep HAV.out.1 (ty_dis HAV.out HAU.out).symm hg8
                         have HV8 := Lib.hid (show PRow w8 w3.heap.size _ (l ++ t) from ⟨hvd, HAV.out.2⟩)
                         have HS8 := Lib.hid (app_below HAS.out HAU.out hg8 HAS.out.size)
                         have HU8 := Lib.hid hp8
                         clear hp8 hg8 hvd))
                    go_roundw
                    case rel =>
                      refine ⟨k + 1, l ++ t, by omega, by go_num, HST.out, by rw [List.length_append, HM.out]; have := HLL.out; omega, HV8.out, ?_, HS8.out⟩
                      rw [blksD_take HKL.out, HPE.out]
                      exact HU8.out
                    case measure => simp [intOf]; omega
          · obtain rfl : k = n := by omega
            have htn : rows.take k = rows := List.take_of_length_le (by rw [HN.out]; exact Nat.le_refl _)
            have huo := HU.out
            rw [htn] at huo
            replace HU := Lib.hid huo
            have hld : loadedO S (pa, pb, pi, pt, ps) = if MayDL l then (l, blksD rows ++ [pa.toNat], 0) else ([], [], 8) := by
              rw [loadedO_rows HP0.out HTW.out, if_neg (fun h => h rfl), HN.out, HLT.out, if_neg (fun h => h rfl)]
            obtain ⟨av, cv, rfl, htv⟩ := HV.out.pts
            have HBE := Lib.hid (HB.out.trans (HS.out.mono HB.out.size))
            have HB3 := Lib.hid (show w.heap.size ≤ w3.heap.size from HB.out.size)
            clear huo htn hkn hkn2
            by_cases hmd : MayDL l
            · rw [if_pos hmd] at hld
              have HO := Lib.hid hld
              have HCK := Lib.hid (ruMay_any av l.length cv l wr htv true ⟨fun _ => hmd, fun _ => rfl⟩)
              clear hld hmd htv
              go_wp2_with fail
              refine HCK.out.mono ?_
              rintro ev w5 ⟨rfl, b5⟩
              replace HV := Lib.hid (HV.out.below b5)
              replace HU := Lib.hid (own_below HU.out b5)
              replace HS := Lib.hid (HS.out.trans (b5.mono HS.out.size))
              replace HBE := Lib.hid (HBE.out.trans (b5.mono HBE.out.size))
              clear b5 HCK
              have HQE := Lib.hid (HQ.out.below HS.out HQ.out.lt)
              have q0 := bx0 HQE.out
              have hyn := at_nat HMP.out HP0.out
              simp only at hyn
              have hbb := (Below.refl w5.heap.size w5).alloc (Nat.le_refl _) (.cells #[.int .i64 pa] 3)
              have HAV := Lib.hid (HV.out.below hbb)
              have HAU := Lib.hid (own_below HU.out hbb)
              have HAS := Lib.hid (HBE.out.trans (hbb.mono HBE.out.size))
              have HA2 := Lib.hid (HS.out.trans (hbb.mono HS.out.size))
              have hon := one_nsl w5 pa.toNat
              rw [hyn] at hon
              have HON := Lib.hid hon
              obtain ⟨au, cu, rfl⟩ := nrow_slice HU.out
              have HKK := Lib.hid (show k + 1 ≤ 100000 by omega)
              clear hbb hon hyn
              go_wp2_with (
                at_builtin
                refine wpList_append_nsl rfl (.tmp 98) (.tmp 101) rfl w3.heap.size _ k _ rfl HAU.out _ _ 1 1 [pa.toNat] rfl HON.out HKK.out HA2.out.size ?_
                intro v7 w7 hp7 hg7
                have hvd := own_keep HAV.out.1 (ty_dis HAV.out HAU.out).symm hg7
                have HV7 := Lib.hid (show PRow w7 w3.heap.size _ l from ⟨hvd, HAV.out.2⟩)
                have HS7 := Lib.hid (app_below HAS.out (own_mono HAU.out HB3.out) hg7 HAS.out.size)
                have HU7 := Lib.hid hp7
                obtain ⟨a7, c7, rfl⟩ := nrow_slice HU7.out
                clear hp7 hg7 hvd)
              clear q0
              go_ret3
              rw [HO.out]
              refine ⟨_, _, rfl, HV7.out.mono HB3.out, ?_, HS7.out⟩
              have hl : (blksD rows ++ [pa.toNat]).length = k + 1 := by rw [List.length_append, blksD_length, HN.out]; rfl
              show w7.ownsRow w.heap.size 3 1 _ (blksD rows ++ [pa.toNat]).length (valsN (blksD rows ++ [pa.toNat]))
              rw [hl]
              exact own_mono HU7.out HB3.out
            · rw [if_neg hmd] at hld
              have HO := Lib.hid hld
              have HCK := Lib.hid (ruMay_any av l.length cv l wr htv false ⟨fun h => (by cases h), fun h => absurd h hmd⟩)
              clear hld hmd htv
              go_wp2_with fail
              refine HCK.out.mono ?_
              rintro ev w5 ⟨rfl, b5⟩
              replace HBE := Lib.hid (HBE.out.trans (b5.mono HBE.out.size))
              clear b5 HCK
              go_wp2_with fail
              go_ret3
              rw [HO.out]
              exact outLo_no 8 HBE.out
end Go.Proofs.YtjdjbonljohnbaaGreatDoor
/-
  The document's own Load of layer 16.
-/
namespace Go.Proofs.YtjdjbonljohnbaaGreatDoor
open Go.RowKit Go.Shelf
set_option maxRecDepth 100000

theorem ruLoad_any (L : Nat) (x : SAt) (S : StL) (p : Pt) (w : World) (h : StP L w x S) (hL : L ≤ w.heap.size) : Calls Tryz.prog 9 #[stV x S, ptV p] w (OutLo (loadO S p) w) := by
  obtain ⟨pa, pb, pi, pt, ps⟩ := p
  obtain ⟨w0, hw0, b0, z0, q1, q2⟩ := two_al w (stC x S) (ptA (pa, pb, pi, pt, ps)) 29 32
  obtain ⟨g, hg⟩ : ∃ g, w.heap.size = g := ⟨_, rfl⟩
  obtain ⟨g1, hg1⟩ : ∃ g1, g + 1 = g1 := ⟨_, rfl⟩
  rw [hg] at q1 q2
  rw [hg1] at q2
  have HX := Lib.hid q1
  have HQ := Lib.hid q2
  have HT := Lib.hid (h.bel b0)
  have HB := Lib.hid b0
  have HLW := Lib.hid (show L ≤ w0.heap.size from Nat.le_trans hL b0.size)
  simp only [stC, ptA] at hw0
  clear h b0 z0 q1 q2 hL
  by_cases hm : MayS S
  · by_cases hmp : MayP (pa, pb, pi, pt, ps)
    · have HMY := Lib.hid (rtMay_any L x S w0 HT.out true ⟨fun _ => hm, fun _ => rfl⟩)
      have HO := Lib.hid (show loadO S (pa, pb, pi, pt, ps) = loadedO S (pa, pb, pi, pt, ps) by unfold loadO; rw [if_pos ⟨hm, hmp⟩])
      have HPM := Lib.hid (rpMay_any (pa, pb, pi, pt, ps))
      have hde : decide (MayP (pa, pb, pi, pt, ps)) = true := decide_eq_true hmp
      have HRW := Lib.hid (fun W hW hLW => ruLoaded_any L x S (pa, pb, pi, pt, ps) W hW hm hmp hLW)
      clear hm hmp
      have d0 := bx0 HX.out
      have d1 := bx1 HX.out
      have d2 := bx2 HX.out
      have d3 := bx3 HX.out
      have d4 := bx4 HX.out
      have q0 := bx0 HQ.out
      have q1 := bx1 HQ.out
      have q2 := bx2 HQ.out
      have q3 := bx3 HQ.out
      have q4 := bx4 HQ.out
      go_enter Tryz.func9, Tryz.ntmps9
      go_wp2_with fail
      try rw [hw0]
      try rw [hg]
      try rw [hg1]
      clear hw0 hg hg1
      clear d0 d1 d2 d3 d4
      clear q0 q1 q2 q3 q4
      refine HMY.out.mono ?_
      rintro e w1 ⟨rfl, b1⟩
      replace HX := Lib.hid (HX.out.below b1 HX.out.lt)
      replace HQ := Lib.hid (HQ.out.below b1 HQ.out.lt)
      replace HT := Lib.hid (HT.out.bel b1)
      replace HB := Lib.hid (HB.out.trans (b1.mono HB.out.size))
      replace HLW := Lib.hid (Nat.le_trans HLW.out b1.size)
      clear b1 HMY
      have q0 := bx0 HQ.out
      have q1 := bx1 HQ.out
      have q2 := bx2 HQ.out
      have q3 := bx3 HQ.out
      have q4 := bx4 HQ.out
      go_wp2_with fail
      clear q0 q1 q2 q3 q4
      refine (HPM.out w1).mono ?_
      rintro e w2 ⟨rfl, b2⟩
      replace HX := Lib.hid (HX.out.below b2 HX.out.lt)
      replace HQ := Lib.hid (HQ.out.below b2 HQ.out.lt)
      replace HT := Lib.hid (HT.out.bel b2)
      replace HB := Lib.hid (HB.out.trans (b2.mono HB.out.size))
      replace HLW := Lib.hid (Nat.le_trans HLW.out b2.size)
      rw [hde]
      clear b2 HPM hde
      have d0 := bx0 HX.out
      have d1 := bx1 HX.out
      have d2 := bx2 HX.out
      have d3 := bx3 HX.out
      have d4 := bx4 HX.out
      have q0 := bx0 HQ.out
      have q1 := bx1 HQ.out
      have q2 := bx2 HQ.out
      have q3 := bx3 HQ.out
      have q4 := bx4 HQ.out
      go_wp2_with fail
      clear d0 d1 d2 d3 d4
      clear q0 q1 q2 q3 q4
      refine (HRW.out w2 HT.out HLW.out).mono ?_
      rintro e w3 ⟨v, u, rfl, hv, hu, b3⟩
      have HB1 := Lib.hid (show w.heap.size ≤ w2.heap.size from HB.out.size)
      replace HX := Lib.hid (HX.out.below b3 HX.out.lt)
      replace HQ := Lib.hid (HQ.out.below b3 HQ.out.lt)
      replace HT := Lib.hid (HT.out.bel b3)
      replace HB := Lib.hid (HB.out.trans (b3.mono HB.out.size))
      replace HLW := Lib.hid (Nat.le_trans HLW.out b3.size)
      clear b3 HRW
      go_wp2_with fail
      go_ret3
      rw [HO.out]
      exact ⟨_, _, rfl, hv.mono HB1.out, own_mono hu HB1.out, HB.out⟩
    · have HMY := Lib.hid (rtMay_any L x S w0 HT.out true ⟨fun _ => hm, fun _ => rfl⟩)
      have HO := Lib.hid (show loadO S (pa, pb, pi, pt, ps) = ([], [], 8) by unfold loadO; rw [if_neg fun h => hmp h.2])
      have HPM := Lib.hid (rpMay_any (pa, pb, pi, pt, ps))
      have hde : decide (MayP (pa, pb, pi, pt, ps)) = false := decide_eq_false hmp
      clear hm hmp
      have d0 := bx0 HX.out
      have d1 := bx1 HX.out
      have d2 := bx2 HX.out
      have d3 := bx3 HX.out
      have d4 := bx4 HX.out
      have q0 := bx0 HQ.out
      have q1 := bx1 HQ.out
      have q2 := bx2 HQ.out
      have q3 := bx3 HQ.out
      have q4 := bx4 HQ.out
      go_enter Tryz.func9, Tryz.ntmps9
      go_wp2_with fail
      try rw [hw0]
      try rw [hg]
      try rw [hg1]
      clear hw0 hg hg1
      clear d0 d1 d2 d3 d4
      clear q0 q1 q2 q3 q4
      refine HMY.out.mono ?_
      rintro e w1 ⟨rfl, b1⟩
      replace HX := Lib.hid (HX.out.below b1 HX.out.lt)
      replace HQ := Lib.hid (HQ.out.below b1 HQ.out.lt)
      replace HT := Lib.hid (HT.out.bel b1)
      replace HB := Lib.hid (HB.out.trans (b1.mono HB.out.size))
      replace HLW := Lib.hid (Nat.le_trans HLW.out b1.size)
      clear b1 HMY
      have q0 := bx0 HQ.out
      have q1 := bx1 HQ.out
      have q2 := bx2 HQ.out
      have q3 := bx3 HQ.out
      have q4 := bx4 HQ.out
      go_wp2_with fail
      clear q0 q1 q2 q3 q4
      refine (HPM.out w1).mono ?_
      rintro e w2 ⟨rfl, b2⟩
      replace HX := Lib.hid (HX.out.below b2 HX.out.lt)
      replace HQ := Lib.hid (HQ.out.below b2 HQ.out.lt)
      replace HT := Lib.hid (HT.out.bel b2)
      replace HB := Lib.hid (HB.out.trans (b2.mono HB.out.size))
      replace HLW := Lib.hid (Nat.le_trans HLW.out b2.size)
      rw [hde]
      clear b2 HPM hde
      go_wp2_with fail
      go_ret3
      rw [HO.out]
      exact outLo_no 8 HB.out
  · have HMY := Lib.hid (rtMay_any L x S w0 HT.out false ⟨fun h => (by cases h), fun h => absurd h hm⟩)
    have HO := Lib.hid (show loadO S (pa, pb, pi, pt, ps) = ([], [], 8) by unfold loadO; rw [if_neg fun h => hm h.1])
    clear hm
    have d0 := bx0 HX.out
    have d1 := bx1 HX.out
    have d2 := bx2 HX.out
    have d3 := bx3 HX.out
    have d4 := bx4 HX.out
    have q0 := bx0 HQ.out
    have q1 := bx1 HQ.out
    have q2 := bx2 HQ.out
    have q3 := bx3 HQ.out
    have q4 := bx4 HQ.out
    go_enter Tryz.func9, Tryz.ntmps9
    go_wp2_with fail
    try rw [hw0]
    try rw [hg]
    try rw [hg1]
    clear hw0 hg hg1
    clear d0 d1 d2 d3 d4
    clear q0 q1 q2 q3 q4
    refine HMY.out.mono ?_
    rintro e w1 ⟨rfl, b1⟩
    replace HX := Lib.hid (HX.out.below b1 HX.out.lt)
    replace HQ := Lib.hid (HQ.out.below b1 HQ.out.lt)
    replace HT := Lib.hid (HT.out.bel b1)
    replace HB := Lib.hid (HB.out.trans (b1.mono HB.out.size))
    replace HLW := Lib.hid (Nat.le_trans HLW.out b1.size)
    clear b1 HMY
    go_wp2_with fail
    go_ret3
    rw [HO.out]
    exact outLo_no 8 HB.out
end Go.Proofs.YtjdjbonljohnbaaGreatDoor
/-
  What a pointer that came in by value is; what a slice of pointers that came in is.
-/
namespace Go.Proofs.YtjdjbonljohnbaaGreatDoor
open Go.RowKit Go.Shelf Go.Joins Go.ChangeShapes Go.WideShapes Go.ChangeAt
set_option maxRecDepth 100000

theorem u32_wf {n : Int} (h : (Lit.int .u32 n).wf = true) : ∃ m : Nat, n = (m : Int) ∧ m < 4294967296 := by
  simp [Lit.wf, IntKind.min, IntKind.max, IntKind.signed, IntKind.bits] at h
  exact ⟨n.toNat, by omega, by omega⟩
theorem i64_wf {n : Int} (h : (Lit.int .i64 n).wf = true) : -9223372036854775808 ≤ n ∧ n ≤ 9223372036854775807 := by
  simpa [Lit.wf, IntKind.min, IntKind.max, IntKind.signed, IntKind.bits] using h
/-- Five cells that read as a pointer are one. -/
theorem pt_of_trod {H : Type} {enc : TypeId × Value → H} {W : World} {fuel : Nat} {cs : List Value} {x : DataW H × List MemPlace} (h : DataW.trod enc Tryz.prog W 0 (fun _ => true) true fuel 32 cs = some x) : ∃ p, WfP p ∧ cs = ptC p := by
  obtain ⟨f0, f1, f2, f3, f4, hu, t0, t1, t2, t3, t4, o0, o1, o2, o3, o4⟩ : ∃ f0 f1 f2 f3 f4 : Field, Tryz.prog.underlying 32 = some (.struct #[f0, f1, f2, f3, f4]) ∧ f0.type = 3 ∧ f1.type = 27 ∧ f2.type = 27 ∧ f3.type = 27 ∧ f4.type = 27 ∧ f0.offset = 0 ∧ f1.offset = 1 ∧ f2.offset = 2 ∧ f3.offset = 3 ∧ f4.offset = 4 :=
    ⟨_, _, _, _, _, Tryz.underlying32, rfl, rfl, rfl, rfl, rfl, rfl, rfl, rfl, rfl, rfl⟩
  have cI : Tryz.prog.cellsOf 3 = 1 := by kernel_rfl
  have cU : Tryz.prog.cellsOf 27 = 1 := by kernel_rfl
  have cP : Tryz.prog.cellsOf 32 = 5 := by kernel_rfl
  obtain ⟨xs, k, hk, hxy, hcl, hxl, hf⟩ := DataW.trod_struct hu h
  rw [cP] at hcl
  match xs, hxl, cs, hcl with
  | [y0, y1, y2, y3, y4], _, [v0, v1, v2, v3, v4], _ =>
    have g0 := hf 0 f0 rfl
    have g1 := hf 1 f1 rfl
    have g2 := hf 2 f2 rfl
    have g3 := hf 3 f3 rfl
    have g4 := hf 4 f4 rfl
    simp [t0, t1, t2, t3, t4, o0, o1, o2, o3, o4, cI, cU] at g0 g1 g2 g3 g4
    obtain ⟨n0, e0, _, w0⟩ := DataW.trod_int Tryz.underlying3 g0
    obtain ⟨n1, e1, _, w1⟩ := DataW.trod_int Tryz.underlying27 g1
    obtain ⟨n2, e2, _, w2⟩ := DataW.trod_int Tryz.underlying27 g2
    obtain ⟨n3, e3, _, w3⟩ := DataW.trod_int Tryz.underlying27 g3
    obtain ⟨n4, e4, _, w4⟩ := DataW.trod_int Tryz.underlying27 g4
    obtain ⟨m1, rfl, l1⟩ := u32_wf w1
    obtain ⟨m2, rfl, l2⟩ := u32_wf w2
    obtain ⟨m3, rfl, l3⟩ := u32_wf w3
    obtain ⟨m4, rfl, l4⟩ := u32_wf w4
    refine ⟨(n0, m1, m2, m3, m4), ⟨i64_wf w0, l1, l2, l3, l4⟩, ?_⟩
    simp at e0 e1 e2 e3 e4
    rw [e0, e1, e2, e3, e4]
    rfl
/-- A pointer that came in by value. -/
theorem open_ptr {H : Type} {enc : TypeId × Value → H} {W : World} {r : Go.Reach} {b0 : Nat} {v : Value} {d : DataW H} {p : List MemPlace} (hv : Value.okWide Tryz.prog W r b0 32 v) (h : DataW.Trod enc Tryz.prog W 0 (fun _ => true) true 32 v d p) :
    ∃ q, v = ptV q ∧ WfP q := by
  obtain ⟨cs, rfl, hsz⟩ := okWide_struct Tryz.underlying32 hv
  obtain ⟨fuel, hf⟩ := h
  obtain ⟨q, hw, hq⟩ := pt_of_trod hf
  refine ⟨q, ?_, hw⟩
  have : cs = (ptC q).toArray := by
    rw [← hq]
    simp [Value.cells]
  rw [this]
  rfl
/-- A cell that reads as a slice of pointers. -/
theorem open_pts {H : Type} {enc : TypeId × Value → H} {W : World} {fuel : Nat} {v : Value} {y : DataW H × List MemPlace} (hf : DataW.trod enc Tryz.prog W 0 (fun _ => true) true fuel 30 [v] = some y) : ∃ a len cap L, v = .slice a len cap ∧ Pts W W.heap.size a len cap L := by
  have cP : Tryz.prog.cellsOf 32 = 5 := by kernel_rfl
  rcases Go.Deep.open_slice Tryz.underlying30 hf with ⟨hcs, _⟩ | ⟨x, len, cap, m, n, D, Pl, hcs, _, hl, hm, hmm, _, hr⟩
  · obtain rfl : v = .slice none 0 0 := by simpa using hcs
    exact ⟨none, 0, 0, [], rfl, pts_nil _ _⟩
  · obtain rfl : v = .slice (some x) len cap := by simpa using hcs
    refine ⟨some x, len, cap, ?_⟩
    suffices h : ∃ L, Pts W W.heap.size (some x) len cap L by
      obtain ⟨L, hL⟩ := h
      exact ⟨L, rfl, hL⟩
    rw [cP] at hr
    have hlm : len ≤ m := by simp only [if_true] at hmm; omega
    obtain ⟨q, hq⟩ : ∃ q : Nat → Pt, ∀ i, i < len → WfP (q i) ∧ W.cells? 0 (x.add (i * 5)) 5 = some (ptC (q i)) := by
      have : ∀ i, ∃ p : Pt, i < len → WfP p ∧ W.cells? 0 (x.add (i * 5)) 5 = some (ptC p) := fun i => by
        by_cases hi : i < len
        · obtain ⟨cs, h1, h2⟩ := hr i (by omega)
          obtain ⟨p, hw, rfl⟩ := pt_of_trod h2
          exact ⟨p, fun _ => ⟨hw, h1⟩⟩
        · exact ⟨p0, fun h => absurd h hi⟩
      exact ⟨fun i => (this i).choose, fun i hi => (this i).choose_spec hi⟩
    refine ⟨(List.range len).map q, by simp, hl, hm, fun e => (by cases e), fun h0 => ?_⟩
    obtain ⟨b, off, spot⟩ := x
    obtain ⟨_, _, hcell0⟩ := World.cells?_some (hq 0 h0).2
    have h00 := hcell0 0 (by omega)
    have hspot : spot = none := by
      have h1 : W.cell? ((Addr.mk b off spot).add (0 * 5) |>.add 0) = some (.int .i64 (q 0).1) := by rw [h00]; rfl
      simpa [Addr.add] using World.cell?_spot h1
    subst hspot
    have hadd : ∀ i, (⟨b, off, none⟩ : Addr).add i = ⟨b, off + i, none⟩ := fun i => by unfold Addr.add; split <;> simp_all
    have hadd2 : ∀ i j, ((⟨b, off, none⟩ : Addr).add i).add j = ⟨b, off + i + j, none⟩ := fun i j => by rw [hadd]; unfold Addr.add; split <;> simp_all
    refine ⟨b, off, rfl, ?_, fun i hi => ?_⟩
    · have h1 : W.cell? ⟨b, off + 0 * 5 + 0, none⟩ = some (.int .i64 (q 0).1) := by rw [← hadd2, h00]; rfl
      exact World.block_lt_of_cell? W _ h1
    · have hi' : i < len := by simpa using hi
      have hg : ((List.range len).map q)[i] = q i := by simp
      rw [hg]
      refine ⟨(hq i hi').1, fun j u hu => ?_⟩
      obtain ⟨_, hcl, hcell⟩ := World.cells?_some (hq i hi').2
      have hj : j < 5 := by
        rcases Nat.lt_or_ge j (ptC (q i)).length with hj | hj
        · exact hj
        · rw [List.getElem?_eq_none hj] at hu; cases hu
      have := hcell j hj
      rw [hadd2] at this
      rw [this]
      exact hu
/-- A slice of pointers that came in. -/
theorem open_ptrs {H : Type} {enc : TypeId × Value → H} {W : World} {a : Option Addr} {len cap : Nat} {d : DataW H} {p : List MemPlace} (h : DataW.Trod enc Tryz.prog W 0 (fun _ => true) true 30 (.slice a len cap) d p) : ∃ L, Pts W W.heap.size a len cap L := by
  obtain ⟨fuel, hf⟩ := h
  have e : (Value.slice a len cap).cells.toList = [.slice a len cap] := by simp [Value.cells]
  rw [e] at hf
  obtain ⟨a', l', c', L, hv, hL⟩ := open_pts hf
  injection hv with h1 h2 h3
  subst h1 h2 h3
  exact ⟨L, hL⟩
end Go.Proofs.YtjdjbonljohnbaaGreatDoor
/-
  What layer 13's comparing statements need: how long the answers' lists are; stores that came in where blocks above them are written.
-/
namespace Go.Proofs.YtjdjbonljohnbaaGreatDoor
open Go.RowKit Go.Shelf
set_option maxRecDepth 100000

theorem Str.below {w w' : World} {B : Nat} {x : SAt} {S : StL} (h : Str w B x S) (k : Below B w w') : Str w' B x S := ⟨⟨h.1.1.below k, h.1.2.below k⟩, h.2.below k⟩
/-- No list of a store is long. -/
def FewS (T : StL) : Prop := T.1.1.length ≤ 1000000 ∧ T.1.2.length ≤ 1000000 ∧ T.2.1.length ≤ 1000000
theorem few_st0 : FewS st0 := ⟨Nat.zero_le _, Nat.zero_le _, Nat.zero_le _⟩
theorem few_may {T : StL} (h : MayS T) : FewS T := ⟨by rw [h.1.1.1]; omega, Nat.le_trans h.1.2.1 (by omega), by rw [h.2.1.1]; omega⟩
theorem eqP_lit (a : Int) (b c d e : Nat) (W : World) : (Op.equalIn 10000 32 (.agg #[.int .i64 a, .int .u32 (b : Int), .int .u32 (c : Int), .int .u32 (d : Int), .int .u32 (e : Int)]) (.agg #[.int .i64 a, .int .u32 (b : Int), .int .u32 (c : Int), .int .u32 (d : Int), .int .u32 (e : Int)])).run Tryz.prog W = .ok true W := by
  have := eqPt_lit a b c d e a b c d e W
  rw [(eqP_iff _ _).2 rfl] at this
  exact this
end Go.Proofs.YtjdjbonljohnbaaGreatDoor
/-
  What space's calls and the document's own answer alike.
-/
namespace Go.Proofs.YtjdjbonljohnbaaGreatDoor
open Go.RowKit Go.Shelf
set_option maxRecDepth 100000

theorem ownN_nsl {w : World} {B n cap : Nat} {a : Option Addr} {s : List Nat} (h : w.ownsRow B 3 1 (.slice a n cap) n (valsN s)) : Nsl w w.heap.size a n cap s := by
  have hl : s.length = n := by have := h.1; simpa [valsN] using this
  rcases Nat.eq_zero_or_pos n with h0 | h0
  · obtain ⟨h1, ⟨h2, h3⟩ | ⟨g, cap', cur, h2, hb, hh, hnc, hcm, hsz, ht⟩⟩ := h
    · cases h2
      exact ⟨hl, Nat.le_refl _, Nat.zero_le _, fun _ => rfl, fun h => absurd h (by omega)⟩
    · cases h2
      exact ⟨hl, hnc, hcm, fun e => (by cases e), fun h => absurd h (by omega)⟩
  · obtain ⟨g, c, e, _, _, hN⟩ := nsl_of_own h h0
    cases e
    exact hN
end Go.Proofs.YtjdjbonljohnbaaGreatDoor
/-
  What a disk that came in by value is; what a slice of marks that came in is.
-/
namespace Go.Proofs.YtjdjbonljohnbaaGreatDoor
open Go.RowKit Go.Shelf Go.Joins Go.ChangeShapes Go.WideShapes Go.ChangeAt
set_option maxRecDepth 100000

theorem weights_of {H : Type} {P : Program} {e : TypeId} {d : DataW H} {n : Nat} (hn : n ∈ d.weights P e) : ∀ {l : List (DataW H)}, d ∈ l → n ∈ DataW.weightsAll P e l
  | [], h => by cases h
  | x :: l, h => by
    unfold DataW.weightsAll
    rcases List.mem_cons.1 h with rfl | h
    · exact List.mem_append_left _ hn
    · exact List.mem_append_right _ (weights_of hn h)
/-- A slice of bytes that came in, and how long it may be. -/
theorem open_piece {H : Type} {enc : TypeId × Value → H} {W : World} {fuel : Nat} {v : Value} {y : DataW H × List MemPlace} (hf : DataW.trod enc Tryz.prog W 0 (fun _ => true) true fuel 26 [v] = some y) :
    ∃ a len cap s, v = .slice a len cap ∧ Bsl W W.heap.size a len cap s ∧ ((∀ n ∈ y.1.weights Tryz.prog 26, n ≤ reachBytes) → s.length ≤ reachBytes) := by
  have hb : Tryz.prog.bytesOf 5 = 1 := by kernel_rfl
  rcases open_ints Tryz.underlying26 Tryz.underlying5 (by kernel_rfl) hf with ⟨hcs, rfl⟩ | ⟨x, l, c, zs, hcs, _, hl, hm, hz, rfl, hcell, hwz⟩
  · obtain rfl : v = .slice none 0 0 := by simpa using hcs
    exact ⟨none, 0, 0, _, rfl, bsl_of_row (.inl ⟨rfl, rfl, rfl, rfl⟩), fun _ => Nat.zero_le _⟩
  · obtain rfl : v = .slice (some x) l c := by simpa using hcs
    have hz' : zs.length = c := by simpa using hz
    refine ⟨_, l, c, _, rfl, bsl_of_row (.inr ⟨x, rfl, hl, hm, hz', hcell, hwz⟩), fun hw => ?_⟩
    have := hw ((lits (H := H) .u8 (zs.take l)).length + (lits (H := H) .u8 (zs.drop l)).length) (by
      simp only [DataW.weights, Tryz.underlying26, hb, Nat.mul_one]
      exact List.mem_cons_self ..)
    simp only [lits, List.length_map, List.length_take, List.length_drop] at this ⊢
    omega
/-- A slice of slices of bytes that came in. -/
theorem open_blocks {H : Type} {enc : TypeId × Value → H} {W : World} {fuel : Nat} {v : Value} {y : DataW H × List MemPlace} (hf : DataW.trod enc Tryz.prog W 0 (fun _ => true) true fuel 22 [v] = some y) :
    ∃ a len cap bl, v = .slice a len cap ∧ Bls W W.heap.size a len cap bl ∧ ((∀ n ∈ y.1.weights Tryz.prog 22, n ≤ reachBytes) → ∀ i, i < bl.length → (bl.getD i []).length ≤ reachBytes) := by
  rcases Go.Deep.open_slice1 Tryz.underlying22 (by kernel_rfl) hf with ⟨hcs, rfl⟩ | ⟨x, len, cap, m, n, V, D, Pl, hcs, _, hl, hm, hmm, rfl, hr⟩
  · obtain rfl : v = .slice none 0 0 := by simpa using hcs
    exact ⟨none, 0, 0, [], rfl, bls_nil _ _, fun _ i hi => absurd hi (Nat.not_lt_zero _)⟩
  · obtain rfl : v = .slice (some x) len cap := by simpa using hcs
    obtain ⟨A, L, C, s, hs⟩ : ∃ (A : Nat → Option Addr) (L C : Nat → Nat) (s : Nat → List UInt8), ∀ i, i < len → V i = .slice (A i) (L i) (C i) ∧ Bsl W W.heap.size (A i) (L i) (C i) (s i) ∧ ((∀ n ∈ (D i).weights Tryz.prog 26, n ≤ reachBytes) → (s i).length ≤ reachBytes) := by
      have : ∀ i, ∃ q : Option Addr × Nat × Nat × List UInt8, i < len → V i = .slice q.1 q.2.1 q.2.2.1 ∧ Bsl W W.heap.size q.1 q.2.1 q.2.2.1 q.2.2.2 ∧ ((∀ n ∈ (D i).weights Tryz.prog 26, n ≤ reachBytes) → q.2.2.2.length ≤ reachBytes) := fun i => by
        by_cases hi : i < len
        · obtain ⟨a, l, c, s, h1, h2, h3⟩ := open_piece (hr i (by simp only [if_true] at hmm; omega)).2
          exact ⟨(a, l, c, s), fun _ => ⟨h1, h2, h3⟩⟩
        · exact ⟨(none, 0, 0, []), fun h => absurd h hi⟩
      exact ⟨fun i => (this i).choose.1, fun i => (this i).choose.2.1, fun i => (this i).choose.2.2.1, fun i => (this i).choose.2.2.2, fun i hi => (this i).choose_spec hi⟩
    have hg : ∀ i, i < len → ((List.range len).map s).getD i [] = s i := fun i hi => by simp [List.getD_eq_getElem?_getD, hi]
    refine ⟨_, len, cap, (List.range len).map s, rfl, ⟨by simp, hl, hm, fun h0 => ?_⟩, fun hw i hi => ?_⟩
    · obtain ⟨b, off, spot⟩ := x
      have h00 := (hr 0 (by simp only [if_true] at hmm; omega)).1
      have hspot : spot = none := by simpa [Addr.add] using World.cell?_spot h00
      subst hspot
      have hadd : ∀ i, (⟨b, off, none⟩ : Addr).add i = ⟨b, off + i, none⟩ := fun i => by unfold Addr.add; split <;> simp_all
      refine ⟨b, off, rfl, ?_, fun i hi => ?_⟩
      · rw [hadd] at h00
        exact World.block_lt_of_cell? W _ h00
      · have h1 := (hr i (by simp only [if_true] at hmm; omega)).1
        obtain ⟨e1, e2, _⟩ := hs i hi
        rw [hadd, e1] at h1
        rw [hg i hi, e2.1]
        exact ⟨A i, C i, h1, e2⟩
    · have hi' : i < len := by simpa using hi
      rw [hg i hi']
      refine (hs i hi').2.2 fun n hn => hw n ?_
      simp only [DataW.weights, Tryz.underlying22]
      exact List.mem_cons_of_mem _ (List.mem_append_left _ (weights_of hn (List.mem_map.2 ⟨i, List.mem_range.2 hi', rfl⟩)))
/-- A slice of writes that came in. -/
theorem open_writes {H : Type} {enc : TypeId × Value → H} {W : World} {fuel : Nat} {v : Value} {y : DataW H × List MemPlace} (hf : DataW.trod enc Tryz.prog W 0 (fun _ => true) true fuel 23 [v] = some y) :
    ∃ a len cap ws, v = .slice a len cap ∧ Wts W W.heap.size a len cap ws ∧ ((∀ n ∈ y.1.weights Tryz.prog 23, n ≤ reachBytes) → ∀ i, i < ws.length → (wr_ ws i).2.length ≤ reachBytes) := by
  rcases Go.Deep.open_slice_pairs Tryz.underlying23 Tryz.underlying71 (by kernel_rfl) rfl rfl (by kernel_rfl) (by kernel_rfl) hf with ⟨hcs, rfl⟩ | ⟨x, len, cap, m, n, V0, V1, D0, D1, P0, P1, hcs, _, hl, hm, hmm, rfl, hr⟩
  · obtain rfl : v = .slice none 0 0 := by simpa using hcs
    exact ⟨none, 0, 0, [], rfl, wts_nil _ _, fun _ i hi => absurd hi (Nat.not_lt_zero _)⟩
  · obtain rfl : v = .slice (some x) len cap := by simpa using hcs
    obtain ⟨A, L, C, s, p, hs⟩ : ∃ (A : Nat → Option Addr) (L C : Nat → Nat) (s : Nat → List UInt8) (p : Nat → Int), ∀ i, i < len → V1 i = .slice (A i) (L i) (C i) ∧ Bsl W W.heap.size (A i) (L i) (C i) (s i) ∧ ((∀ n ∈ (D1 i).weights Tryz.prog 26, n ≤ reachBytes) → (s i).length ≤ reachBytes) ∧ V0 i = .int .i64 (p i) ∧ (Lit.int .i64 (p i)).wf = true := by
      have : ∀ i, ∃ q : Option Addr × Nat × Nat × List UInt8 × Int, i < len → V1 i = .slice q.1 q.2.1 q.2.2.1 ∧ Bsl W W.heap.size q.1 q.2.1 q.2.2.1 q.2.2.2.1 ∧ ((∀ n ∈ (D1 i).weights Tryz.prog 26, n ≤ reachBytes) → q.2.2.2.1.length ≤ reachBytes) ∧ V0 i = .int .i64 q.2.2.2.2 ∧ (Lit.int .i64 q.2.2.2.2).wf = true := fun i => by
        by_cases hi : i < len
        · obtain ⟨_, _, h3, h4⟩ := hr i (by simp only [if_true] at hmm; omega)
          obtain ⟨a, l, c, s, h5, h6, h7⟩ := open_piece h4
          obtain ⟨p, e1, _, wn⟩ := DataW.trod_int Tryz.underlying3 h3
          exact ⟨(a, l, c, s, p), fun _ => ⟨h5, h6, h7, by simpa using e1, wn⟩⟩
        · exact ⟨(none, 0, 0, [], 0), fun h => absurd h hi⟩
      exact ⟨fun i => (this i).choose.1, fun i => (this i).choose.2.1, fun i => (this i).choose.2.2.1, fun i => (this i).choose.2.2.2.1, fun i => (this i).choose.2.2.2.2, fun i hi => (this i).choose_spec hi⟩
    have hg : ∀ i, i < len → wr_ ((List.range len).map fun i => (p i, s i)) i = (p i, s i) := fun i hi => by simp [wr_, List.getD_eq_getElem?_getD, hi]
    refine ⟨_, len, cap, (List.range len).map fun i => (p i, s i), rfl, ⟨by simp, hl, hm, fun h0 => ?_⟩, fun hw i hi => ?_⟩
    · obtain ⟨b, off, spot⟩ := x
      have h00 := (hr 0 (by simp only [if_true] at hmm; omega)).1
      have hspot : spot = none := by simpa [Addr.add] using World.cell?_spot h00
      subst hspot
      have hadd : ∀ i, (⟨b, off, none⟩ : Addr).add i = ⟨b, off + i, none⟩ := fun i => by unfold Addr.add; split <;> simp_all
      refine ⟨b, off, rfl, ?_, fun i hi => ?_⟩
      · rw [hadd] at h00
        exact World.block_lt_of_cell? W _ h00
      · obtain ⟨h1, h2, _⟩ := hr i (by simp only [if_true] at hmm; omega)
        obtain ⟨e1, e2, _, e3, e4⟩ := hs i hi
        rw [hadd, e3] at h1
        rw [hadd, e1, ← Nat.add_assoc] at h2
        rw [hg i hi]
        refine ⟨e4, h1, A i, C i, ?_, ?_⟩
        · show _ = some (Value.slice (A i) (s i).length (C i))
          rw [e2.1]
          exact h2
        · show Bsl _ _ _ (s i).length _ _
          rw [e2.1]
          exact e2
    · have hi' : i < len := by simpa using hi
      rw [hg i hi']
      refine (hs i hi').2.2.1 fun n hn => hw n ?_
      simp only [DataW.weights, Tryz.underlying23]
      refine List.mem_cons_of_mem _ (List.mem_append_left _ (weights_of (d := .agg [D0 i, D1 i]) ?_ (List.mem_map.2 ⟨i, List.mem_range.2 hi', rfl⟩)))
      simp only [DataW.weights, Tryz.underlying71]
      simp only [DataW.weightsEach, List.map_cons, List.map_nil]
      exact List.mem_append_right _ (List.mem_append_left _ hn)
end Go.Proofs.YtjdjbonljohnbaaGreatDoor
/-
  What a store that came in by value is.
-/
namespace Go.Proofs.YtjdjbonljohnbaaGreatDoor
open Go.RowKit Go.Shelf Go.Joins Go.ChangeShapes Go.WideShapes Go.ChangeAt
set_option maxRecDepth 100000

/-- Two cells that read as a disk are one. -/
theorem disk_of_trod {H : Type} {enc : TypeId × Value → H} {W : World} {fuel : Nat} {cs : List Value} {y : DataW H × List MemPlace} (h : DataW.trod enc Tryz.prog W 0 (fun _ => true) true fuel 25 cs = some y) :
    ∃ (x : DAt) (D : DkL), cs = [.slice x.ba D.1.length x.bc, .slice x.wa D.2.length x.wc] ∧ Dsk W W.heap.size x D ∧ ((∀ n ∈ y.1.weights Tryz.prog 25, n ≤ reachBytes) → Near D) := by
  obtain ⟨f0, f1, hu, t0, t1, o0, o1⟩ : ∃ f0 f1 : Field, Tryz.prog.underlying 25 = some (.struct #[f0, f1]) ∧ f0.type = 22 ∧ f1.type = 23 ∧ f0.offset = 0 ∧ f1.offset = 1 := ⟨_, _, Tryz.underlying25, rfl, rfl, rfl, rfl⟩
  have cB : Tryz.prog.cellsOf 22 = 1 := by kernel_rfl
  have cW : Tryz.prog.cellsOf 23 = 1 := by kernel_rfl
  have cD : Tryz.prog.cellsOf 25 = 2 := by kernel_rfl
  obtain ⟨xs, k, hk, hxy, hcl, hxl, hf⟩ := DataW.trod_struct hu h
  rw [cD] at hcl
  match xs, hxl, cs, hcl with
  | [y0, y1], _, [v0, v1], _ =>
    have g0 := hf 0 f0 rfl
    have g1 := hf 1 f1 rfl
    simp [t0, t1, o0, o1, cB, cW] at g0 g1
    obtain ⟨ba, bn, bc, bl, rfl, hb, hb2⟩ := open_blocks g0
    obtain ⟨wa, wn, wc, ws, rfl, hs, hs2⟩ := open_writes g1
    obtain rfl := hb.1
    obtain rfl := hs.1
    refine ⟨⟨ba, bc, wa, wc⟩, (bl, ws), rfl, ⟨hb, hs⟩, fun hw => ?_⟩
    have hwt : ∀ n, n ∈ y0.1.weights Tryz.prog 22 ∨ n ∈ y1.1.weights Tryz.prog 23 → n ≤ reachBytes := fun n hn => hw n (by
      rw [hxy]
      simp only [List.map_cons, List.map_nil]
      simp only [DataW.weights, Tryz.underlying25]
      simp only [DataW.weightsEach, List.map_cons, List.map_nil]
      rcases hn with hn | hn
      · exact List.mem_append_left _ hn
      · exact List.mem_append_right _ (List.mem_append_left _ hn))
    exact ⟨hb2 fun n hn => hwt n (.inl hn), hs2 fun n hn => hwt n (.inr hn)⟩
/-- A store that came in by value. -/
theorem open_store {H : Type} {enc : TypeId × Value → H} {W : World} {r : Go.Reach} {b0 : Nat} {v : Value} {d : DataW H} {p : List MemPlace} (hv : Value.okWide Tryz.prog W r b0 29 v) (h : DataW.Trod enc Tryz.prog W 0 (fun _ => true) true 29 v d p)
    (hw : ∀ n ∈ d.weights Tryz.prog 29, n ≤ reachBytes) : ∃ x S, v = stV x S ∧ Str W W.heap.size x S ∧ Near S.1 ∧ WfS S := by
  obtain ⟨f0, f1, f2, f3, hu, t0, t1, t2, t3, o0, o1, o2, o3⟩ : ∃ f0 f1 f2 f3 : Field, Tryz.prog.underlying 29 = some (.struct #[f0, f1, f2, f3]) ∧ f0.type = 25 ∧ f1.type = 26 ∧ f2.type = 27 ∧ f3.type = 27 ∧ f0.offset = 0 ∧ f1.offset = 2 ∧ f2.offset = 3 ∧ f3.offset = 4 :=
    ⟨_, _, _, _, Tryz.underlying29, rfl, rfl, rfl, rfl, rfl, rfl, rfl, rfl⟩
  have cS : Tryz.prog.cellsOf 26 = 1 := by kernel_rfl
  have cU : Tryz.prog.cellsOf 27 = 1 := by kernel_rfl
  have cD : Tryz.prog.cellsOf 25 = 2 := by kernel_rfl
  have cT : Tryz.prog.cellsOf 29 = 5 := by kernel_rfl
  obtain ⟨cs, rfl, hsz⟩ := okWide_struct hu hv
  obtain ⟨fuel, hf⟩ := h
  obtain ⟨xs, k, hk, hxy, hcl, hxl, hg⟩ := DataW.trod_struct hu hf
  rw [cT] at hsz
  obtain ⟨c0, c1, c2, c3, c4, rfl⟩ : ∃ c0 c1 c2 c3 c4, cs = #[c0, c1, c2, c3, c4] := by
    obtain ⟨l⟩ := cs
    match l, hsz with
    | [a, b, c, d, e], _ => exact ⟨a, b, c, d, e, rfl⟩
  match xs, hxl with
  | [y0, y1, y2, y3], _ =>
    have g0 := hg 0 f0 rfl
    have g1 := hg 1 f1 rfl
    have g2 := hg 2 f2 rfl
    have g3 := hg 3 f3 rfl
    simp [t0, t1, t2, t3, o0, o1, o2, o3, cS, cU, cD, Value.cells] at g0 g1 g2 g3
    obtain ⟨x, D, hcs, hd, hn⟩ := disk_of_trod g0
    obtain ⟨a, len, cap, s, rfl, hs, _⟩ := open_piece g1
    obtain ⟨n2, e2, _, w2⟩ := DataW.trod_int Tryz.underlying27 g2
    obtain ⟨n3, e3, _, w3⟩ := DataW.trod_int Tryz.underlying27 g3
    have l2 : 0 ≤ n2 ∧ n2 ≤ 4294967295 := by simpa [Lit.wf, IntKind.min, IntKind.max, IntKind.signed, IntKind.bits] using w2
    have l3 : 0 ≤ n3 ∧ n3 ≤ 4294967295 := by simpa [Lit.wf, IntKind.min, IntKind.max, IntKind.signed, IntKind.bits] using w3
    obtain ⟨m2, rfl⟩ := Int.eq_ofNat_of_zero_le l2.1
    obtain ⟨m3, rfl⟩ := Int.eq_ofNat_of_zero_le l3.1
    obtain rfl : c3 = .int .u32 (m2 : Int) := by simpa using e2
    obtain rfl : c4 = .int .u32 (m3 : Int) := by simpa using e3
    obtain rfl := hs.1
    simp only [List.cons.injEq, and_true] at hcs
    obtain ⟨rfl, rfl⟩ := hcs
    refine ⟨⟨x, a, cap⟩, (D, s, m2, m3), rfl, ⟨hd, hs⟩, hn fun n hn' => hw n ?_, ⟨by show m2 < 4294967296; omega, by show m3 < 4294967296; omega⟩⟩
    have hdd : d = .agg [y0.1, y1.1, y2.1, y3.1] := by
      have := hxy
      simp only [Prod.mk.injEq] at this
      simpa using this.1
    rw [hdd]
    simp only [DataW.weights, Tryz.underlying29]
    simp only [DataW.weightsEach, List.map_cons, List.map_nil]
    exact List.mem_append_left _ hn'
end Go.Proofs.YtjdjbonljohnbaaGreatDoor
/-
  What the program's sizes are where they lie as they were laid.
-/
namespace Go.Proofs.YtjdjbonljohnbaaGreatDoor
open Go.RowKit Go.Shelf Go.Joins Go.ChangeShapes Go.WideShapes Go.ChangeAt
set_option maxRecDepth 100000

theorem gSizes : Tryz.prog.globalNamed "charterhouse/ptr.sizes" = some 0 := by kernel_rfl
theorem tSizes : (Tryz.prog.globals[0]?).map (·.type) = some 115 := by kernel_rfl
/-- The door's own heap meets the condition: closed facts. -/
theorem door_met (os : Os) (args : Array Value) : laidMetH Tryz.prog [("charterhouse/ptr.sizes", Rows.laid_charterhouse_ptr_sizes)] ((World.doorLaid Tryz.prog 400 os).forCall (fun _ _ => 0) ⟨#[], args, []⟩).memory :=
  laidMetH_of_parts3 (fuel := 8) (laidMet_of_run' 8 (by kernel_rfl) (by kernel_rfl)) (by kernel_rfl) (by kernel_rfl)
theorem szs_of_laid {W : World} (h : laidMetH Tryz.prog [("charterhouse/ptr.sizes", Rows.laid_charterhouse_ptr_sizes)] W) : Szs W := by
  rw [MakeChecks.laidMetH_plain _ _ _ (by kernel_rfl)] at h
  obtain ⟨ps, ⟨g0, t0, cs0, f0, q0, r0, hg0, ht0, hv0, hd0, _⟩, _⟩ := h
  obtain rfl := Option.some.inj (gSizes.symm.trans hg0)
  obtain rfl := Option.some.inj (tSizes.symm.trans ht0)
  obtain ⟨xs, m1, rfl, hx1, hlen, hn5, hel⟩ := DataW.trod_array Tryz.underlying115 hd0
  have c3 : Tryz.prog.cellsOf 3 = 1 := by kernel_rfl
  simp only [Prod.mk.injEq, Rows.laid_charterhouse_ptr_sizes, DataW.agg.injEq] at hx1
  have one : ∀ (i : Nat) (x : DataW Unit × List MemPlace) (n : Int), i < 5 → xs[i]? = some x → x.1 = .lit (.int .i64 n) → W.cell? ⟨0, i, none⟩ = some (.int .i64 n) := fun i x n hi hx hn => by
    have h0 := hel i hi
    rw [hx, c3, Nat.mul_one] at h0
    obtain ⟨k, e1, e2, _⟩ := DataW.trod_int Tryz.underlying3 h0
    have hk : k = n := by rw [e2] at hn; simpa using hn
    subst hk
    have hv := World.var?_cell hg0 hv0 i
    have e3 : (cs0.toList.drop i)[0]? = some (.int .i64 k) := by
      have : ((cs0.toList.drop i).take 1)[0]? = some (.int .i64 k) := by rw [e1]; rfl
      rwa [List.getElem?_take_of_lt (by omega)] at this
    rw [List.getElem?_drop, Nat.add_zero, Array.getElem?_toList] at e3
    rw [← e3]
    exact hv
  match xs, hn5, hx1, one with
  | [x0, x1, x2, x3, x4], _, hx1, one =>
    simp only [List.map_cons, List.map_nil, List.cons.injEq] at hx1
    have d0 := one 0 x0 1 (by omega) rfl hx1.1.1.symm
    exact ⟨World.block_lt_of_cell? W _ d0, d0, one 1 x1 3 (by omega) rfl hx1.1.2.1.symm, one 2 x2 4 (by omega) rfl hx1.1.2.2.1.symm, one 3 x3 4 (by omega) rfl hx1.1.2.2.2.1.symm, one 4 x4 4 (by omega) rfl hx1.1.2.2.2.2.1.symm⟩

end Go.Proofs.YtjdjbonljohnbaaGreatDoor
