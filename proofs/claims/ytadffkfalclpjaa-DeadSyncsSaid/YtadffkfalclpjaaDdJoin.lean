/-
  dead's own Join and Add.
-/
import Derived.Test.YtadffkfalclpjaaDdCode
import Derived.Test.YtadffkfalclpjaaDdSort
import Derived.Test.YtadffkfalclpjaaDdConc
namespace Go.Proofs.Ytadffkfalclpjaa
open Go.RowKit Go.Shelf
set_option maxRecDepth 100000

/-- Pointers, a row of the call's own, and an error's number. -/
def OutPr (o : List Pt × Nat) (w : World) (e : Ending) (w' : World) : Prop := ∃ v, e = .returned (.tuple #[v, .int .i64 o.2]) ∧ PRow w' w.heap.size v o.1 ∧ Below w.heap.size w w'
theorem outPr_no (c : Nat) {w w' : World} (hb : Below w.heap.size w w') : OutPr ([], c) w (.returned (.tuple #[.slice none 0 0, .int .i64 c])) w' := ⟨_, rfl, prow_nil _ _, hb⟩
/-- What was sorted, where both rise. -/
theorem sorted_join {a b L : List Pt} (ha : MayDL a) (hb : MayDL b) (hp : L.Perm (a ++ b)) (hw : Weak L) : (Rise L ↔ ¬ Meet a b) ∧ (Rise L → L = bothD a b) := by
  have hno : Rise L → ¬ Meet a b := fun hr ⟨q, hq, p, hp', e⟩ => by
    have hne : L.Pairwise fun p q : Pt => p.1 ≠ q.1 := hr.imp fun h => by omega
    have hab : (a ++ b).Pairwise fun p q : Pt => p.1 ≠ q.1 := hp.pairwise hne fun h => fun e => h e.symm
    have := (List.pairwise_append.1 hab).2.2 p hp' q hq
    exact this e
  have hyes : ¬ Meet a b → Rise L := fun hm => by
    have hr : Rise (bothD a b) := bothD_rise ha.2.2 hb.2.2 hm
    have hne : (bothD a b).Pairwise fun p q : Pt => p.1 ≠ q.1 := hr.imp fun h => by omega
    have hL : L.Pairwise fun p q : Pt => p.1 ≠ q.1 := (hp.trans (bothD_perm a b).symm).symm.pairwise hne fun h => fun e => h e.symm
    exact (hL.and hw).imp fun ⟨h1, h2⟩ => by omega
  exact ⟨⟨hno, hyes⟩, fun hr => rise_same hr (bothD_rise ha.2.2 hb.2.2 (hno hr)) (hp.trans (bothD_perm a b).symm)⟩
theorem may_one {p : Pt} : MayDL [p] ↔ OneP p := ⟨fun h => h.2.1 p (List.mem_singleton.2 rfl), fun h => ⟨by show 1 ≤ 240; decide, fun q hq => by rw [List.mem_singleton.1 hq]; exact h, List.pairwise_singleton _ _⟩⟩
/-- What Add answers is what Join answers of one alone. -/
theorem addO_join (l : List Pt) (p : Pt) : addO l p = joinO l [p] := by
  unfold addO joinO
  by_cases h : MayDL l ∧ OneP p
  · have h' : MayDL l ∧ MayDL [p] := And.intro h.1 (may_one.2 h.2)
    rw [if_pos h, if_pos h']
    have e1 : Meet l [p] ↔ HasAt l p.1 := ⟨fun ⟨q, hq, h⟩ => by rwa [List.mem_singleton.1 hq] at h, fun h => ⟨p, List.mem_singleton.2 rfl, h⟩⟩
    by_cases hm : HasAt l p.1
    · rw [if_pos hm, if_pos (e1.2 hm)]
    · rw [if_neg hm, if_neg fun h => hm (e1.1 h)]
      have e2 : bothD l [p] = inDL l p := rfl
      rw [e2, inDL_length]
      by_cases hf : 240 ≤ l.length
      · rw [if_pos hf, if_pos (by omega)]
      · rw [if_neg hf, if_neg (by omega)]
  · have h' : ¬ (MayDL l ∧ MayDL [p]) := fun k => h (And.intro k.1 (may_one.1 k.2))
    rw [if_neg h, if_neg h']
set_option maxHeartbeats 4000000 in
theorem ddJoin_any (a : Option Addr) (n c : Nat) (L : List Pt) (b : Option Addr) (m d : Nat) (M : List Pt) (w : World) (hL : Pts w w.heap.size a n c L) (hM : Pts w w.heap.size b m d M) : Calls Try.prog 11 #[.slice a n c, .slice b m d] w (OutPr (joinO L M) w) := by
  have n0 : (0 : Int) ≤ n := by omega
  have m0 : (0 : Int) ≤ m := by omega
  by_cases hl : MayDL L
  · by_cases hm : MayDL M
    · have H1 := Lib.hid (ddMay_any a n c L w hL true ⟨fun _ => hl, fun _ => rfl⟩)
      have H2 := Lib.hid (fun W hW => ddMay_any b m d M W hW true ⟨fun _ => hm, fun _ => rfl⟩)
      have HLL := Lib.hid hL
      have HMM := Lib.hid hM
      have hn4 : n ≤ 240 := by rw [← hL.1]; exact hl.1
      have hm4 : m ≤ 240 := by rw [← hM.1]; exact hm.1
      have HSZ := Lib.hid (show n + m ≤ 1000000 by omega)
      have HSL := Lib.hid (show (L ++ M).length ≤ 1000000 by rw [List.length_append, hL.1, hM.1]; omega)
      clear hL hM hn4 hm4
      go_enter Try.func11, Try.ntmps11
      go_wp2_with fail
      refine H1.out.mono ?_
      rintro ev w1 ⟨rfl, b1⟩
      have HB := Lib.hid b1
      replace HLL := Lib.hid (HLL.out.step b1)
      replace HMM := Lib.hid (HMM.out.step b1)
      clear b1 H1
      go_wp2_with fail
      refine (H2.out w1 HMM.out).mono ?_
      rintro ev w2 ⟨rfl, b2⟩
      replace HB := Lib.hid (HB.out.trans (b2.mono HB.out.size))
      replace HLL := Lib.hid (HLL.out.step b2)
      replace HMM := Lib.hid (HMM.out.step b2)
      clear b2 H2
      have HC := Lib.hid (concatPP w2 a n c L b m d M HLL.out HMM.out HSZ.out)
      have HBC := Lib.hid (HB.out.alloc HB.out.size (.cells #[.slice a n c, .slice b m d] 22))
      clear HLL HMM HSZ
      go_wp2_with fail
      refine HC.out.mono ?_
      rintro ev w3 ⟨v, rfl, hr3, b3⟩
      replace HB := Lib.hid (HBC.out.trans (b3.mono HBC.out.size))
      obtain ⟨av, cv, rfl, _⟩ := hr3.pts
      have hs3 := dSort_any av cv (L ++ M) w3 _ hr3 HSL.out
      obtain ⟨q, hq⟩ : ∃ q, (L ++ M).length = q := ⟨_, rfl⟩
      rw [hq] at hs3 hr3 ⊢
      have HS := Lib.hid hs3
      have HR3 := Lib.hid hr3
      have HQ := Lib.hid hq
      have HLO := Lib.hid (show w.heap.size ≤ (w2.alloc (.cells #[.slice a n c, .slice b m d] 22)).heap.size from HBC.out.size)
      clear b3 hr3 HC HBC HSL hs3 hq
      go_wp2_with fail
      refine HS.out.mono ?_
      rintro ev w4 ⟨rfl, L1, hp4, hw4, hr4, g4⟩
      have hb4 : Below w.heap.size w w4 := app_below HB.out (own_mono HR3.out.1 HLO.out) g4 HB.out.size
      replace HB := Lib.hid hb4
      have hs := sorted_join hl hm hp4 hw4
      have hL1 : L1.length = q := hp4.length_eq.trans HQ.out
      have hr5 := hr4.mono HLO.out
      have HR4 := Lib.hid hr5
      have ht4 : Pts w4 w4.heap.size av q cv L1 := by
        obtain ⟨a', c', e', h'⟩ := hr5.pts
        injection e' with e1 e2 e3
        subst e1; subst e3
        rw [hL1] at h'
        exact h'
      have HT4 := Lib.hid ht4
      clear hb4 hr4 hr5 g4 hp4 hw4 HS HR3 HLO ht4
      by_cases hr : Rise L1
      · by_cases hf : 240 < L1.length
        · have hno := hs.1.1 hr
          have he := hs.2 hr
          have HR := Lib.hid (fun W hW => ddRises_any av q cv L1 W hW true ⟨fun _ => hr, fun _ => rfl⟩)
          have HO := Lib.hid (show joinO L M = ([], 9) by unfold joinO; rw [if_pos ⟨hl, hm⟩, if_neg hno, if_pos (by rw [← he]; exact hf)])
          have d1 : decide ((q : Int) > 240) = true := decide_eq_true (by omega)
          have d2 : decide ((240 : Int) < (q : Int)) = true := decide_eq_true (by omega)
          clear hno he
          clear hf
          clear hl hm hr hs hL1
          go_wp2_with fail
          refine (HR.out w4 HT4.out).mono ?_
          rintro ev w5 ⟨rfl, b5⟩
          replace HR4 := Lib.hid (HR4.out.below b5)
          replace HB := Lib.hid (HB.out.trans (b5.mono HB.out.size))
          clear b5
          go_wp2_with fail
          go_ret2
          rw [HO.out]
          exact outPr_no 9 HB.out
        · have hno := hs.1.1 hr
          have he := hs.2 hr
          have HR := Lib.hid (fun W hW => ddRises_any av q cv L1 W hW true ⟨fun _ => hr, fun _ => rfl⟩)
          have HO := Lib.hid (show joinO L M = (L1, 0) by unfold joinO; rw [if_pos ⟨hl, hm⟩, if_neg hno, if_neg (by rw [← he]; exact hf), he])
          have d1 : decide ((q : Int) > 240) = false := decide_eq_false (by omega)
          have d2 : decide ((240 : Int) < (q : Int)) = false := decide_eq_false (by omega)
          clear hno he
          clear hf
          clear hl hm hr hs hL1
          go_wp2_with fail
          refine (HR.out w4 HT4.out).mono ?_
          rintro ev w5 ⟨rfl, b5⟩
          replace HR4 := Lib.hid (HR4.out.below b5)
          replace HB := Lib.hid (HB.out.trans (b5.mono HB.out.size))
          clear b5
          go_wp2_with fail
          go_ret2
          rw [HO.out]
          exact ⟨_, rfl, HR4.out, HB.out⟩
      · have HO := Lib.hid (show joinO L M = ([], 2) by unfold joinO; rw [if_pos ⟨hl, hm⟩, if_pos (Decidable.byContradiction fun h => hr (hs.1.2 h))])
        have HR := Lib.hid (fun W hW => ddRises_any av q cv L1 W hW false ⟨fun x => (by cases x), fun x => absurd x hr⟩)
        clear hl hm hr hs hL1
        go_wp2_with fail
        refine (HR.out w4 HT4.out).mono ?_
        rintro ev w5 ⟨rfl, b5⟩
        replace HR4 := Lib.hid (HR4.out.below b5)
        replace HB := Lib.hid (HB.out.trans (b5.mono HB.out.size))
        clear b5
        go_wp2_with fail
        go_ret2
        rw [HO.out]
        exact outPr_no 2 HB.out
    · have HO := Lib.hid (show joinO L M = ([], 8) by unfold joinO; rw [if_neg fun h => hm h.2])
      have H1 := Lib.hid (ddMay_any a n c L w hL true ⟨fun _ => hl, fun _ => rfl⟩)
      have HM := Lib.hid hM
      have H2 := Lib.hid (fun W hW => ddMay_any b m d M W hW false ⟨fun x => (by cases x), fun x => absurd x hm⟩)
      clear hL hM hl hm
      go_enter Try.func11, Try.ntmps11
      go_wp2_with fail
      refine H1.out.mono ?_
      rintro ev w1 ⟨rfl, b1⟩
      have HB := Lib.hid b1
      replace HM := Lib.hid (HM.out.step b1)
      clear b1
      go_wp2_with fail
      refine (H2.out w1 HM.out).mono ?_
      rintro ev w2 ⟨rfl, b2⟩
      replace HB := Lib.hid (HB.out.trans (b2.mono HB.out.size))
      clear b2
      go_wp2_with fail
      go_ret2
      rw [HO.out]
      exact outPr_no 8 HB.out
  · have HO := Lib.hid (show joinO L M = ([], 8) by unfold joinO; rw [if_neg fun h => hl h.1])
    have H1 := Lib.hid (ddMay_any a n c L w hL false ⟨fun x => (by cases x), fun x => absurd x hl⟩)
    clear hL hM hl
    go_enter Try.func11, Try.ntmps11
    go_wp2_with fail
    refine H1.out.mono ?_
    rintro ev w1 ⟨rfl, b1⟩
    have HB := Lib.hid b1
    clear b1
    go_wp2_with fail
    go_ret2
    rw [HO.out]
    exact outPr_no 8 HB.out
set_option maxHeartbeats 4000000 in
theorem ddAdd_any (a : Option Addr) (n c : Nat) (L : List Pt) (p : Pt) (w : World) (hL : Pts w w.heap.size a n c L) (hp : WfP p) : Calls Try.prog 7 #[.slice a n c, ptV p] w (OutPr (addO L p) w) := by
  rw [addO_join]
  obtain ⟨w0, hw0⟩ : ∃ w0, w.alloc (.cells (ptC p).toArray 25) = w0 := ⟨_, rfl⟩
  have hb : Below w.heap.size w w0 := by rw [← hw0]; exact (Below.refl _ w).alloc (Nat.le_refl _) _
  have HK := Lib.hid (show Blk w0 w.heap.size 25 (ptC p).toArray by rw [← hw0]; exact Blk.new w _ _)
  have h1 := one_pts w0 p hp
  have hb2 := hb.alloc hb.size (.cells (ptC p).toArray 25)
  obtain ⟨w2, hw2⟩ : ∃ w2, w0.alloc (.cells (ptC p).toArray 25) = w2 := ⟨_, rfl⟩
  rw [hw2] at h1
  rw [hw2] at hb2
  have HJ := Lib.hid (ddJoin_any a n c L _ 1 1 [p] w2 (hL.step hb2) h1)
  have HB := Lib.hid hb2
  simp only [ptC] at hw0 hw2
  clear hb hb2 h1 hL
  obtain ⟨x, y, z, t, u⟩ := p
  go_enter Try.func7, Try.ntmps7
  obtain ⟨c0, c1, c2, c3, c4⟩ := HK.out.five
  go_wp2_with fail
  try rw [hw0]
  try rw [hw2]
  clear c0 c1 c2 c3 c4 hw0 hw2
  refine HJ.out.mono ?_
  rintro ev w1 ⟨v, rfl, hr, b1⟩
  have HR := Lib.hid (hr.mono HB.out.size)
  have HB1 := Lib.hid (HB.out.trans (b1.mono HB.out.size))
  obtain ⟨av, cv, rfl, _⟩ := hr.pts
  clear hr b1
  go_wp2_with fail
  go_ret2
  exact ⟨_, rfl, HR.out, HB1.out⟩
end Go.Proofs.Ytadffkfalclpjaa
