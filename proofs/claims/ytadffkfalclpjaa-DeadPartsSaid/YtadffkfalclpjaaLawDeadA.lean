/-
  What the statements of layer 16 ask beside the calls: two lists compared; a pointer of a block; the example: one is put in its place.
-/
import Derived.Test.YtadffkfalclpjaaDdJoin
import Derived.Test.YtadffkfalclpjaaPtIn
namespace Go.Proofs.Ytadffkfalclpjaa
open Go.RowKit Go.Shelf
set_option maxRecDepth 100000

/-- A slice literal of pointers. -/
theorem lit_pts {w : World} {g : Nat} {ps : List Pt} (h : Blk w g 25 (ptCs ps).toArray) (hw : ∀ p ∈ ps, WfP p) (hl : ps.length ≤ 1000000) : Pts w w.heap.size (some ⟨g, 0, none⟩) ps.length ps.length ps :=
  ⟨rfl, Nat.le_refl _, by unfold maxLen; omega, fun e => (by cases e), fun _ => ⟨g, 0, rfl, h.lt, fun i hi => ⟨hw _ (List.getElem_mem hi), fun j u hu => by
    have := ptCs_get ps i hi j u hu
    rw [Nat.zero_add, h.cell]
    exact (List.getElem?_toArray ..).trans this⟩⟩⟩
theorem ptsL_same {L M : List Pt} (hl : L.length = M.length) (h : ∀ t, t < L.length → L.getD t p0 = M.getD t p0) : L = M := by
  refine List.ext_getElem hl fun i h1 h2 => ?_
  have := h i h1
  rwa [ddGetD h1, ddGetD h2] at this
set_option maxHeartbeats 2000000 in
theorem dlSame_any (a : Option Addr) (n ca : Nat) (L : List Pt) (b : Option Addr) (m cb : Nat) (M : List Pt) (w : World) (hL : Pts w w.heap.size a n ca L) (hM : Pts w w.heap.size b m cb M) :
    Calls Try.prog 18 #[.slice a n ca, .slice b m cb] w fun e w' => e = .returned (.bool (decide (L = M))) ∧ Below w.heap.size w w' := by
  have hmx : Try.prog.follows Departure.mixedOrders = true := by kernel_rfl
  have n0 : (0 : Int) ≤ n := by omega
  have n1 : (n : Int) ≤ 9223372036854775807 := by have h1 := hL.2.1; have h2 := hL.2.2.1; unfold maxLen at h2; omega
  have m0 : (0 : Int) ≤ m := by omega
  have m1 : (m : Int) ≤ 9223372036854775807 := by have h1 := hM.2.1; have h2 := hM.2.2.1; unfold maxLen at h2; omega
  obtain ⟨R, hR⟩ : ∃ R, decide (L = M) = R := ⟨_, rfl⟩
  rw [hR]
  have HR := Lib.hid hR
  have HLN := Lib.hid hL.1
  have HMN := Lib.hid hM.1
  have HL := Lib.hid hL
  have HM := Lib.hid hM
  clear hL hM hR
  go_enter Try.func18, Try.ntmps18
  go_wp2_with fail
  go_loopw [5] (fun i wr => ∃ j : Nat, j ≤ n ∧ j ≤ m ∧ i = .int .i64 j ∧ (∀ t, t < j → L.getD t p0 = M.getD t p0) ∧ Below w.heap.size w wr) (fun i _ => n - (intOf i).toNat)
  case atStart => exact ⟨0, Nat.zero_le _, Nat.zero_le _, rfl, fun j hj => absurd hj (Nat.not_lt_zero _), Below.refl _ _⟩
  case round =>
    obtain ⟨j, hj, hjm, rfl, hsame, hb⟩ := hrel
    have j0 : (0 : Int) ≤ j := by omega
    have HB := Lib.hid hb
    have HSM := Lib.hid hsame
    clear hb hsame
    by_cases hlt : j < n
    · have j1 : (j : Int) < n := by omega
      by_cases hltm : j < m
      · have j2 : (j : Int) < m := by omega
        obtain ⟨b1, o1, ea, hblt, _, c0, c1, c2, c3, c4⟩ := (HL.out.below HB.out).cells j hlt
        obtain ⟨b2, o2, eb, hblt2, _, d0, d1, d2, d3, d4⟩ := (HM.out.below HB.out).cells j hltm
        subst ea
        subst eb
        obtain ⟨P, hP⟩ : ∃ P, L.getD j p0 = P := ⟨_, rfl⟩
        obtain ⟨Q, hQ⟩ : ∃ Q, M.getD j p0 = Q := ⟨_, rfl⟩
        rw [hP] at c0 c1 c2 c3 c4
        rw [hQ] at d0 d1 d2 d3 d4
        have HP := Lib.hid hP
        have HQ := Lib.hid hQ
        clear hP hQ hblt hblt2
        have heq : eqP P Q = decide (P = Q) := rfl
        by_cases hpq : P = Q
        · rw [decide_eq_true hpq] at heq
          obtain ⟨x, y, z, t, u⟩ := P
          obtain ⟨x', y', z', t', u'⟩ := Q
          have hlit := eqPt_lit x y z t u x' y' z' t' u'
          rw [heq] at hlit
          have HPQ := Lib.hid hpq
          clear hpq heq
          go_wp2_with fail
          go_quiet (fail)
          go_wp2_with fail
          go_roundw
          case rel =>
            refine ⟨j + 1, by omega, by omega, by go_num, fun t ht => ?_, below_drewN HB.out _⟩
            by_cases e : t = j
            · subst e
              rw [HP.out, HQ.out]
              exact HPQ.out
            · exact HSM.out t (by omega)
          case measure => simp [intOf]; omega
        · rw [decide_eq_false hpq] at heq
          have hno : ¬ L = M := fun e => hpq (by rw [← HP.out, ← HQ.out, e])
          have hR := HR.out
          rw [decide_eq_false hno] at hR
          subst hR
          obtain ⟨x, y, z, t, u⟩ := P
          obtain ⟨x', y', z', t', u'⟩ := Q
          have hlit := eqPt_lit x y z t u x' y' z' t' u'
          rw [heq] at hlit
          clear hpq heq hno
          go_wp2_with fail
          go_quiet (fail)
          go_wp2_with fail
          go_ret
          exact ⟨rfl, below_drewN HB.out _⟩
      · have hno : ¬ L = M := fun e => by rw [e, HMN.out] at HLN; have := HLN.out; omega
        have hR := HR.out
        rw [decide_eq_false hno] at hR
        subst hR
        have j2 : ¬ (j : Int) < m := by omega
        have j3 : ((n : Int) == (m : Int)) = false := by simp; omega
        clear hno hltm
        go_wp2_with fail
        go_ret
        exact ⟨rfl, HB.out⟩
    · obtain rfl : j = n := by omega
      by_cases hmm : j = m
      · subst hmm
        have hyes : L = M := ptsL_same (by rw [HLN.out, HMN.out]) fun t ht => HSM.out t (by rw [← HLN.out]; exact ht)
        have hR := HR.out
        rw [decide_eq_true hyes] at hR
        subst hR
        clear hyes
        go_wp2_with fail
        go_ret
        exact ⟨rfl, HB.out⟩
      · have hno : ¬ L = M := fun e => by rw [e, HMN.out] at HLN; have := HLN.out; omega
        have hR := HR.out
        rw [decide_eq_false hno] at hR
        subst hR
        have j3 : ((j : Int) == (m : Int)) = false := by simp; omega
        clear hno hmm
        go_wp2_with fail
        go_ret
        exact ⟨rfl, HB.out⟩
theorem dlAt_any (x : Int) (b : Nat) (w : World) : Calls Try.prog 30 #[.int .i64 x, .int .u32 (b : Int)] w fun e w' => e = .returned (ptV (x, b, 0, 0, 0)) ∧ Below w.heap.size w w' := by
  have b0 := (Below.refl w.heap.size w).alloc (Nat.le_refl _) (.cells (ptC (x, b, 0, 0, 0)).toArray 25)
  have HB := Lib.hid b0
  clear b0
  go_enter Try.func30, Try.ntmps30
  go_wp2_with fail
  refine bodyPost_ret (v := ptV (x, b, 0, 0, 0)) ?_ rfl ⟨rfl, HB.out⟩
  simp [results, Try.f30, go_sem]
theorem alive_add : addO [(20, 1, 0, 0, 0), (30, 1, 0, 0, 0)] (25, 1, 0, 0, 0) = ([(20, 1, 0, 0, 0), (25, 1, 0, 0, 0), (30, 1, 0, 0, 0)], 0) := by decide +kernel
set_option maxHeartbeats 4000000 in
theorem ddAlive_any (w : World) : Calls Try.prog 17 #[] w fun e w' => e = .returned (.bool true) ∧ Below w.heap.size w w' := by
  have wf : ∀ z : Int, 0 ≤ z ∧ z ≤ 1000 → WfP (z, 1, 0, 0, 0) := fun z hz => ⟨by constructor <;> simp only <;> omega, by show 1 < 4294967296; decide, by show 0 < 4294967296; decide, by show 0 < 4294967296; decide, by show 0 < 4294967296; decide⟩
  have H1 := Lib.hid (fun W => dlAt_any 20 1 W)
  have H2 := Lib.hid (fun W => dlAt_any 30 1 W)
  have H3 := Lib.hid (fun W => dlAt_any 25 1 W)
  have HWF := Lib.hid wf
  clear wf
  go_enter Try.func17, Try.ntmps17
  go_wp2_with fail
  refine (H1.out w).mono ?_
  rintro ev w1 ⟨rfl, b1⟩
  have HB := Lib.hid b1
  clear b1
  go_wp2_with fail
  refine (H2.out w1).mono ?_
  rintro ev w2 ⟨rfl, b2⟩
  replace HB := Lib.hid (HB.out.trans (b2.mono HB.out.size))
  clear b2
  have xl := Blk.new w2 25 (ptCs [(20, 1, 0, 0, 0), (30, 1, 0, 0, 0)]).toArray
  have bl := (Below.refl w2.heap.size w2).alloc (Nat.le_refl _) (.cells (ptCs [(20, 1, 0, 0, 0), (30, 1, 0, 0, 0)]).toArray 25)
  obtain ⟨w3, hw3⟩ : ∃ X, w2.alloc (.cells (ptCs [(20, 1, 0, 0, 0), (30, 1, 0, 0, 0)]).toArray 25) = X := ⟨_, rfl⟩
  rw [hw3] at xl bl
  have HT := Lib.hid (lit_pts xl (fun p hp => by
    simp only [List.mem_cons, List.not_mem_nil, or_false] at hp
    rcases hp with rfl | rfl
    · exact HWF.out 20 (by omega)
    · exact HWF.out 30 (by omega)) (by decide))
  replace HB := Lib.hid (HB.out.trans (bl.mono HB.out.size))
  simp only [ptCs, ptC, List.flatMap_cons, List.flatMap_nil, List.cons_append, List.nil_append] at hw3
  have hw4 : w2.alloc (.cells #[.int .i64 20, .int .u32 1, .int .u32 0, .int .u32 0, .int .u32 0, .int .i64 30, .int .u32 1, .int .u32 0, .int .u32 0, .int .u32 0] 25) = w3 := hw3
  have HW3 := Lib.hid hw4
  clear xl bl hw3 hw4
  go_wp2_with fail
  rw [show w2.alloc (.cells #[.int .i64 20, .int .u32 1, .int .u32 0, .int .u32 0, .int .u32 0, .int .i64 30, .int .u32 1, .int .u32 0, .int .u32 0, .int .u32 0] 25) = w3 from HW3.out]
  clear HW3
  refine (H3.out w3).mono ?_
  rintro ev w4 ⟨rfl, b4⟩
  replace HB := Lib.hid (HB.out.trans (b4.mono HB.out.size))
  have ha := ddAdd_any _ 2 2 [(20, 1, 0, 0, 0), (30, 1, 0, 0, 0)] (25, 1, 0, 0, 0) w4 (HT.out.step b4) (HWF.out 25 (by omega))
  rw [alive_add] at ha
  have HA := Lib.hid ha
  clear ha b4
  go_wp2_with fail
  refine HA.out.mono ?_
  rintro ev w5 ⟨v5, rfl, hr5, b5⟩
  replace HB := Lib.hid (HB.out.trans (b5.mono HB.out.size))
  obtain ⟨a5, c5, rfl, ht5⟩ := hr5.pts
  obtain ⟨b2, o2, ea, _, _, v0_, _, _, _, _⟩ := ht5.cells 0 (by decide)
  subst ea
  obtain ⟨_, _, ea, _, _, v1_, _, _, _, _⟩ := ht5.cells 1 (by decide)
  cases ea
  obtain ⟨_, _, ea, _, _, v2_, _, _, _, _⟩ := ht5.cells 2 (by decide)
  cases ea
  simp only [List.length_cons, List.length_nil, Nat.reduceAdd, Nat.zero_mul, Nat.one_mul, Nat.reduceMul, Nat.add_zero] at v0_ v1_ v2_ ⊢
  have d0 : w5.cell? ⟨b2, o2, none⟩ = some (.int .i64 20) := v0_
  have d1 : w5.cell? ⟨b2, o2 + 5, none⟩ = some (.int .i64 25) := v1_
  have d2 : w5.cell? ⟨b2, o2 + 10, none⟩ = some (.int .i64 30) := v2_
  clear b5 ht5 hr5 v0_ v1_ v2_
  go_wp2_with fail
  go_ret
  exact ⟨rfl, HB.out⟩
end Go.Proofs.Ytadffkfalclpjaa
