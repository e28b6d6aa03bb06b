/-
  obj's own: whether an object may be (closures over its parts, slices.ContainsFunc over its pointers), Check, and Same with slices.Equal.
-/
import Derived.Test.YtennhempdnpobaaDoorRoA
import Derived.Test.YtennhempdnpobaaDoorPtChk
namespace Go.Proofs.YtennhempdnpobaaDoor
open Go.RowKit Go.Shelf
set_option maxRecDepth 100000

theorem obWithin_any (n lo hi : Int) (w : World) (R : Bool) (hR : R = true ↔ lo ≤ n ∧ n ≤ hi) : Calls Tryd.prog 37 #[.int .i64 n, .int .i64 lo, .int .i64 hi] w fun e w' => e = .returned (.bool R) ∧ w = w' := by
  by_cases h1 : lo ≤ n
  · by_cases h2 : n ≤ hi
    · obtain rfl : R = true := hR.2 ⟨h1, h2⟩
      clear hR
      go_enter Tryd.func37, Tryd.ntmps37
      go_wp2_with fail
      go_ret
      exact ⟨rfl, rfl⟩
    · obtain rfl : R = false := by cases R with | false => rfl | true => exact absurd (hR.1 rfl).2 h2
      clear hR
      have h3 : decide (n ≤ hi) = false := decide_eq_false h2
      go_enter Tryd.func37, Tryd.ntmps37
      go_wp2_with fail
      go_ret
      exact ⟨rfl, rfl⟩
  · obtain rfl : R = false := by cases R with | false => rfl | true => exact absurd (hR.1 rfl).1 h1
    clear hR
    have h3 : decide (lo ≤ n) = false := decide_eq_false h1
    go_enter Tryd.func37, Tryd.ntmps37
    go_wp2_with fail
    go_ret
    exact ⟨rfl, rfl⟩
theorem obWrong_any (p : Pt) (w : World) (R : Bool) (hR : R = true ↔ ¬ MayP p) : Calls Tryd.prog 38 #[ptV p] w fun e w' => e = .returned (.bool R) ∧ Below w.heap.size w w' := by
  have hb1 : Below w.heap.size w (w.alloc (.cells (ptC p).toArray 42)) := (Below.refl _ w).alloc (Nat.le_refl _) _
  have HB := Lib.hid hb1; clear hb1
  have hc := Check_any p (w.alloc (.cells (ptC p).toArray 42))
  rw [pcheckO] at hc
  by_cases h : MayP p
  · rw [if_pos h] at hc
    obtain rfl : R = false := by cases R with | false => rfl | true => exact absurd h (hR.1 rfl)
    clear hR h
    obtain ⟨a, b, c, d, e⟩ := p
    have HM := Lib.hid hc; clear hc
    go_enter Tryd.func38, Tryd.ntmps38
    go_wp2_with (go_at_call 20; refine HM.out.mono ?_; rintro ev w1 ⟨rfl, b1⟩; have HB1 := Lib.hid (HB.out.trans (b1.mono (by simp [ptC]))); clear b1)
    go_ret
    exact ⟨rfl, HB1.out⟩
  · rw [if_neg h] at hc
    obtain rfl : R = true := hR.2 h
    clear hR h
    obtain ⟨a, b, c, d, e⟩ := p
    have HM := Lib.hid hc; clear hc
    go_enter Tryd.func38, Tryd.ntmps38
    go_wp2_with (go_at_call 20; refine HM.out.mono ?_; rintro ev w1 ⟨rfl, b1⟩; have HB1 := Lib.hid (HB.out.trans (b1.mono (by simp [ptC]))); clear b1)
    go_ret
    exact ⟨rfl, HB1.out⟩
def IxP (R : Bool) (z : Int) : Prop := (R = true → z = -1) ∧ (R = false → 0 ≤ z)
set_option maxHeartbeats 2000000 in
theorem obIndex_any (a : Option Addr) (n c : Nat) (L : List Pt) (w : World) (hL : Pts w w.heap.size a n c L) (R : Bool) (hR : R = true ↔ ∀ p ∈ L, MayP p) : Calls Tryd.prog 51 #[.slice a n c, .func (.func 38) #[] #[]] w fun e w' => ∃ z : Int, e = .returned (.int .i64 z) ∧ IxP R z ∧ Below w.heap.size w w' := by
  have n0 : (0 : Int) ≤ n := by omega
  have n1 : (n : Int) ≤ 9223372036854775807 := by have h1 := hL.2.1; have h2 := hL.2.2.1; unfold maxLen at h2; omega
  have HN := Lib.hid hL.1
  have HP := Lib.hid hL
  have HR := Lib.hid hR
  clear hL hR
  go_enter Tryd.func51, Tryd.ntmps51
  go_wp2_with fail
  go_loopw [8] (fun i wr => ∃ j : Nat, j ≤ n ∧ i = .int .i64 j ∧ (∀ t, t < j → MayP (L.getD t p0)) ∧ Below w.heap.size w wr) (fun i _ => n - (intOf i).toNat)
  case atStart => exact ⟨0, Nat.zero_le _, rfl, fun j hj => absurd hj (Nat.not_lt_zero _), Below.refl _ _⟩
  case round =>
    obtain ⟨j, hj, rfl, hmay, hb⟩ := hrel
    have j0 : (0 : Int) ≤ j := by omega
    have HBR := Lib.hid hb
    have HM := Lib.hid hmay
    clear hb hmay
    by_cases hlt : j < n
    · have j1 : (j : Int) < n := by omega
      obtain ⟨bp, op_, ea, hblt, hwf, p0_, p1_, p2_, p3_, p4_⟩ := (HP.out.below HBR.out).cells j hlt
      obtain ⟨P, hP⟩ : ∃ P, L.getD j p0 = P := ⟨_, rfl⟩
      rw [hP] at hwf p0_ p1_ p2_ p3_ p4_
      subst ea
      have HPE := Lib.hid hP
      clear hP hblt hwf
      by_cases h : MayP P
      · have HW := Lib.hid (obWrong_any P wr false ⟨fun x => (by cases x), fun x => absurd h x⟩)
        have HH1 := Lib.hid h
        obtain ⟨a', b', c', d', e'⟩ := P
        clear h
        go_wp2_with fail
        refine HW.out.mono ?_
        rintro ev w1 ⟨rfl, b1⟩
        have HB1 := Lib.hid (HBR.out.trans (b1.mono HBR.out.size))
        clear b1
        go_wp2_with fail
        go_roundw
        case rel =>
          refine ⟨j + 1, by omega, by go_num, fun t ht => ?_, HB1.out⟩
          by_cases e : t = j
          · subst e
            rw [HPE.out]
            exact HH1.out
          · exact HM.out t (by omega)
        case measure => simp [intOf]; omega
      · have HW := Lib.hid (obWrong_any P wr true ⟨fun _ => h, fun _ => rfl⟩)
        obtain rfl : R = false := by
          cases R with
          | false => rfl
          | true =>
            have hi : j < L.length := by rw [HN.out]; exact hlt
            have hg : L[j] = P := by
              rw [← HPE.out, List.getD_eq_getElem?_getD, List.getElem?_eq_getElem hi]
              rfl
            exact absurd (hg ▸ HR.out.1 rfl L[j] (List.getElem_mem hi)) h
        obtain ⟨a', b', c', d', e'⟩ := P
        clear h
        go_wp2_with fail
        refine HW.out.mono ?_
        rintro ev w1 ⟨rfl, b1⟩
        have HB1 := Lib.hid (HBR.out.trans (b1.mono HBR.out.size))
        clear b1
        go_wp2_with fail
        go_ret
        exact ⟨_, rfl, ⟨fun x => (by cases x), fun _ => by omega⟩, HB1.out⟩
    · obtain rfl : j = n := by omega
      have hall : ∀ p ∈ L, MayP p := fun p hp => by
        obtain ⟨i, hi, rfl⟩ := List.getElem_of_mem hp
        have := HM.out i (by rw [HN.out] at hi; omega)
        rwa [List.getD_eq_getElem?_getD, List.getElem?_eq_getElem hi] at this
      obtain rfl : R = true := HR.out.2 hall
      clear hlt hj hall
      go_wp2_with fail
      go_ret
      exact ⟨_, rfl, ⟨fun _ => rfl, fun x => (by cases x)⟩, HBR.out⟩
theorem obContains_any (a : Option Addr) (n c : Nat) (L : List Pt) (w : World) (hL : Pts w w.heap.size a n c L) (R : Bool) (hR : R = true ↔ ∀ p ∈ L, MayP p) : Calls Tryd.prog 39 #[.slice a n c, .func (.func 38) #[] #[]] w fun e w' => e = .returned (.bool (!R)) ∧ Below w.heap.size w w' := by
  have HX := Lib.hid (obIndex_any a n c L w hL R hR)
  clear hL hR
  cases R with
  | true =>
    go_enter Tryd.func39, Tryd.ntmps39
    go_wp2_with fail
    refine HX.out.mono ?_
    rintro e w1 ⟨z, rfl, hz, b1⟩
    obtain rfl : z = -1 := hz.1 rfl
    have HB1 := Lib.hid b1
    clear b1 hz
    go_wp2_with fail
    go_ret
    exact ⟨rfl, HB1.out⟩
  | false =>
    go_enter Tryd.func39, Tryd.ntmps39
    go_wp2_with fail
    refine HX.out.mono ?_
    rintro e w1 ⟨z, rfl, hz, b1⟩
    have hz0 : 0 ≤ z := hz.2 rfl
    have HB1 := Lib.hid b1
    clear b1 hz
    go_wp2_with fail
    go_ret
    exact ⟨rfl, HB1.out⟩
set_option maxHeartbeats 2000000 in
theorem obMay_any (a : Option Addr) (c : Nat) (O : ObL) (w : World) (h : Pts w w.heap.size a O.2.2.2.length c O.2.2.2) (hw : WfOb O) (R : Bool) (hR : R = true ↔ MayOb O) : Calls Tryd.prog 24 #[obV a c O] w fun e w' => e = .returned (.bool R) ∧ Below w.heap.size w w' := by
  obtain ⟨k, l, s, Lp⟩ := O
  simp only at hR h
  obtain ⟨n, hn⟩ : ∃ n, Lp.length = n := ⟨_, rfl⟩
  have HN := Lib.hid hn
  have HR := Lib.hid hR
  have hk8 := hw.1
  simp only at hk8
  simp only [obV]
  rw [hn] at h ⊢
  obtain ⟨kz, hkz⟩ : ∃ z : Int, (k : Int) = z := ⟨_, rfl⟩
  have HK := Lib.hid hkz
  rw [hkz]
  have kz0 : 0 ≤ kz := by omega
  have kz1 : kz ≤ 255 := by omega
  have hnc := h.2.1
  have hcm := h.2.2.1
  have n0 : (0 : Int) ≤ n := by omega
  have n9 : (n : Int) ≤ 9223372036854775807 := by unfold maxLen at hcm; omega
  have xb := Blk.new w 24 #[.int .u8 kz, .int .i64 l, .int .i64 s, .slice a n c]
  have b0 := (Below.refl w.heap.size w).alloc (Nat.le_refl _) (.cells #[.int .u8 kz, .int .i64 l, .int .i64 s, .slice a n c] 24)
  obtain ⟨w0, hw0⟩ : ∃ w0, w.alloc (.cells #[.int .u8 kz, .int .i64 l, .int .i64 s, .slice a n c] 24) = w0 := ⟨_, rfl⟩
  rw [hw0] at xb b0
  have c0 := ox0 xb
  have c1 := ox1 xb
  have c2 := ox2 xb
  have c3 := ox3 xb
  have HB := Lib.hid b0
  have HP := Lib.hid (h.step b0)
  clear h hn hR hkz xb b0 hnc hcm hw hk8
  by_cases q1 : 1 ≤ kz ∧ kz ≤ 7
  · by_cases q2 : 0 ≤ l ∧ l ≤ 255
    · by_cases q3 : 0 ≤ s ∧ s ≤ 3840
      · by_cases q4 : n = 15
        · subst q4
          have hall : R = true ↔ ∀ p ∈ Lp, MayP p := by
            rw [HR.out]
            refine ⟨fun h => h.2, fun h => ⟨?_, h⟩⟩
            have hk := HK.out
            have hn := HN.out
            unfold HeadOb
            simp only
            omega
          have HC := Lib.hid (obContains_any a 15 c Lp w0 HP.out R hall)
          clear HR HK HN HP hall
          go_enter Tryd.func24, Tryd.ntmps24
          go_wp2_with fail
          clear hw0
          refine (obWithin_any kz 1 7 w0 true ⟨fun _ => q1, fun _ => rfl⟩).mono ?_
          rintro e w1 ⟨rfl, rfl⟩
          go_wp2_with fail
          refine (obWithin_any l 0 255 w0 true ⟨fun _ => q2, fun _ => rfl⟩).mono ?_
          rintro e w1 ⟨rfl, rfl⟩
          go_wp2_with fail
          refine (obWithin_any s 0 3840 w0 true ⟨fun _ => q3, fun _ => rfl⟩).mono ?_
          rintro e w1 ⟨rfl, rfl⟩
          go_wp2_with fail
          refine HC.out.mono ?_
          rintro e w1 ⟨rfl, b1⟩
          have HB1 := Lib.hid (HB.out.trans (b1.mono HB.out.size))
          clear b1
          go_wp2_with fail
          go_ret
          exact ⟨by simp, HB1.out⟩
        · have q4' : ((n : Int) == 15) = false := by simp; omega
          obtain rfl : R = false := by
            cases R with
            | false => rfl
            | true =>
              have := (HR.out.1 rfl).1
              unfold HeadOb at this
              have hk := HK.out
              have hn := HN.out
              simp only at this
              omega
          clear HR HK HN HP
          go_enter Tryd.func24, Tryd.ntmps24
          go_wp2_with fail
          clear hw0
          refine (obWithin_any kz 1 7 w0 true ⟨fun _ => q1, fun _ => rfl⟩).mono ?_
          rintro e w1 ⟨rfl, rfl⟩
          go_wp2_with fail
          refine (obWithin_any l 0 255 w0 true ⟨fun _ => q2, fun _ => rfl⟩).mono ?_
          rintro e w1 ⟨rfl, rfl⟩
          go_wp2_with fail
          refine (obWithin_any s 0 3840 w0 true ⟨fun _ => q3, fun _ => rfl⟩).mono ?_
          rintro e w1 ⟨rfl, rfl⟩
          go_wp2_with fail
          go_ret
          exact ⟨rfl, HB.out⟩
      · obtain rfl : R = false := by
          cases R with
          | false => rfl
          | true =>
            have := (HR.out.1 rfl).1
            unfold HeadOb at this
            have hk := HK.out
            have hn := HN.out
            simp only at this
            omega
        clear HR HK HN HP
        go_enter Tryd.func24, Tryd.ntmps24
        go_wp2_with fail
        clear hw0
        refine (obWithin_any kz 1 7 w0 true ⟨fun _ => q1, fun _ => rfl⟩).mono ?_
        rintro e w1 ⟨rfl, rfl⟩
        go_wp2_with fail
        refine (obWithin_any l 0 255 w0 true ⟨fun _ => q2, fun _ => rfl⟩).mono ?_
        rintro e w1 ⟨rfl, rfl⟩
        go_wp2_with fail
        refine (obWithin_any s 0 3840 w0 false ⟨fun x => (by cases x), fun x => absurd x q3⟩).mono ?_
        rintro e w1 ⟨rfl, rfl⟩
        go_wp2_with fail
        go_ret
        exact ⟨rfl, HB.out⟩
    · obtain rfl : R = false := by
        cases R with
        | false => rfl
        | true =>
          have := (HR.out.1 rfl).1
          unfold HeadOb at this
          have hk := HK.out
          have hn := HN.out
          simp only at this
          omega
      clear HR HK HN HP
      go_enter Tryd.func24, Tryd.ntmps24
      go_wp2_with fail
      clear hw0
      refine (obWithin_any kz 1 7 w0 true ⟨fun _ => q1, fun _ => rfl⟩).mono ?_
      rintro e w1 ⟨rfl, rfl⟩
      go_wp2_with fail
      refine (obWithin_any l 0 255 w0 false ⟨fun x => (by cases x), fun x => absurd x q2⟩).mono ?_
      rintro e w1 ⟨rfl, rfl⟩
      go_wp2_with fail
      go_ret
      exact ⟨rfl, HB.out⟩
  · obtain rfl : R = false := by
      cases R with
      | false => rfl
      | true =>
        have := (HR.out.1 rfl).1
        unfold HeadOb at this
        have hk := HK.out
        have hn := HN.out
        simp only at this
        omega
    clear HR HK HN HP
    go_enter Tryd.func24, Tryd.ntmps24
    go_wp2_with fail
    clear hw0
    refine (obWithin_any kz 1 7 w0 false ⟨fun x => (by cases x), fun x => absurd x q1⟩).mono ?_
    rintro e w1 ⟨rfl, rfl⟩
    go_wp2_with fail
    go_ret
    exact ⟨rfl, HB.out⟩
set_option maxHeartbeats 2000000 in
theorem obEqual_any (a : Option Addr) (n ca : Nat) (L : List Pt) (b : Option Addr) (m cb : Nat) (M : List Pt) (w : World) (hL : Pts w w.heap.size a n ca L) (hM : Pts w w.heap.size b m cb M) :
    Calls Tryd.prog 31 #[.slice a n ca, .slice b m cb] w fun e w' => e = .returned (.bool (decide (L = M))) ∧ Below w.heap.size w w' := by
  have hl := hL.1
  have hm := hM.1
  have i0 : (0 : Int) ≤ (n : Int) := by omega
  have i1 : (n : Int) ≤ 9223372036854775807 := by have h1 := hL.2.1; have h2 := hL.2.2.1; unfold maxLen at h2; omega
  have hmx : Tryd.prog.follows Departure.mixedOrders = true := by kernel_rfl
  obtain ⟨R, hR⟩ : ∃ R, decide (L = M) = R := ⟨_, rfl⟩
  rw [hR]
  by_cases hnm : n = m
  · subst hnm
    have HLL := Lib.hid hL; clear hL
    have HMM := Lib.hid hM; clear hM
    have HR := Lib.hid hR; clear hR
    have HLN := Lib.hid hl; clear hl
    have HMN := Lib.hid hm; clear hm
    go_enter Tryd.func31, Tryd.ntmps31
    go_wp2_with fail
    go_loopw [13] (fun i wr => ∃ k : Nat, k ≤ n ∧ i = .int .i64 k ∧ (∀ j, j < k → L.getD j p0 = M.getD j p0) ∧ Below w.heap.size w wr) (fun i _ => n - (intOf i).toNat)
    case atStart => exact ⟨0, Nat.zero_le _, rfl, fun j hj => absurd hj (Nat.not_lt_zero _), Below.refl _ _⟩
    case round =>
      obtain ⟨k, hk, rfl, hsame, hb⟩ := hrel
      have k0 : (0 : Int) ≤ k := by omega
      have HB := Lib.hid hb; clear hb
      have HSM := Lib.hid hsame; clear hsame
      by_cases hlt : k < n
      · have k1 : (k : Int) < n := by omega
        obtain ⟨b1, o1, ea, hblt, _, c0, c1, c2, c3, c4⟩ := (HLL.out.below HB.out).cells k hlt
        obtain ⟨b2, o2, eb, hblt2, _, d0, d1, d2, d3, d4⟩ := (HMM.out.below HB.out).cells k hlt
        subst ea
        subst eb
        obtain ⟨P, hP⟩ : ∃ P, L.getD k p0 = P := ⟨_, rfl⟩
        obtain ⟨Q, hQ⟩ : ∃ Q, M.getD k p0 = Q := ⟨_, rfl⟩
        rw [hP] at c0 c1 c2 c3 c4
        rw [hQ] at d0 d1 d2 d3 d4
        have HP := Lib.hid hP
        have HQ := Lib.hid hQ
        clear hP hQ hblt hblt2
        have heq : eqP P Q = decide (P = Q) := rfl
        by_cases hpq : P = Q
        · rw [decide_eq_true hpq] at heq
          obtain ⟨x, y, z, t, u⟩ := P
          obtain ⟨x', y', z', t', u'⟩ := Q
          have hlit := eqPt_lit x y z t u x' y' z' t' u'
          rw [heq] at hlit
          have HPQ := Lib.hid hpq
          clear hpq heq
          go_wp2_with fail
          go_quiet (fail)
          go_wp2_with fail
          go_roundw
          case rel =>
            refine ⟨k + 1, by omega, by go_num, fun j hj => ?_, below_drewN HB.out _⟩
            by_cases e : j = k
            · subst e
              rw [HP.out, HQ.out]
              exact HPQ.out
            · exact HSM.out j (by omega)
          case measure => simp [intOf]; omega
        · rw [decide_eq_false hpq] at heq
          have hno : ¬ L = M := fun e => hpq (by rw [← HP.out, ← HQ.out, e])
          have hR := HR.out
          rw [decide_eq_false hno] at hR
          subst hR
          obtain ⟨x, y, z, t, u⟩ := P
          obtain ⟨x', y', z', t', u'⟩ := Q
          have hlit := eqPt_lit x y z t u x' y' z' t' u'
          rw [heq] at hlit
          clear hpq heq hno
          go_wp2_with fail
          go_quiet (fail)
          go_wp2_with fail
          go_ret
          exact ⟨rfl, below_drewN HB.out _⟩
      · obtain rfl : k = n := by omega
        have hyes : L = M := list_same (by rw [HLN.out, HMN.out]) fun j hj => HSM.out j (by rw [← HLN.out]; exact hj)
        have hR := HR.out
        rw [decide_eq_true hyes] at hR
        subst hR
        clear hyes
        go_wp2_with fail
        go_ret
        exact ⟨rfl, HB.out⟩
  · have hno : ¬ L = M := fun e => hnm (by rw [← hl, ← hm, e])
    rw [decide_eq_false hno] at hR
    subst hR
    have hne : ¬ (n : Int) = (m : Int) := by omega
    clear hno hl hm hL hM hnm
    go_enter Tryd.func31, Tryd.ntmps31
    go_wp2_with fail
    go_ret
    exact ⟨rfl, Below.refl _ _⟩
theorem obCheck_any (a : Option Addr) (c : Nat) (O : ObL) (w : World) (h : Pts w w.heap.size a O.2.2.2.length c O.2.2.2) (hw : WfOb O) (z : Nat) (hz : (MayOb O → z = 0) ∧ (¬ MayOb O → z = 8)) : Calls Tryd.prog 11 #[obV a c O] w fun e w' => e = .returned (.int .i64 z) ∧ Below w.heap.size w w' := by
  have xb := Blk.new w 24 (obC a c O)
  have b0 := (Below.refl w.heap.size w).alloc (Nat.le_refl _) (.cells (obC a c O) 24)
  obtain ⟨w0, hw0⟩ : ∃ w0, w.alloc (.cells (obC a c O) 24) = w0 := ⟨_, rfl⟩
  rw [hw0] at xb b0
  have c0 := ox0 xb
  have c1 := ox1 xb
  have c2 := ox2 xb
  have c3 := ox3 xb
  have HB := Lib.hid b0
  have hp := h.step b0
  simp only [obC] at hw0
  clear xb b0
  by_cases hm : MayOb O
  · have HC := Lib.hid (obMay_any a c O w0 hp hw true ⟨fun _ => hm, fun _ => rfl⟩)
    obtain rfl : z = 0 := hz.1 hm
    clear hp hm hz
    go_enter Tryd.func11, Tryd.ntmps11
    go_wp2_with fail
    clear c0 c1 c2 c3 hw0
    refine HC.out.mono ?_
    rintro e w1 ⟨rfl, b1⟩
    have HB1 := Lib.hid (HB.out.trans (b1.mono HB.out.size))
    clear b1
    go_wp2_with fail
    go_ret
    exact ⟨rfl, HB1.out⟩
  · have HC := Lib.hid (obMay_any a c O w0 hp hw false ⟨fun h => (by cases h), fun h => absurd h hm⟩)
    obtain rfl : z = 8 := hz.2 hm
    clear hp hm hz
    go_enter Tryd.func11, Tryd.ntmps11
    go_wp2_with fail
    clear c0 c1 c2 c3 hw0
    refine HC.out.mono ?_
    rintro e w1 ⟨rfl, b1⟩
    have HB1 := Lib.hid (HB.out.trans (b1.mono HB.out.size))
    clear b1
    go_wp2_with fail
    go_ret
    exact ⟨rfl, HB1.out⟩
set_option maxHeartbeats 2000000 in
theorem obSame_any (a : Option Addr) (c : Nat) (O : ObL) (b : Option Addr) (d : Nat) (M : ObL) (w : World) (h : Pts w w.heap.size a O.2.2.2.length c O.2.2.2) (h' : Pts w w.heap.size b M.2.2.2.length d M.2.2.2) (R : Bool) (hR : R = true ↔ O = M) : Calls Tryd.prog 17 #[obV a c O, obV b d M] w fun e w' => e = .returned (.bool R) ∧ Below w.heap.size w w' := by
  obtain ⟨k, l, s, Lp⟩ := O
  obtain ⟨k', l', s', Mp⟩ := M
  simp only at h h'
  simp only [obV]
  have b0 : Below w.heap.size w ((w.alloc (.cells #[.int .u8 (k : Int), .int .i64 l, .int .i64 s, .slice a Lp.length c] 24)).alloc (.cells #[.int .u8 (k' : Int), .int .i64 l', .int .i64 s', .slice b Mp.length d] 24)) := ((Below.refl w.heap.size w).alloc (Nat.le_refl _) _).alloc (by rw [World.size_alloc]; omega) _
  have xa := (Blk.new w 24 #[.int .u8 (k : Int), .int .i64 l, .int .i64 s, .slice a Lp.length c]).alloc (.cells #[.int .u8 (k' : Int), .int .i64 l', .int .i64 s', .slice b Mp.length d] 24)
  have xb := Blk.new (w.alloc (.cells #[.int .u8 (k : Int), .int .i64 l, .int .i64 s, .slice a Lp.length c] 24)) 24 #[.int .u8 (k' : Int), .int .i64 l', .int .i64 s', .slice b Mp.length d]
  rw [World.size_alloc] at xb
  obtain ⟨w0, hw0⟩ : ∃ w0, (w.alloc (.cells #[.int .u8 (k : Int), .int .i64 l, .int .i64 s, .slice a Lp.length c] 24)).alloc (.cells #[.int .u8 (k' : Int), .int .i64 l', .int .i64 s', .slice b Mp.length d] 24) = w0 := ⟨_, rfl⟩
  rw [hw0] at b0 xa xb
  have c0 := ox0 xa
  have c1 := ox1 xa
  have c2 := ox2 xa
  have c3 := ox3 xa
  have d0 := ox0 xb
  have d1 := ox1 xb
  have d2 := ox2 xb
  have d3 := ox3 xb
  have HB := Lib.hid b0
  have HS := Lib.hid (obEqual_any a Lp.length c Lp b Mp.length d Mp w0 (h.step b0) (h'.step b0))
  have HR := Lib.hid hR
  clear b0 xa xb h h' hR
  by_cases e : k = k'
  · have f1 : ((k : Int) == k') = true := by simp [e]
    have E1 := Lib.hid e
    clear e
    by_cases e : l = l'
    · have f2 : (l == l') = true := by simp [e]
      have E2 := Lib.hid e
      clear e
      by_cases e : s = s'
      · have f3 : (s == s') = true := by simp [e]
        have hs := HS.out
        have hRd : decide (Lp = Mp) = R := by
          cases R with
          | true =>
            have := HR.out.1 rfl
            simp only [Prod.mk.injEq] at this
            exact decide_eq_true this.2.2.2
          | false => exact decide_eq_false (fun hh => by have := HR.out.2 (by rw [E1.out, E2.out, e, hh]); cases this)
        rw [hRd] at hs
        have HS2 := Lib.hid hs
        clear hs hRd HS HR E1 E2 e
        go_enter Tryd.func17, Tryd.ntmps17
        go_wp2_with fail
        clear c0 c1 c2 c3 d0 d1 d2 d3 hw0
        refine HS2.out.mono ?_
        rintro e w1 ⟨rfl, b1⟩
        have HB1 := Lib.hid (HB.out.trans (b1.mono HB.out.size))
        clear b1
        go_wp2_with fail
        go_ret
        exact ⟨rfl, HB1.out⟩
      · have f3 : (s == s') = false := by simp [e]
        obtain rfl : R = false := by
          cases R with
          | false => rfl
          | true =>
            have := HR.out.1 rfl
            simp only [Prod.mk.injEq] at this
            exact absurd this.2.2.1 e
        clear HR e
        go_enter Tryd.func17, Tryd.ntmps17
        go_wp2_with fail
        go_ret
        exact ⟨rfl, HB.out⟩
    · have f2 : (l == l') = false := by simp [e]
      obtain rfl : R = false := by
        cases R with
        | false => rfl
        | true =>
          have := HR.out.1 rfl
          simp only [Prod.mk.injEq] at this
          exact absurd this.2.1 e
      clear HR e
      go_enter Tryd.func17, Tryd.ntmps17
      go_wp2_with fail
      go_ret
      exact ⟨rfl, HB.out⟩
  · have f1 : ((k : Int) == k') = false := by simp; omega
    obtain rfl : R = false := by
      cases R with
      | false => rfl
      | true =>
        have := HR.out.1 rfl
        simp only [Prod.mk.injEq] at this
        exact absurd this.1 e
    clear HR e
    go_enter Tryd.func17, Tryd.ntmps17
    go_wp2_with fail
    go_ret
    exact ⟨rfl, HB.out⟩
end Go.Proofs.YtennhempdnpobaaDoor
