/-
  The document's own Rows and Same of pointers.
-/
import Derived.Test.YtadffkfalclpjaaRpC
import Derived.Test.YtadffkfalclpjaaPRow
namespace Go.Proofs.Ytadffkfalclpjaa
open Go.RowKit Go.Shelf
set_option maxRecDepth 100000

/-- The pointers of a row's first k windows. -/
def rowsTo (s : List UInt8) (k : Nat) : List Pt := (List.range k).map fun i => getP (winP s i)
theorem rowsTo_step (s : List UInt8) (k : Nat) : rowsTo s (k + 1) = rowsTo s k ++ [getP (winP s k)] := by simp [rowsTo, List.range_succ]
theorem rowsTo_length (s : List UInt8) (k : Nat) : (rowsTo s k).length = k := by simp [rowsTo]
theorem rowsL_length (s : List UInt8) : (rowsL s).length = 16 := by simp [rowsL]
theorem list_same {L M : List Pt} (hl : L.length = M.length) (h : ∀ j, j < L.length → L.getD j p0 = M.getD j p0) : L = M := by
  apply List.ext_getElem hl
  intro i h1 h2
  have := h i h1
  rwa [List.getD_eq_getElem?_getD, List.getElem?_eq_getElem h1, List.getD_eq_getElem?_getD, List.getElem?_eq_getElem h2] at this
set_option maxHeartbeats 1000000 in
theorem rpSame_any (a : Option Addr) (n ca : Nat) (L : List Pt) (b : Option Addr) (m cb : Nat) (M : List Pt) (w : World) (hL : Pts w w.heap.size a n ca L) (hM : Pts w w.heap.size b m cb M) :
    Calls Try.prog 13 #[.slice a n ca, .slice b m cb] w fun e w' => e = .returned (.bool (decide (L = M))) ∧ Below w.heap.size w w' := by
  have hl := hL.1
  have hm := hM.1
  have i0 : (0 : Int) ≤ (n : Int) := by omega
  have i1 : (n : Int) ≤ 9223372036854775807 := by have h1 := hL.2.1; have h2 := hL.2.2.1; unfold maxLen at h2; omega
  have hmx : Try.prog.follows Departure.mixedOrders = true := by kernel_rfl
  obtain ⟨R, hR⟩ : ∃ R, decide (L = M) = R := ⟨_, rfl⟩
  rw [hR]
  by_cases hnm : n = m
  · subst hnm
    have HLL := Lib.hid hL; clear hL
    have HMM := Lib.hid hM; clear hM
    have HR := Lib.hid hR; clear hR
    have HLN := Lib.hid hl; clear hl
    have HMN := Lib.hid hm; clear hm
    go_enter Try.func13, Try.ntmps13
    go_wp2_with fail
    go_loopw [5] (fun i wr => ∃ k : Nat, k ≤ n ∧ i = .int .i64 k ∧ (∀ j, j < k → L.getD j p0 = M.getD j p0) ∧ Below w.heap.size w wr) (fun i _ => n - (intOf i).toNat)
    case atStart => exact ⟨0, Nat.zero_le _, rfl, fun j hj => absurd hj (Nat.not_lt_zero _), Below.refl _ _⟩
    case round =>
      obtain ⟨k, hk, rfl, hsame, hb⟩ := hrel
      have k0 : (0 : Int) ≤ k := by omega
      have HB := Lib.hid hb; clear hb
      have HSM := Lib.hid hsame; clear hsame
      by_cases hlt : k < n
      · have k1 : (k : Int) < n := by omega
        obtain ⟨b1, o1, ea, hblt, _, c0, c1, c2, c3, c4⟩ := (HLL.out.below HB.out).cells k hlt
        obtain ⟨b2, o2, eb, hblt2, _, d0, d1, d2, d3, d4⟩ := (HMM.out.below HB.out).cells k hlt
        subst ea
        subst eb
        obtain ⟨P, hP⟩ : ∃ P, L.getD k p0 = P := ⟨_, rfl⟩
        obtain ⟨Q, hQ⟩ : ∃ Q, M.getD k p0 = Q := ⟨_, rfl⟩
        rw [hP] at c0 c1 c2 c3 c4
        rw [hQ] at d0 d1 d2 d3 d4
        have HP := Lib.hid hP
        have HQ := Lib.hid hQ
        clear hP hQ hblt hblt2
        have heq : eqP P Q = decide (P = Q) := rfl
        by_cases hpq : P = Q
        · rw [decide_eq_true hpq] at heq
          obtain ⟨x, y, z, t, u⟩ := P
          obtain ⟨x', y', z', t', u'⟩ := Q
          have hlit := eqPt_lit x y z t u x' y' z' t' u'
          rw [heq] at hlit
          have HPQ := Lib.hid hpq
          clear hpq heq
          go_wp2_with fail
          go_quiet (fail)
          go_wp2_with fail
          go_roundw
          case rel =>
            refine ⟨k + 1, by omega, by go_num, fun j hj => ?_, below_drewN HB.out _⟩
            by_cases e : j = k
            · subst e
              rw [HP.out, HQ.out]
              exact HPQ.out
            · exact HSM.out j (by omega)
          case measure => simp [intOf]; omega
        · rw [decide_eq_false hpq] at heq
          have hno : ¬ L = M := fun e => hpq (by rw [← HP.out, ← HQ.out, e])
          have hR := HR.out
          rw [decide_eq_false hno] at hR
          subst hR
          obtain ⟨x, y, z, t, u⟩ := P
          obtain ⟨x', y', z', t', u'⟩ := Q
          have hlit := eqPt_lit x y z t u x' y' z' t' u'
          rw [heq] at hlit
          clear hpq heq hno
          go_wp2_with fail
          go_quiet (fail)
          go_wp2_with fail
          go_ret
          exact ⟨rfl, below_drewN HB.out _⟩
      · obtain rfl : k = n := by omega
        have hyes : L = M := list_same (by rw [HLN.out, HMN.out]) fun j hj => HSM.out j (by rw [← HLN.out]; exact hj)
        have hR := HR.out
        rw [decide_eq_true hyes] at hR
        subst hR
        clear hyes
        go_wp2_with fail
        go_ret
        exact ⟨rfl, HB.out⟩
  · have hno : ¬ L = M := fun e => hnm (by rw [← hl, ← hm, e])
    rw [decide_eq_false hno] at hR
    subst hR
    have hne : ¬ (n : Int) = (m : Int) := by omega
    clear hno hl hm hL hM hnm
    go_enter Try.func13, Try.ntmps13
    go_wp2_with fail
    go_ret
    exact ⟨rfl, Below.refl _ _⟩
end Go.Proofs.Ytadffkfalclpjaa
