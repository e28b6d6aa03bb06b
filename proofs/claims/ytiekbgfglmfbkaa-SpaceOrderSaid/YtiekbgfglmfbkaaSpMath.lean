/-
  Tables of blocks as plain lists of bytes: which may be, which blocks are free, what is counted, what is settled.
-/
import Derived.Test.YtiekbgfglmfbkaaOwn
namespace Go.Proofs.Ytiekbgfglmfbkaa
open Go.RowKit Go.Shelf
set_option maxRecDepth 100000

theorem ite_iff {α : Type} {p q : Prop} [Decidable p] [Decidable q] (h : p ↔ q) (a b : α) : (if p then a else b) = if q then a else b := by
  by_cases hp : p
  · rw [if_pos hp, if_pos (h.1 hp)]
  · rw [if_neg hp, if_neg (fun hq => hp (h.2 hq))]
/-- The mark of a block. -/
def mkT (s : List UInt8) (i : Nat) : Nat := (s.getD i 0).toNat
theorem mkT_lt (s : List UInt8) (i : Nat) : mkT s i < 256 := (s.getD i 0).toNat_lt
theorem mkT_set (s : List UInt8) (a : Nat) (y : UInt8) (i : Nat) (ha : a < s.length) : mkT (s.set a y) i = if i = a then y.toNat else mkT s i := by
  unfold mkT
  rw [List.getD_eq_getElem?_getD, List.getElem?_set, List.getD_eq_getElem?_getD]
  by_cases h : a = i
  · subst h; simp [ha]
  · rw [if_neg h, if_neg (fun e => h e.symm)]
theorem ext_mkT {s t : List UInt8} (hl : s.length = t.length) (h : ∀ i, i < s.length → mkT s i = mkT t i) : s = t := by
  apply List.ext_getElem hl
  intro i h1 h2
  have := h i h1
  unfold mkT at this
  rw [List.getD_eq_getElem?_getD, List.getD_eq_getElem?_getD, List.getElem?_eq_getElem h1, List.getElem?_eq_getElem h2] at this
  exact UInt8.toNat_inj.1 this
/-- A table may be. -/
def MayT (s : List UInt8) : Prop := s.length = 256 ∧ (∀ i, i < 256 → mkT s i ≤ 2) ∧ ∀ i, i < 12 → mkT s i = 1
/-- The first place from p on, below n, where P holds; or there is none. -/
theorem first_from (P : Nat → Prop) (p n : Nat) : (∃ k, p ≤ k ∧ k < n ∧ P k ∧ ∀ i, p ≤ i → i < k → ¬ P i) ∨ ∀ i, p ≤ i → i < n → ¬ P i := by
  induction n with
  | zero => exact .inr fun i _ h => absurd h (Nat.not_lt_zero _)
  | succ n ih =>
    rcases ih with ⟨k, h1, h2, h3, h4⟩ | h
    · exact .inl ⟨k, h1, by omega, h3, h4⟩
    · by_cases hp : p ≤ n ∧ P n
      · exact .inl ⟨n, hp.1, Nat.lt_succ_self n, hp.2, h⟩
      · refine .inr fun i hi hl hpi => ?_
        rcases Nat.lt_or_ge i n with h5 | h5
        · exact h i hi h5 hpi
        · obtain rfl : i = n := by omega
          exact hp ⟨hi, hpi⟩
/-- The free blocks below n, rising. -/
def freeTo (s : List UInt8) : Nat → List Nat
  | 0 => []
  | n + 1 => if mkT s n = 0 then freeTo s n ++ [n] else freeTo s n
theorem freeTo_yes {s : List UInt8} {n : Nat} (h : mkT s n = 0) : freeTo s (n + 1) = freeTo s n ++ [n] := by rw [freeTo, if_pos h]
theorem freeTo_no {s : List UInt8} {n : Nat} (h : mkT s n ≠ 0) : freeTo s (n + 1) = freeTo s n := by rw [freeTo, if_neg h]
theorem freeTo_same {s : List UInt8} {p : Nat} : ∀ {n : Nat}, p ≤ n → (∀ i, p ≤ i → i < n → mkT s i ≠ 0) → freeTo s n = freeTo s p
  | n, h, hn => by
    rcases Nat.lt_or_ge p n with h1 | h1
    · obtain ⟨m, rfl⟩ : ∃ m, n = m + 1 := ⟨n - 1, by omega⟩
      rw [freeTo_no (hn m (by omega) (by omega)), freeTo_same (n := m) (by omega) fun i h2 h3 => hn i h2 (by omega)]
    · obtain rfl : n = p := by omega
      rfl
theorem freeTo_mem {s : List UInt8} : ∀ {n i : Nat}, i ∈ freeTo s n ↔ i < n ∧ mkT s i = 0
  | 0, i => by simp [freeTo]
  | n + 1, i => by
    by_cases h : mkT s n = 0
    · rw [freeTo_yes h, List.mem_append, freeTo_mem, List.mem_singleton]
      constructor
      · rintro (⟨h1, h2⟩ | rfl)
        · exact ⟨by omega, h2⟩
        · exact ⟨by omega, h⟩
      · rintro ⟨h1, h2⟩
        rcases Nat.lt_or_ge i n with h3 | h3
        · exact .inl ⟨h3, h2⟩
        · exact .inr (by omega)
    · rw [freeTo_no h, freeTo_mem]
      constructor
      · rintro ⟨h1, h2⟩; exact ⟨by omega, h2⟩
      · rintro ⟨h1, h2⟩
        refine ⟨?_, h2⟩
        rcases Nat.lt_or_ge i n with h3 | h3
        · exact h3
        · obtain rfl : i = n := by omega
          exact absurd h2 h
/-- How many blocks below n have the mark m. -/
def cntTo (s : List UInt8) (m : Nat) : Nat → Nat
  | 0 => 0
  | n + 1 => cntTo s m n + if mkT s n = m then 1 else 0
theorem freeTo_length (s : List UInt8) : ∀ n, (freeTo s n).length = cntTo s 0 n
  | 0 => rfl
  | n + 1 => by
    by_cases h : mkT s n = 0
    · rw [freeTo_yes h, List.length_append, freeTo_length s n, cntTo, if_pos h]; rfl
    · rw [freeTo_no h, freeTo_length s n, cntTo, if_neg h]; rfl
theorem cntTo_le (s : List UInt8) (m : Nat) : ∀ n, cntTo s m n ≤ n
  | 0 => Nat.le_refl _
  | n + 1 => by have := cntTo_le s m n; rw [cntTo]; split <;> omega
theorem cntTo_mono (s : List UInt8) (m : Nat) {p : Nat} : ∀ {n : Nat}, p ≤ n → cntTo s m p ≤ cntTo s m n
  | n, h => by
    rcases Nat.lt_or_ge p n with h1 | h1
    · obtain ⟨q, rfl⟩ : ∃ q, n = q + 1 := ⟨n - 1, by omega⟩
      have := cntTo_mono s m (p := p) (n := q) (by omega)
      rw [cntTo]; omega
    · obtain rfl : n = p := by omega
      exact Nat.le_refl _
theorem cntTo_all {s : List UInt8} {m : Nat} : ∀ {n : Nat}, (∀ i, i < n → mkT s i = m) → cntTo s m n = n
  | 0, _ => rfl
  | n + 1, h => by rw [cntTo, cntTo_all fun i hi => h i (by omega), if_pos (h n (by omega))]
theorem cntTo_sum {s : List UInt8} : ∀ {n : Nat}, (∀ i, i < n → mkT s i ≤ 2) → cntTo s 0 n + cntTo s 1 n + cntTo s 2 n = n
  | 0, _ => rfl
  | n + 1, h => by
    have ih := cntTo_sum (s := s) (n := n) fun i hi => h i (by omega)
    have := h n (by omega)
    rw [cntTo, cntTo, cntTo]
    rcases (show mkT s n = 0 ∨ mkT s n = 1 ∨ mkT s n = 2 by omega) with e | e | e
    all_goals
      rw [e]
      simp only [if_true, if_false, Nat.reduceEqDiff]
      omega
theorem cntTo_same {s t : List UInt8} {m : Nat} : ∀ {n : Nat}, (∀ i, i < n → (mkT s i = m ↔ mkT t i = m)) → cntTo s m n = cntTo t m n
  | 0, _ => rfl
  | n + 1, h => by
    rw [cntTo, cntTo, cntTo_same fun i hi => h i (by omega)]
    congr 1
    exact ite_iff (h n (by omega)) _ _
theorem cntTo_set (s : List UInt8) (a : Nat) (y : UInt8) (ha : a < s.length) (m : Nat) : ∀ n, cntTo (s.set a y) m n + (if a < n ∧ mkT s a = m then 1 else 0) = cntTo s m n + (if a < n ∧ y.toNat = m then 1 else 0)
  | 0 => by simp [cntTo]
  | n + 1 => by
    have ih := cntTo_set s a y ha m n
    rw [cntTo, cntTo, mkT_set s a y n ha]
    by_cases e : n = a
    · subst e
      rw [if_pos rfl]
      rw [if_neg (by omega), if_neg (by omega)] at ih
      rw [ite_iff (show (n < n + 1 ∧ mkT s n = m ↔ mkT s n = m) from ⟨fun h => h.2, fun h => ⟨by omega, h⟩⟩), ite_iff (show (n < n + 1 ∧ y.toNat = m ↔ y.toNat = m) from ⟨fun h => h.2, fun h => ⟨by omega, h⟩⟩)]
      omega
    · rw [if_neg e]
      have h1 : (a < n + 1 ∧ mkT s a = m) ↔ (a < n ∧ mkT s a = m) := ⟨fun h => ⟨by omega, h.2⟩, fun h => ⟨by omega, h.2⟩⟩
      have h2 : (a < n + 1 ∧ y.toNat = m) ↔ (a < n ∧ y.toNat = m) := ⟨fun h => ⟨by omega, h.2⟩, fun h => ⟨by omega, h.2⟩⟩
      rw [ite_iff h1, ite_iff h2]
      omega
theorem cntTo_pos {s : List UInt8} {m a n : Nat} (ha : a < n) (h : mkT s a = m) : 0 < cntTo s m n := by
  have := cntTo_mono s m (show a + 1 ≤ n from ha)
  rw [cntTo, if_pos h] at this
  omega
theorem cntTo_none {s : List UInt8} {m : Nat} : ∀ {n : Nat}, (∀ i, i < n → mkT s i ≠ m) → cntTo s m n = 0
  | 0, _ => rfl
  | n + 1, h => by rw [cntTo, cntTo_none fun i hi => h i (by omega), if_neg (h n (by omega))]
/-- The first n blocks settled. -/
def stTo (s : List UInt8) : Nat → List UInt8
  | 0 => s
  | n + 1 => if mkT s n = 2 then (stTo s n).set n 0 else stTo s n
theorem stTo_length (s : List UInt8) : ∀ n, (stTo s n).length = s.length
  | 0 => rfl
  | n + 1 => by rw [stTo]; split <;> simp [stTo_length s n]
theorem stTo_mk (s : List UInt8) : ∀ (n : Nat), n ≤ s.length → ∀ i, mkT (stTo s n) i = if i < n ∧ mkT s i = 2 then 0 else mkT s i
  | 0, _, i => by simp [stTo]
  | n + 1, hn, i => by
    have ih := stTo_mk s n (by omega) i
    have hl : n < (stTo s n).length := by rw [stTo_length]; omega
    rw [stTo]
    by_cases h : mkT s n = 2
    · rw [if_pos h, mkT_set _ _ _ _ hl, ih]
      by_cases e : i = n
      · subst e; simp [h]
      · rw [if_neg e]
        exact ite_iff ⟨fun h => ⟨by omega, h.2⟩, fun h => ⟨by omega, h.2⟩⟩ _ _
    · rw [if_neg h, ih]
      refine ite_iff ⟨fun h => ⟨by omega, h.2⟩, fun hh => ⟨?_, hh.2⟩⟩ _ _
      rcases Nat.lt_or_ge i n with h3 | h3
      · exact h3
      · obtain rfl : i = n := by omega
        exact absurd hh.2 h
/-- All that was given up is free. -/
def settleL (s : List UInt8) : List UInt8 := stTo s 256
theorem settleL_mk {s : List UInt8} (h : MayT s) {i : Nat} (hi : i < 256) : mkT (settleL s) i = if mkT s i = 2 then 0 else mkT s i := by
  unfold settleL
  rw [stTo_mk s 256 (by rw [h.1]; omega)]
  exact ite_iff ⟨fun h => h.2, fun h => ⟨hi, h⟩⟩ _ _
theorem settleL_may {s : List UInt8} (h : MayT s) : MayT (settleL s) := by
  refine ⟨by unfold settleL; rw [stTo_length]; exact h.1, fun i hi => ?_, fun i hi => ?_⟩
  · rw [settleL_mk h hi]
    have := h.2.1 i hi
    split <;> omega
  · rw [settleL_mk h (by omega), h.2.2 i hi]
    rfl
theorem settleL_twice {s : List UInt8} (h : MayT s) : settleL (settleL s) = settleL s := by
  have h2 := settleL_may h
  refine ext_mkT (by rw [(settleL_may h2).1, h2.1]) fun i hi => ?_
  rw [(settleL_may h2).1] at hi
  rw [settleL_mk h2 hi]
  rw [settleL_mk h hi]
  by_cases e : mkT s i = 2
  · rw [if_pos e]; rfl
  · rw [if_neg e, if_neg e]
theorem set_may {s : List UInt8} (h : MayT s) {a : Nat} (ha : 12 ≤ a) (hb : a < 256) (y : UInt8) (hy : y.toNat ≤ 2) : MayT (s.set a y) := by
  have hl : a < s.length := by rw [h.1]; exact hb
  refine ⟨by simp [h.1], fun i hi => ?_, fun i hi => ?_⟩
  · rw [mkT_set s a y i hl]
    split
    · exact hy
    · exact h.2.1 i hi
  · rw [mkT_set s a y i hl, if_neg (by omega)]
    exact h.2.2 i hi
theorem MayT.free_ge {s : List UInt8} (h : MayT s) {a : Nat} (ha : mkT s a ≠ 1) : 12 ≤ a := by
  rcases Nat.lt_or_ge a 12 with h1 | h1
  · exact absurd (h.2.2 a h1) ha
  · exact h1
/-- The table that New tells: its first k fixed blocks are laid. -/
def newTo (k : Nat) : List UInt8 := List.replicate k 1 ++ List.replicate (256 - k) 0
theorem newTo_length {k : Nat} (h : k ≤ 256) : (newTo k).length = 256 := by simp [newTo]; omega
theorem newTo_set {k : Nat} (h : k < 256) : (newTo k).set k 1 = newTo (k + 1) := by
  unfold newTo
  rw [List.set_append_right _ _ (by simp), List.length_replicate, Nat.sub_self, show 256 - k = (256 - (k + 1)) + 1 by omega, List.replicate_succ, List.set_cons_zero, List.replicate_succ' (n := k), List.append_assoc]
  rfl
theorem newTo_mk (i : Nat) (hi : i < 256) : mkT (newTo 12) i = if i < 12 then 1 else 0 := by
  unfold mkT newTo
  rw [List.getD_eq_getElem?_getD]
  by_cases h : i < 12
  · rw [List.getElem?_append_left (by simpa using h), if_pos h, List.getElem?_replicate, if_pos h]
    rfl
  · rw [List.getElem?_append_right (by simp; omega), if_neg h, List.getElem?_replicate, List.length_replicate, if_pos (by omega)]
    rfl
theorem new_may : MayT (newTo 12) := by
  refine ⟨newTo_length (by omega), fun i hi => ?_, fun i hi => ?_⟩
  · rw [newTo_mk i hi]; split <;> omega
  · rw [newTo_mk i (by omega), if_pos hi]
end Go.Proofs.Ytiekbgfglmfbkaa
