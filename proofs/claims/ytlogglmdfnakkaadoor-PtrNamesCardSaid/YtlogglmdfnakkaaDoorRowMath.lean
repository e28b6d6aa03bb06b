/-
  A row of pointers and the pointers that it has: there and back.
-/
import Derived.Test.YtlogglmdfnakkaaDoorRpD
import Derived.Test.YtlogglmdfnakkaaDoorRpE
namespace Go.Proofs.YtlogglmdfnakkaaDoor
open Go.RowKit Go.Shelf
set_option maxRecDepth 100000

theorem rowO_cases (L : List Pt) : (∃ c : Int, rowO L = ([], c) ∧ c ≠ 0 ∧ (c = 4 → 16 < L.length)) ∨ (L.length ≤ 16 ∧ (∀ p ∈ L, MayP p) ∧ rowO L = (rowTo L L.length, 0)) := by
  unfold rowO
  by_cases h : 16 < L.length
  · rw [if_pos h]
    exact .inl ⟨4, rfl, by decide, fun _ => h⟩
  · rw [if_neg h]
    by_cases h2 : ∀ p ∈ L, MayP p
    · rw [if_pos h2]
      exact .inr ⟨by omega, h2, rfl⟩
    · rw [if_neg h2]
      exact .inl ⟨8, rfl, by decide, fun e => absurd e (by decide)⟩
theorem rowsO_cases (s : List UInt8) : (∃ c : Int, rowsO s = ([], c) ∧ c ≠ 0) ∨ (s.length = 256 ∧ (∀ p ∈ rowsL s, MayP p) ∧ rowsO s = (rowsL s, 0)) := by
  unfold rowsO
  by_cases h : s.length = 256
  · rw [if_pos h]
    by_cases h2 : ∀ p ∈ rowsL s, MayP p
    · rw [if_pos h2]
      exact .inr ⟨h, h2, rfl⟩
    · rw [if_neg h2]
      exact .inl ⟨8, rfl, by decide⟩
  · rw [if_neg h]
    exact .inl ⟨3, rfl, by decide⟩
theorem win_packTo (L : List Pt) : ∀ (k i : Nat), i < k → ((packTo L k).drop (16 * i)).take 16 = bytesP (L.getD i p0)
  | k + 1, i, h => by
    rw [packTo_step]
    have hl := packTo_length L k
    by_cases e : i = k
    · subst e
      rw [← hl, List.drop_left, List.take_of_length_le (by rw [bytesP_length]; exact Nat.le_refl _)]
    · rw [List.drop_append_of_le_length (by omega), List.take_append_of_le_length (by rw [List.length_drop]; omega)]
      exact win_packTo L k i (by omega)
/-- A row's pointers, none where there is none. -/
def fillL (L : List Pt) : List Pt := (List.range 16).map fun i => L.getD i p0
theorem rowsL_row {L : List Pt} (h16 : L.length ≤ 16) (hm : ∀ p ∈ L, MayP p) (hw : ∀ p ∈ L, WfP p) : rowsL (rowTo L L.length) = fillL L := by
  rw [← packTo_row L h16, rowsL, fillL]
  apply List.map_congr_left
  intro i hi
  rw [winP, win_packTo L 16 i (List.mem_range.1 hi), getP_bytesP (getD_may hm i) (getD_wf hw i)]
theorem rowsO_row {L : List Pt} (h16 : L.length ≤ 16) (hm : ∀ p ∈ L, MayP p) (hw : ∀ p ∈ L, WfP p) : rowsO (rowTo L L.length) = (fillL L, 0) := by
  rw [rowsO, if_pos (rowTo_length L L.length (Nat.le_refl _) h16), rowsL_row h16 hm hw, if_pos]
  intro p hp
  obtain ⟨i, _, rfl⟩ := List.mem_map.1 hp
  exact getD_may hm i
theorem fillL_get (L : List Pt) (i : Nat) (hi : i < 16) : (fillL L).getD i p0 = L.getD i p0 := by simp [fillL, List.getD_eq_getElem?_getD, hi]
theorem fillL_length (L : List Pt) : (fillL L).length = 16 := by simp [fillL]
theorem wins_take (s : List UInt8) : ∀ k, (List.range k).flatMap (winP s) = s.take (16 * k)
  | 0 => by simp
  | k + 1 => by
    rw [List.range_succ, List.flatMap_append, wins_take s k, List.flatMap_cons, List.flatMap_nil, List.append_nil, Nat.mul_add, List.take_add]
    rfl
theorem rowTo_rows {s : List UInt8} (h : s.length = 256) : rowTo (rowsL s) 16 = s := by
  have hl := rowsL_length s
  rw [rowTo, List.take_of_length_le (by omega)]
  have e : (rowsL s).flatMap bytesP = s := by
    rw [rowsL, List.flatMap_map]
    have : (List.range 16).flatMap (fun i => bytesP (getP (winP s i))) = (List.range 16).flatMap (winP s) := by
      rw [List.flatMap_def, List.flatMap_def]
      congr 1
      apply List.map_congr_left
      intro i hi
      exact bytesP_getP (win_length (by have := List.mem_range.1 hi; omega))
    rw [this, wins_take s 16]
    exact List.take_of_length_le (by omega)
  rw [e]
  simp
theorem rowO_rows {s : List UInt8} (h : s.length = 256) (hm : ∀ p ∈ rowsL s, MayP p) : rowO (rowsL s) = (s, 0) := by
  rw [rowO, rowsL_length, if_neg (by decide), if_pos hm, rowTo_rows h]
end Go.Proofs.YtlogglmdfnakkaaDoor
