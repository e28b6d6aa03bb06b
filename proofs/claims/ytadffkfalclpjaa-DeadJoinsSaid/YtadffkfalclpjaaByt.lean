/-
  What code.Put and code.Get answer, in one word each, for every number, size, place and slice of bytes; slices of bytes, windows of them, and strings made of them.
-/
import Derived.Test.YtadffkfalclpjaaPut
import Derived.Test.YtadffkfalclpjaaGet
import Derived.Test.YtadffkfalclpjaaBsl
import Derived.WalkSpells
import Derived.Deep.QuietTactic
import Derived.BigQuiet
import Derived.Laws.Rows
import Derived.Laws.AppendOwnNone
namespace Go.Proofs.Ytadffkfalclpjaa
open Go.RowKit Go.Shelf
set_option maxRecDepth 100000

/-- The bytes of n, so many as k says, the lowest first. -/
def leB (k n : Nat) : List UInt8 := (List.range k).map (byteAt n)
theorem leB_length (k n : Nat) : (leB k n).length = k := by simp [leB]

/-- The numbers that Put refuses. -/
def PutBad (n s : Int) : Prop := (s < 1 ∨ 4 < s) ∨ (1 ≤ s ∧ s ≤ 4 ∧ n < 0) ∨ ∃ N k : Nat, n = N ∧ s = k ∧ 1 ≤ k ∧ k ≤ 4 ∧ 256 ^ k ≤ N
theorem putCase (n s : Int) : (∃ N k : Nat, n = N ∧ s = k ∧ 1 ≤ k ∧ k ≤ 4 ∧ N < 256 ^ k) ∨ PutBad n s := by
  by_cases hs : s < 1 ∨ 4 < s
  · exact .inr (.inl hs)
  · by_cases hn : n < 0
    · exact .inr (.inr (.inl ⟨by omega, by omega, hn⟩))
    · obtain ⟨N, rfl⟩ := Int.eq_ofNat_of_zero_le (show 0 ≤ n by omega)
      obtain ⟨k, rfl⟩ := Int.eq_ofNat_of_zero_le (show 0 ≤ s by omega)
      by_cases hb : N < 256 ^ k
      · exact .inl ⟨N, k, rfl, rfl, by omega, by omega, hb⟩
      · exact .inr (.inr (.inr ⟨N, k, rfl, rfl, by omega, by omega, by omega⟩))
theorem leB_take (k N : Nat) : leB (k + 1) N = leB k N ++ [byteAt N k] := by simp [leB, List.range_succ]
theorem byteAt_over {N k : Nat} (h : N < 256 ^ k) : byteAt N k = 0 := by unfold byteAt; rw [Nat.div_eq_of_lt h]; rfl
theorem byteAt_succ (n i : Nat) : byteAt n (i + 1) = byteAt (n / 256) i := by
  unfold byteAt; rw [Nat.pow_succ, Nat.mul_comm, ← Nat.div_div_eq_div_mul]
theorem leB_succ (k n : Nat) : leB (k + 1) n = byteAt n 0 :: leB k (n / 256) := by
  unfold leB
  rw [List.range_succ_eq_map, List.map_cons, List.map_map]
  congr 1
  apply List.map_congr_left
  intro i _
  exact byteAt_succ n i
theorem leN_leB : ∀ (k n : Nat), n < 256 ^ k → leN (leB k n) = n
  | 0, n, h => by simp at h; simp [leB, leN, h]
  | k + 1, n, h => by
    have h' : n / 256 < 256 ^ k := by rw [Nat.pow_succ] at h; omega
    rw [leB_succ, leN, leN_leB k _ h', byteAt_toNat]
    simp <;> omega
theorem leB_leN : ∀ l : List UInt8, leB l.length (leN l) = l
  | [] => rfl
  | x :: r => by
    have h2 := x.toNat_lt
    rw [List.length_cons, leB_succ, leN, show (x.toNat + 256 * leN r) / 256 = leN r by omega, leB_leN r]
    congr 1
    apply UInt8.toNat_inj.1
    rw [byteAt_toNat]
    simp <;> omega

/-- What Get refuses, and what it lacks. -/
theorem getCase (len : Nat) (i s : Int) : (∃ j k : Nat, i = j ∧ s = k ∧ 1 ≤ k ∧ k ≤ 4 ∧ j + k ≤ len) ∨ ((s < 1 ∨ 4 < s) ∨ (1 ≤ s ∧ s ≤ 4 ∧ (i < 0 ∨ len < i))) ∨ (1 ≤ s ∧ s ≤ 4 ∧ 0 ≤ i ∧ i ≤ len ∧ len - i < s) := by
  by_cases hs : s < 1 ∨ 4 < s
  · exact .inr (.inl (.inl hs))
  · by_cases hi : i < 0 ∨ (len : Int) < i
    · exact .inr (.inl (.inr ⟨by omega, by omega, hi⟩))
    · by_cases hl : (len : Int) - i < s
      · exact .inr (.inr ⟨by omega, by omega, by omega, by omega, hl⟩)
      · obtain ⟨j, rfl⟩ := Int.eq_ofNat_of_zero_le (show 0 ≤ i by omega)
        obtain ⟨k, rfl⟩ := Int.eq_ofNat_of_zero_le (show 0 ≤ s by omega)
        exact .inl ⟨j, k, rfl, rfl, by omega, by omega, by omega⟩
end Go.Proofs.Ytadffkfalclpjaa
