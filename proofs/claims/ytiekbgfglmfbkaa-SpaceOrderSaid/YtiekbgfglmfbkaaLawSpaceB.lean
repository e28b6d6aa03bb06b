/-
  What space's calls and the document's own answer alike.
-/
import Derived.Test.YtiekbgfglmfbkaaLawSpaceA
import Derived.Test.YtiekbgfglmfbkaaSpRefB
namespace Go.Proofs.Ytiekbgfglmfbkaa
open Go.RowKit Go.Shelf
set_option maxRecDepth 100000

theorem ownN_nsl {w : World} {B n cap : Nat} {a : Option Addr} {s : List Nat} (h : w.ownsRow B 3 1 (.slice a n cap) n (valsN s)) : Nsl w w.heap.size a n cap s := by
  have hl : s.length = n := by have := h.1; simpa [valsN] using this
  rcases Nat.eq_zero_or_pos n with h0 | h0
  · obtain ⟨h1, ⟨h2, h3⟩ | ⟨g, cap', cur, h2, hb, hh, hnc, hcm, hsz, ht⟩⟩ := h
    · cases h2
      exact ⟨hl, Nat.le_refl _, Nat.zero_le _, fun _ => rfl, fun h => absurd h (by omega)⟩
    · cases h2
      exact ⟨hl, hnc, hcm, fun e => (by cases e), fun h => absurd h (by omega)⟩
  · obtain ⟨g, c, e, _, _, hN⟩ := nsl_of_own h h0
    cases e
    exact hN
theorem own_apart {w w' : World} {B B2 : Nat} {e e2 : TypeId} {size size2 : Nat} {v v2 : Value} {n n2 : Nat} {xs xs2 : List Value} (h : w.ownsRow B e size v n xs) (_h2 : w.ownsRow B2 e2 size2 v2 n2 xs2) (hlt : ∀ g, v2.ownBlock = some g → g < B) (hg : w.grownBy w' v2.ownBlock) : w'.ownsRow B e size v n xs :=
  h.kept hg (by
    cases hv : v.ownBlock with
    | none => exact .inl rfl
    | some k => exact .inr fun e => by have h1 := hlt k e.symm; have h2 := (h.lt k hv).1; omega)
theorem MayT_dec (s : List UInt8) : MayT s ∨ ¬ MayT s := Classical.em _
theorem first_free {s : List UInt8} : (∃ k, k < 256 ∧ mkT s k = 0 ∧ ∀ i, i < k → mkT s i ≠ 0) ∨ ∀ i, i < 256 → mkT s i ≠ 0 := by
  rcases first_from (fun i => mkT s i = 0) 0 256 with ⟨k, _, h1, h2, h3⟩ | h
  · exact .inl ⟨k, h1, h2, fun i hi => h3 i (Nat.zero_le _) hi⟩
  · exact .inr fun i hi => h i (Nat.zero_le _) hi
/-- A slice that reads as s in a world. -/
def At (W : World) (v : Value) (s : List UInt8) : Prop := ∃ a n c, v = .slice a n c ∧ Bsl W W.heap.size a n c s
theorem told_free (s : List UInt8) : ∃ c x, x.length ≤ 256 ∧ ∀ W, (∀ v, At W v s → Calls Try.prog 8 #[v] W (OutF c x W)) ∧ (∀ v, At W v s → Calls Try.prog 15 #[v] W (OutF c x W)) := by
  rcases MayT_dec s with h | h
  · exact ⟨0, _, freeTo_le s 256, fun W => ⟨fun v ⟨a, n, c, e, hA⟩ => e ▸ spFree_ok a n c s W hA h, fun v ⟨a, n, c, e, hA⟩ => e ▸ rsFree_ok a n c s W hA h⟩⟩
  · exact ⟨8, [], by simp, fun W => ⟨fun v ⟨a, n, c, e, hA⟩ => e ▸ spFree_bad a n c _ s W hA h, fun v ⟨a, n, c, e, hA⟩ => e ▸ rsFree_bad a n c _ s W hA h⟩⟩
theorem told_take (s : List UInt8) : ∃ c x k, x.length ≤ 256 ∧ ∀ W, (∀ v, At W v s → Calls Try.prog 11 #[v] W (OutTk c x k W)) ∧ (∀ v, At W v s → Calls Try.prog 16 #[v] W (OutTk c x k W)) := by
  rcases MayT_dec s with h | h
  · rcases first_free (s := s) with ⟨k, hk, hz, h0⟩ | h0
    · exact ⟨0, _, k, by simp [h.1], fun W => ⟨fun v ⟨a, n, c, e, hA⟩ => e ▸ spTake_ok a n c s k W hA h hk hz h0, fun v ⟨a, n, c, e, hA⟩ => e ▸ rsTake_ok a n c s k W hA h hk hz h0⟩⟩
    · exact ⟨9, [], 0, by simp, fun W => ⟨fun v ⟨a, n, c, e, hA⟩ => e ▸ spTake_full a n c s W hA h h0, fun v ⟨a, n, c, e, hA⟩ => e ▸ rsTake_full a n c s W hA h h0⟩⟩
  · exact ⟨8, [], 0, by simp, fun W => ⟨fun v ⟨a, n, c, e, hA⟩ => e ▸ spTake_bad a n c _ s W hA h, fun v ⟨a, n, c, e, hA⟩ => e ▸ rsTake_bad a n c _ s W hA h⟩⟩
theorem told_give (s : List UInt8) (k : Int) : ∃ c x, x.length ≤ 256 ∧ ∀ W, (∀ v, At W v s → Calls Try.prog 10 #[v, .int .i64 k] W (OutL c x W)) ∧ (∀ v, At W v s → Calls Try.prog 17 #[v, .int .i64 k] W (OutL c x W)) := by
  rcases MayT_dec s with h | h
  · by_cases hk : k < 12 ∨ 256 ≤ k
    · exact ⟨2, [], by simp, fun W => ⟨fun v ⟨a, n, c, e, hA⟩ => e ▸ spGive_arg a n c _ s k hk W hA h, fun v ⟨a, n, c, e, hA⟩ => e ▸ rsGive_arg a n c _ s k hk W hA h⟩⟩
    · obtain ⟨q, rfl⟩ := Int.eq_ofNat_of_zero_le (show 0 ≤ k by omega)
      by_cases h1 : mkT s q = 1
      · exact ⟨0, _, by simp [h.1], fun W => ⟨fun v ⟨a, n, c, e, hA⟩ => e ▸ spGive_ok a n c s q (by omega) (by omega) W hA h h1, fun v ⟨a, n, c, e, hA⟩ => e ▸ rsGive_ok a n c s q (by omega) (by omega) W hA h h1⟩⟩
      · exact ⟨6, [], by simp, fun W => ⟨fun v ⟨a, n, c, e, hA⟩ => e ▸ spGive_none a n c _ s q (by omega) (by omega) W hA h h1, fun v ⟨a, n, c, e, hA⟩ => e ▸ rsGive_none a n c _ s q (by omega) (by omega) W hA h h1⟩⟩
  · exact ⟨8, [], by simp, fun W => ⟨fun v ⟨a, n, c, e, hA⟩ => e ▸ spGive_bad a n c _ s k W hA h, fun v ⟨a, n, c, e, hA⟩ => e ▸ rsGive_bad a n c _ s k W hA h⟩⟩
theorem told_settle (s : List UInt8) : ∃ c x, x.length ≤ 256 ∧ ∀ W, (∀ v, At W v s → Calls Try.prog 12 #[v] W (OutL c x W)) ∧ (∀ v, At W v s → Calls Try.prog 18 #[v] W (OutL c x W)) := by
  rcases MayT_dec s with h | h
  · exact ⟨0, _, by rw [(settleL_may h).1]; omega, fun W => ⟨fun v ⟨a, n, c, e, hA⟩ => e ▸ spSettle_ok a n c s W hA h, fun v ⟨a, n, c, e, hA⟩ => e ▸ rsSettle_ok a n c s W hA h⟩⟩
  · exact ⟨8, [], by simp, fun W => ⟨fun v ⟨a, n, c, e, hA⟩ => e ▸ spSettle_bad a n c _ s W hA h, fun v ⟨a, n, c, e, hA⟩ => e ▸ rsSettle_bad a n c _ s W hA h⟩⟩
theorem told_check (s : List UInt8) : ∃ c : Nat, ∀ W, (∀ v, At W v s → Calls Try.prog 14 #[v] W fun e w' => e = .returned (.int .i64 c) ∧ W = w') ∧ (∀ v, At W v s → Calls Try.prog 20 #[v] W fun e w' => e = .returned (.int .i64 c) ∧ W = w') := by
  rcases MayT_dec s with h | h
  · exact ⟨0, fun W => ⟨fun v ⟨a, n, c, e, hA⟩ => e ▸ spCheck_yes a n c _ s W hA h, fun v ⟨a, n, c, e, hA⟩ => e ▸ rsCheck_yes a n c _ s W hA h⟩⟩
  · exact ⟨8, fun W => ⟨fun v ⟨a, n, c, e, hA⟩ => e ▸ spCheck_no a n c _ s W hA h, fun v ⟨a, n, c, e, hA⟩ => e ▸ rsCheck_no a n c _ s W hA h⟩⟩
theorem at_of {W : World} {B n c : Nat} {a : Option Addr} {s : List UInt8} (h : Bsl W B a n c s) (hB : B ≤ W.heap.size) : At W (.slice a n c) s := ⟨a, n, c, rfl, h.more hB⟩
end Go.Proofs.Ytiekbgfglmfbkaa
