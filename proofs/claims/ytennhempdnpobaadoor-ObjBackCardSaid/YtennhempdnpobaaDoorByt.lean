/-
  What code.Put and code.Get answer, in one word each, for every number, size, place and slice of bytes; slices of bytes, windows of them, and strings made of them.
-/
import Derived.Test.YtennhempdnpobaaDoorPut
import Derived.Test.YtennhempdnpobaaDoorGet
import Derived.Test.YtennhempdnpobaaDoorBsl
import Derived.WalkSpells
import Derived.Deep.QuietTactic
import Derived.BigQuiet
import Derived.Laws.Rows
import Derived.Laws.AppendOwnNone
namespace Go.Proofs.YtennhempdnpobaaDoor
open Go.RowKit Go.Shelf
set_option maxRecDepth 100000

theorem put_size (n s : Int) (h : s < 1 ∨ 4 < s) (w : World) : Calls Tryd.prog 40 #[.int .i64 n, .int .i64 s] w fun e w' => e = .returned (.tuple #[.slice none 0 0, .int .i64 2]) ∧ Below w.heap.size w w' := by
  go_enter Tryd.func40, Tryd.ntmps40
  go_wp2_with (go_at_call 49; refine (isSize_no _ h _).mono ?_; rintro e w' ⟨rfl, rfl⟩)
  go_ret2
  exact ⟨rfl, (Below.refl _ _).alloc (Nat.le_refl _) _⟩
theorem put_neg (n s : Int) (h1 : 1 ≤ s) (h2 : s ≤ 4) (hn : n < 0) (w : World) : Calls Tryd.prog 40 #[.int .i64 n, .int .i64 s] w fun e w' => e = .returned (.tuple #[.slice none 0 0, .int .i64 2]) ∧ Below w.heap.size w w' := by
  go_enter Tryd.func40, Tryd.ntmps40
  go_wp2_with (first | (go_at_call 49; refine (isSize_yes _ h1 h2 _).mono ?_; rintro e w' ⟨rfl, rfl⟩) | (go_at_call 52; refine (fits_neg _ _ hn _).mono ?_; rintro e w' ⟨rfl, rfl⟩))
  go_ret2
  exact ⟨rfl, (Below.refl _ _).alloc (Nat.le_refl _) _⟩
theorem put_big (n k : Nat) (h1 : 1 ≤ k) (h2 : k ≤ 4) (hn : 256 ^ k ≤ n) (hm : n ≤ 9223372036854775807) (w : World) : Calls Tryd.prog 40 #[.int .i64 n, .int .i64 k] w fun e w' => e = .returned (.tuple #[.slice none 0 0, .int .i64 2]) ∧ Below w.heap.size w w' := by
  have hs1 : (1 : Int) ≤ k := by omega
  have hs2 : (k : Int) ≤ 4 := by omega
  have HN := Lib.hid hn; clear hn
  go_enter Tryd.func40, Tryd.ntmps40
  go_wp2_with (first | (go_at_call 49; refine (isSize_yes _ hs1 hs2 _).mono ?_; rintro e w' ⟨rfl, rfl⟩) | (go_at_call 52; refine (fits_no n k HN.out hm h1 h2 _).mono ?_; rintro e w' ⟨rfl, rfl⟩))
  go_ret2
  exact ⟨rfl, (Below.refl _ _).alloc (Nat.le_refl _) _⟩

/-- The bytes of n, so many as k says, the lowest first. -/
def leB (k n : Nat) : List UInt8 := (List.range k).map (byteAt n)
theorem leB_length (k n : Nat) : (leB k n).length = k := by simp [leB]

theorem put_ok (n k : Nat) (h1 : 1 ≤ k) (h2 : k ≤ 4) (hm : n < 256 ^ k) (w : World) :
    Calls Tryd.prog 40 #[.int .i64 n, .int .i64 k] w fun e W' => e = .returned (.tuple #[.slice (some ⟨w.heap.size + 1, 0, none⟩) k k, .int .i64 0]) ∧ Holds W' (w.heap.size + 1) (leB k n) ∧ Below w.heap.size w W' ∧ w.heap.size + 1 < W'.heap.size :=
  (callsIn_wide.1 (put_in 3 (Nat.le_refl _) n k h1 h2 hm w)).mono fun e W' ⟨he, hc, hb, hs⟩ => ⟨he, fun i hi => by
    have hi' : i < k := by simpa [leB] using hi
    rw [hc i hi']; simp [leB], hb, hs⟩

theorem get_ok (b off len cap i k : Nat) (s : List UInt8) (hs : s.length = len) (hlc : len ≤ cap) (hcm : cap ≤ 9223372036854775807) (h1 : 1 ≤ k) (h2 : k ≤ 4) (hk : i + k ≤ len) (w : World) (hb : b < w.heap.size)
    (hc : ∀ i (h : i < s.length), w.cell? ⟨b, off + i, none⟩ = some (.int .u8 ((s[i]).toNat : Int))) :
    Calls Tryd.prog 36 #[.slice (some ⟨b, off, none⟩) len cap, .int .i64 i, .int .i64 k] w fun e W' => e = .returned (.tuple #[.int .i64 (leN ((s.drop i).take k) : Nat), .int .i64 0]) ∧ Below w.heap.size w W' :=
  callsIn_wide.1 (get_in 3 (Nat.le_refl _) b off len cap i k s hs hlc hcm h1 h2 hk w hb hc)

/-- The numbers that Put refuses. -/
def PutBad (n s : Int) : Prop := (s < 1 ∨ 4 < s) ∨ (1 ≤ s ∧ s ≤ 4 ∧ n < 0) ∨ ∃ N k : Nat, n = N ∧ s = k ∧ 1 ≤ k ∧ k ≤ 4 ∧ 256 ^ k ≤ N
theorem putCase (n s : Int) : (∃ N k : Nat, n = N ∧ s = k ∧ 1 ≤ k ∧ k ≤ 4 ∧ N < 256 ^ k) ∨ PutBad n s := by
  by_cases hs : s < 1 ∨ 4 < s
  · exact .inr (.inl hs)
  · by_cases hn : n < 0
    · exact .inr (.inr (.inl ⟨by omega, by omega, hn⟩))
    · obtain ⟨N, rfl⟩ := Int.eq_ofNat_of_zero_le (show 0 ≤ n by omega)
      obtain ⟨k, rfl⟩ := Int.eq_ofNat_of_zero_le (show 0 ≤ s by omega)
      by_cases hb : N < 256 ^ k
      · exact .inl ⟨N, k, rfl, rfl, by omega, by omega, hb⟩
      · exact .inr (.inr (.inr ⟨N, k, rfl, rfl, by omega, by omega, by omega⟩))
theorem put_bad (n s : Int) (h : PutBad n s) (hm : n ≤ 9223372036854775807) (w : World) : Calls Tryd.prog 40 #[.int .i64 n, .int .i64 s] w fun e w' => e = .returned (.tuple #[.slice none 0 0, .int .i64 2]) ∧ Below w.heap.size w w' := by
  rcases h with h | ⟨h1, h2, h3⟩ | ⟨N, k, rfl, rfl, h1, h2, h3⟩
  · exact put_size _ _ h w
  · exact put_neg _ _ h1 h2 h3 w
  · exact put_big _ _ h1 h2 h3 (by omega) w
theorem put_at (n k : Nat) (s : Int) (hs : s = k) (h1 : 1 ≤ k) (h2 : k ≤ 4) (hm : n < 256 ^ k) (w : World) :
    Calls Tryd.prog 40 #[.int .i64 n, .int .i64 s] w fun e W' => e = .returned (.tuple #[.slice (some ⟨w.heap.size + 1, 0, none⟩) k k, .int .i64 0]) ∧ Holds W' (w.heap.size + 1) (leB k n) ∧ Below w.heap.size w W' ∧ w.heap.size + 1 < W'.heap.size := by
  subst hs; exact put_ok n k h1 h2 hm w
theorem leB_take (k N : Nat) : leB (k + 1) N = leB k N ++ [byteAt N k] := by simp [leB, List.range_succ]
theorem byteAt_over {N k : Nat} (h : N < 256 ^ k) : byteAt N k = 0 := by unfold byteAt; rw [Nat.div_eq_of_lt h]; rfl
theorem byteAt_succ (n i : Nat) : byteAt n (i + 1) = byteAt (n / 256) i := by
  unfold byteAt; rw [Nat.pow_succ, Nat.mul_comm, ← Nat.div_div_eq_div_mul]
theorem leB_succ (k n : Nat) : leB (k + 1) n = byteAt n 0 :: leB k (n / 256) := by
  unfold leB
  rw [List.range_succ_eq_map, List.map_cons, List.map_map]
  congr 1
  apply List.map_congr_left
  intro i _
  exact byteAt_succ n i
theorem leN_leB : ∀ (k n : Nat), n < 256 ^ k → leN (leB k n) = n
  | 0, n, h => by simp at h; simp [leB, leN, h]
  | k + 1, n, h => by
    have h' : n / 256 < 256 ^ k := by rw [Nat.pow_succ] at h; omega
    rw [leB_succ, leN, leN_leB k _ h', byteAt_toNat]
    simp <;> omega
theorem leB_leN : ∀ l : List UInt8, leB l.length (leN l) = l
  | [] => rfl
  | x :: r => by
    have h2 := x.toNat_lt
    rw [List.length_cons, leB_succ, leN, show (x.toNat + 256 * leN r) / 256 = leN r by omega, leB_leN r]
    congr 1
    apply UInt8.toNat_inj.1
    rw [byteAt_toNat]
    simp <;> omega

/-- What Get refuses, and what it lacks. -/
theorem getCase (len : Nat) (i s : Int) : (∃ j k : Nat, i = j ∧ s = k ∧ 1 ≤ k ∧ k ≤ 4 ∧ j + k ≤ len) ∨ ((s < 1 ∨ 4 < s) ∨ (1 ≤ s ∧ s ≤ 4 ∧ (i < 0 ∨ len < i))) ∨ (1 ≤ s ∧ s ≤ 4 ∧ 0 ≤ i ∧ i ≤ len ∧ len - i < s) := by
  by_cases hs : s < 1 ∨ 4 < s
  · exact .inr (.inl (.inl hs))
  · by_cases hi : i < 0 ∨ (len : Int) < i
    · exact .inr (.inl (.inr ⟨by omega, by omega, hi⟩))
    · by_cases hl : (len : Int) - i < s
      · exact .inr (.inr ⟨by omega, by omega, by omega, by omega, hl⟩)
      · obtain ⟨j, rfl⟩ := Int.eq_ofNat_of_zero_le (show 0 ≤ i by omega)
        obtain ⟨k, rfl⟩ := Int.eq_ofNat_of_zero_le (show 0 ≤ s by omega)
        exact .inl ⟨j, k, rfl, rfl, by omega, by omega, by omega⟩
theorem get_arg (a : Option Addr) (len cap : Nat) (i s : Int) (h : (s < 1 ∨ 4 < s) ∨ (1 ≤ s ∧ s ≤ 4 ∧ (i < 0 ∨ len < i))) (w : World) : Calls Tryd.prog 36 #[.slice a len cap, .int .i64 i, .int .i64 s] w fun e w' => e = .returned (.tuple #[.int .i64 0, .int .i64 2]) ∧ w = w' := by
  rcases h with h | ⟨h1, h2, h3 | h3⟩
  · exact get_size a len cap i s h w
  · exact get_neg a len cap i s h1 h2 h3 w
  · exact get_far a len cap i s h1 h2 h3 w
theorem get_bsl {w : World} {a : Option Addr} {len cap : Nat} {s : List UInt8} (h : Bsl w w.heap.size a len cap s) (i k : Nat) (h1 : 1 ≤ k) (h2 : k ≤ 4) (hk : i + k ≤ len) :
    Calls Tryd.prog 36 #[.slice a len cap, .int .i64 i, .int .i64 k] w fun e W' => e = .returned (.tuple #[.int .i64 (leN ((s.drop i).take k) : Nat), .int .i64 0]) ∧ Below w.heap.size w W' := by
  obtain ⟨e1, e2, e3, _, e5⟩ := h
  obtain ⟨b, off, rfl, hb, hc⟩ := e5 (by omega)
  exact get_ok b off len cap i k s e1 e2 (by unfold maxLen at e3; omega) h1 h2 hk w hb hc
end Go.Proofs.YtennhempdnpobaaDoor
