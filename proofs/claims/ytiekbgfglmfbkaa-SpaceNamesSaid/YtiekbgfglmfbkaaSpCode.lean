/-
  space's own: marks, slices.IndexFunc and ContainsFunc over bytes, whether a table may be, bytes.Clone, a table with another mark, the closure that tells the free blocks.
-/
import Derived.Test.YtiekbgfglmfbkaaSpMath
import Derived.Test.YtiekbgfglmfbkaaRowI
import Derived.Test.YtiekbgfglmfbkaaIn
import Derived.Test.YtiekbgfglmfbkaaNums
namespace Go.Proofs.Ytiekbgfglmfbkaa
open Go.RowKit Go.Shelf
set_option maxRecDepth 100000

theorem Bsl.mk {w : World} {B g off len cap : Nat} {s : List UInt8} (h : Bsl w B (some ⟨g, off, none⟩) len cap s) (i : Nat) (hi : i < len) : w.cell? ⟨g, off + i, none⟩ = some (.int .u8 ((mkT s i : Nat) : Int)) := h.cellD i hi
theorem Bsl.at_ {w : World} {B len cap : Nat} {a : Option Addr} {s : List UInt8} (h : Bsl w B a len cap s) (h0 : 0 < len) : ∃ b off, a = some ⟨b, off, none⟩ ∧ b < B := by
  obtain ⟨b, off, e, hb, _⟩ := h.2.2.2.2 h0
  exact ⟨b, off, e, hb⟩
theorem Bsl.len_le {w : World} {B len cap : Nat} {a : Option Addr} {s : List UInt8} (h : Bsl w B a len cap s) : (len : Int) ≤ 9223372036854775807 := by
  have h1 := h.2.1; have h2 := h.2.2.1; unfold maxLen at h2; omega

theorem isNoMark_any (x : Nat) (hx : x < 256) (w : World) : Calls Try.prog 33 #[.int .u8 x] w fun e w' => e = .returned (.bool (decide (2 < x))) ∧ w = w' := by
  have x0 : (0 : Int) ≤ x := by omega
  by_cases h0 : x = 0
  · subst h0
    go_enter Try.func33, Try.ntmps33
    go_wp2_with fail
    go_ret
    exact ⟨rfl, rfl⟩
  · have e0 : ((x : Int) != 0) = true := by simp; omega
    by_cases h1 : x = 1
    · subst h1
      go_enter Try.func33, Try.ntmps33
      go_wp2_with fail
      go_ret
      exact ⟨rfl, rfl⟩
    · have e1 : ((x : Int) != 1) = true := by simp; omega
      by_cases h2 : x = 2
      · subst h2
        go_enter Try.func33, Try.ntmps33
        go_wp2_with fail
        go_ret
        exact ⟨rfl, rfl⟩
      · have e2 : ((x : Int) != 2) = true := by simp; omega
        have e3 : decide (2 < x) = true := decide_eq_true (by omega)
        rw [e3]
        clear h0 h1 h2 e3
        go_enter Try.func33, Try.ntmps33
        go_wp2_with fail
        go_ret
        exact ⟨rfl, rfl⟩
theorem isNotUsed_any (x : Nat) (hx : x < 256) (w : World) : Calls Try.prog 34 #[.int .u8 x] w fun e w' => e = .returned (.bool (decide (x ≠ 1))) ∧ w = w' := by
  have x0 : (0 : Int) ≤ x := by omega
  by_cases h1 : x = 1
  · subst h1
    go_enter Try.func34, Try.ntmps34
    go_wp2_with fail
    go_ret
    exact ⟨rfl, rfl⟩
  · have e1 : ((x : Int) != 1) = true := by simp; omega
    have e3 : decide (x ≠ 1) = true := decide_eq_true (by omega)
    rw [e3]
    clear h1 e3
    go_enter Try.func34, Try.ntmps34
    go_wp2_with fail
    go_ret
    exact ⟨rfl, rfl⟩
/-- slices.IndexFunc over bytes: none is odd. -/
theorem spIndex_none (F : Nat) (p : Nat → Bool) (hFF : F = 33 ∨ F = 34) (hF : ∀ x : Nat, x < 256 → ∀ W : World, Calls Try.prog F #[.int .u8 x] W fun e w' => e = .returned (.bool (p x)) ∧ W = w') (a : Option Addr) (n c B : Nat) (s : List UInt8) (w : World) (hA : Bsl w B a n c s) (hall : ∀ i, i < n → p (mkT s i) = false) :
    Calls Try.prog 36 #[.slice a n c, .func (.func F) #[] #[]] w fun e w' => e = .returned (.int .i64 (-1)) ∧ w = w' := by
  have n0 : (0 : Int) ≤ n := by omega
  have n1 := hA.len_le
  have HA := Lib.hid hA
  have HL := Lib.hid hall
  have HF := Lib.hid hF
  clear hA hall hF
  rcases hFF with rfl | rfl
  all_goals
    go_enter Try.func36, Try.ntmps36
    go_wp2_with fail
    go_loop [8] (fun i => ∃ k : Nat, k ≤ n ∧ i = .int .i64 k) (fun i => n - (intOf i).toNat)
    case atStart => exact ⟨0, Nat.zero_le _, rfl⟩
    case round =>
      obtain ⟨k, hk, rfl⟩ := hrel
      have k0 : (0 : Int) ≤ k := by omega
      by_cases hlt : k < n
      · have k1 : (k : Int) < n := by omega
        obtain ⟨b, off, rfl, _⟩ := HA.out.at_ (by omega)
        have hc := HA.out.mk k hlt
        have hx := HF.out (mkT s k) (mkT_lt s k) w
        rw [HL.out k hlt] at hx
        have HX := Lib.hid hx
        clear hx
        go_wp2_with fail
        refine HX.out.mono ?_
        rintro e w1 ⟨rfl, rfl⟩
        go_wp2_with fail
        go_round
        case rel => exact ⟨k + 1, by omega, by go_num⟩
        case measure => simp [intOf]; omega
      · obtain rfl : k = n := by omega
        go_wp2_with fail
        go_ret
        exact ⟨rfl, rfl⟩
/-- One is odd. -/
theorem spIndex_some (F : Nat) (p : Nat → Bool) (hFF : F = 33 ∨ F = 34) (hF : ∀ x : Nat, x < 256 → ∀ W : World, Calls Try.prog F #[.int .u8 x] W fun e w' => e = .returned (.bool (p x)) ∧ W = w') (a : Option Addr) (n c B : Nat) (s : List UInt8) (w : World) (hA : Bsl w B a n c s) (j : Nat) (hj : j < n) (hat : p (mkT s j) = true) (hall : ∀ i, i < j → p (mkT s i) = false) :
    Calls Try.prog 36 #[.slice a n c, .func (.func F) #[] #[]] w fun e w' => e = .returned (.int .i64 j) ∧ w = w' := by
  have n0 : (0 : Int) ≤ n := by omega
  have n1 := hA.len_le
  obtain ⟨b, off, rfl, _⟩ := hA.at_ (by omega)
  have HA := Lib.hid hA
  have HL := Lib.hid hall
  have HAT := Lib.hid hat
  have HF := Lib.hid hF
  clear hA hall hF hat
  rcases hFF with rfl | rfl
  all_goals
    go_enter Try.func36, Try.ntmps36
    go_wp2_with fail
    go_loop [8] (fun i => ∃ k : Nat, k ≤ j ∧ i = .int .i64 k) (fun i => n - (intOf i).toNat)
    case atStart => exact ⟨0, Nat.zero_le _, rfl⟩
    case round =>
      obtain ⟨k, hk, rfl⟩ := hrel
      have k0 : (0 : Int) ≤ k := by omega
      have hlt : k < n := by omega
      have k1 : (k : Int) < n := by omega
      have hc := HA.out.mk k hlt
      have hx := HF.out (mkT s k) (mkT_lt s k) w
      by_cases hkj : k < j
      · rw [HL.out k hkj] at hx
        have HX := Lib.hid hx
        clear hx
        go_wp2_with fail
        refine HX.out.mono ?_
        rintro e w1 ⟨rfl, rfl⟩
        go_wp2_with fail
        go_round
        case rel => exact ⟨k + 1, by omega, by go_num⟩
        case measure => simp [intOf]; omega
      · have hkj' : k = j := by omega
        rw [hkj', HAT.out] at hx
        rw [hkj'] at hc k0 k1 ⊢
        have HX := Lib.hid hx
        clear hx hkj hkj' hk hlt
        go_wp2_with fail
        refine HX.out.mono ?_
        rintro e w1 ⟨rfl, rfl⟩
        go_wp2_with fail
        go_ret
        exact ⟨rfl, rfl⟩
theorem spContains_none (F : Nat) (p : Nat → Bool) (hFF : F = 33 ∨ F = 34) (hF : ∀ x : Nat, x < 256 → ∀ W : World, Calls Try.prog F #[.int .u8 x] W fun e w' => e = .returned (.bool (p x)) ∧ W = w') (a : Option Addr) (n c B : Nat) (s : List UInt8) (w : World) (hA : Bsl w B a n c s) (hall : ∀ i, i < n → p (mkT s i) = false) :
    Calls Try.prog 32 #[.slice a n c, .func (.func F) #[] #[]] w fun e w' => e = .returned (.bool false) ∧ w = w' := by
  have HX := Lib.hid (spIndex_none F p hFF hF a n c B s w hA hall)
  clear hF hA hall hFF
  go_enter Try.func32, Try.ntmps32
  go_wp2_with fail
  refine HX.out.mono ?_
  rintro e w1 ⟨rfl, rfl⟩
  go_wp2_with fail
  go_ret
  exact ⟨rfl, rfl⟩
theorem spContains_some (F : Nat) (p : Nat → Bool) (hFF : F = 33 ∨ F = 34) (hF : ∀ x : Nat, x < 256 → ∀ W : World, Calls Try.prog F #[.int .u8 x] W fun e w' => e = .returned (.bool (p x)) ∧ W = w') (a : Option Addr) (n c B : Nat) (s : List UInt8) (w : World) (hA : Bsl w B a n c s) (i : Nat) (hi : i < n) (hat : p (mkT s i) = true) :
    Calls Try.prog 32 #[.slice a n c, .func (.func F) #[] #[]] w fun e w' => e = .returned (.bool true) ∧ w = w' := by
  rcases first_from (fun k => p (mkT s k) = true) 0 n with ⟨j, _, hj, hpj, hall⟩ | h
  · have HX := Lib.hid (spIndex_some F p hFF hF a n c B s w hA j hj hpj fun k hk => by simpa using hall k (by omega) hk)
    clear hF hA hall hat hFF
    have j0 : (0 : Int) ≤ j := by omega
    go_enter Try.func32, Try.ntmps32
    go_wp2_with fail
    refine HX.out.mono ?_
    rintro e w1 ⟨rfl, rfl⟩
    go_wp2_with fail
    go_ret
    exact ⟨rfl, rfl⟩
  · exact absurd hat (h i (by omega) hi)
/-- A table may be. -/
theorem spMay_yes (a : Option Addr) (n c B : Nat) (s : List UInt8) (w : World) (hA : Bsl w B a n c s) (h : MayT s) :
    Calls Try.prog 24 #[.slice a n c] w fun e w' => e = .returned (.bool true) ∧ w = w' := by
  have hn : n = 256 := by rw [← hA.1]; exact h.1
  subst hn
  obtain ⟨b, off, rfl, _⟩ := hA.at_ (by omega)
  have hc : 256 ≤ c := hA.2.1
  have H1 := Lib.hid (spContains_none 33 (fun x => decide (2 < x)) (.inl rfl) (fun x hx W => isNoMark_any x hx W) _ 256 c B s w hA fun i hi => decide_eq_false (by have := h.2.1 i hi; omega))
  have hp := hA.pre 12 (by omega)
  have H2 := Lib.hid (spContains_none 34 (fun x => decide (x ≠ 1)) (.inr rfl) (fun x hx W => isNotUsed_any x hx W) _ 12 c B (s.take 12) w hp fun i hi => by
    have e : mkT (s.take 12) i = mkT s i := by
      unfold mkT
      rw [List.getD_eq_getElem?_getD, List.getElem?_take_of_lt hi, List.getD_eq_getElem?_getD]
    rw [e, h.2.2 i hi]; rfl)
  have HS : ∀ W : World, (Instr.slice 26 (.slice (some ⟨b, off, none⟩) 256 c) none (some (.int .i64 12)) none).run Try.prog W = .ok (.slice (some ⟨b, off, none⟩) 12 c) W := fun W => slice_h W b off 256 c 12 (by omega) (by omega)
  clear hA hp h
  go_enter Try.func24, Try.ntmps24
  go_wp2_with fail
  refine H1.out.mono ?_
  rintro e w1 ⟨rfl, rfl⟩
  go_wp2_with fail
  refine H2.out.mono ?_
  rintro e w1 ⟨rfl, rfl⟩
  go_wp2_with fail
  go_ret
  exact ⟨rfl, rfl⟩
theorem not_may {s : List UInt8} (h : ¬ MayT s) (hl : s.length = 256) : (∃ i, i < 256 ∧ 2 < mkT s i) ∨ ((∀ i, i < 256 → mkT s i ≤ 2) ∧ ∃ i, i < 12 ∧ mkT s i ≠ 1) := by
  rcases first_from (fun i => 2 < mkT s i) 0 256 with ⟨k, _, hk, h2, _⟩ | h1
  · exact .inl ⟨k, hk, h2⟩
  · have h1' : ∀ i, i < 256 → mkT s i ≤ 2 := fun i hi => by have := h1 i (by omega) hi; omega
    rcases first_from (fun i => mkT s i ≠ 1) 0 12 with ⟨k, _, hk, h2, _⟩ | h3
    · exact .inr ⟨h1', k, hk, h2⟩
    · exact absurd ⟨hl, h1', fun i hi => by have := h3 i (by omega) hi; omega⟩ h
theorem spMay_no (a : Option Addr) (n c B : Nat) (s : List UInt8) (w : World) (hA : Bsl w B a n c s) (h : ¬ MayT s) :
    Calls Try.prog 24 #[.slice a n c] w fun e w' => e = .returned (.bool false) ∧ w = w' := by
  by_cases hn : n = 256
  · subst hn
    obtain ⟨b, off, rfl, _⟩ := hA.at_ (by omega)
    have hc : 256 ≤ c := hA.2.1
    rcases not_may h hA.1 with ⟨i, hi, h2⟩ | ⟨h1, i, hi, h2⟩
    · have H1 := Lib.hid (spContains_some 33 (fun x => decide (2 < x)) (.inl rfl) (fun x hx W => isNoMark_any x hx W) _ 256 c B s w hA i hi (decide_eq_true h2))
      clear hA h h2
      go_enter Try.func24, Try.ntmps24
      go_wp2_with fail
      refine H1.out.mono ?_
      rintro e w1 ⟨rfl, rfl⟩
      go_wp2_with fail
      go_ret
      exact ⟨rfl, rfl⟩
    · have H1 := Lib.hid (spContains_none 33 (fun x => decide (2 < x)) (.inl rfl) (fun x hx W => isNoMark_any x hx W) _ 256 c B s w hA fun i hi => decide_eq_false (by have := h1 i hi; omega))
      have hp := hA.pre 12 (by omega)
      have e : mkT (s.take 12) i = mkT s i := by
        unfold mkT
        rw [List.getD_eq_getElem?_getD, List.getElem?_take_of_lt hi, List.getD_eq_getElem?_getD]
      have H2 := Lib.hid (spContains_some 34 (fun x => decide (x ≠ 1)) (.inr rfl) (fun x hx W => isNotUsed_any x hx W) _ 12 c B (s.take 12) w hp i hi (by rw [e]; exact decide_eq_true h2))
      have HS : ∀ W : World, (Instr.slice 26 (.slice (some ⟨b, off, none⟩) 256 c) none (some (.int .i64 12)) none).run Try.prog W = .ok (.slice (some ⟨b, off, none⟩) 12 c) W := fun W => slice_h W b off 256 c 12 (by omega) (by omega)
      clear hA hp h e h1 h2
      go_enter Try.func24, Try.ntmps24
      go_wp2_with fail
      refine H1.out.mono ?_
      rintro e w1 ⟨rfl, rfl⟩
      go_wp2_with fail
      refine H2.out.mono ?_
      rintro e w1 ⟨rfl, rfl⟩
      go_wp2_with fail
      go_ret
      exact ⟨rfl, rfl⟩
  · have n1 := hA.len_le
    have hb : ((n : Int) == 256) = false := by simp; omega
    clear hA h hn
    go_enter Try.func24, Try.ntmps24
    go_wp2_with fail
    go_ret
    exact ⟨rfl, rfl⟩
end Go.Proofs.Ytiekbgfglmfbkaa
