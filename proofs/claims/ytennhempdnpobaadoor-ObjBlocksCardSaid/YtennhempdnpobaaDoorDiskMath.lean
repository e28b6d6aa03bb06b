/-
  Plain lists for layer 9: a disk's blocks and waiting writes; the last write of a block among those that are marked; what they leave.
-/
namespace Go.Proofs.YtennhempdnpobaaDoor

/-- Writes that wait: each its block's number and its bytes. -/
abbrev WrL := List (Int × List UInt8)
/-- A disk: its blocks, and what waits. -/
abbrev DkL := List (List UInt8) × WrL
/-- The write of number i. -/
def wr_ (ws : WrL) (i : Nat) : Int × List UInt8 := ws.getD i (0, [])
/-- The last write for the block p among the first n, of those that are marked. -/
def lastTo (ws : WrL) (mk : Nat → Bool) (p : Int) : Nat → Option Nat
  | 0 => none
  | n + 1 => if mk n = true ∧ (wr_ ws n).1 = p then some n else lastTo ws mk p n
/-- What they leave of the block p. -/
def leftD (D : DkL) (mk : Nat → Bool) (p : Nat) : List UInt8 := match lastTo D.2 mk (p : Int) D.2.length with
  | some i => (wr_ D.2 i).2
  | none => D.1.getD p []
/-- What they leave. -/
def keptD (D : DkL) (mk : Nat → Bool) : DkL := ((List.range 256).map (leftD D mk), [])
/-- May a disk be? -/
def MayD (D : DkL) : Prop := (D.1.length = 256 ∧ ∀ i, i < 256 → (D.1.getD i []).length = 256) ∧ D.2.length ≤ 4096 ∧ ∀ i, i < D.2.length → (0 ≤ (wr_ D.2 i).1 ∧ (wr_ D.2 i).1 < 256) ∧ (wr_ D.2 i).2.length = 256
instance (D : DkL) : Decidable (MayD D) := inferInstanceAs (Decidable (_ ∧ _ ∧ _))
/-- The bytes of the first k blocks, of the first k writes, together. -/
def sumB (bl : List (List UInt8)) : Nat → Nat
  | 0 => 0
  | k + 1 => sumB bl k + (bl.getD k []).length
def sumW (ws : WrL) : Nat → Nat
  | 0 => 0
  | k + 1 => sumW ws k + (wr_ ws k).2.length
def sumD (D : DkL) : Nat := sumB D.1 D.1.length + sumW D.2 D.2.length
theorem sumB_mono (bl : List (List UInt8)) {j k : Nat} (h : j ≤ k) : sumB bl j ≤ sumB bl k := by
  induction k with
  | zero => obtain rfl : j = 0 := by omega
            exact Nat.le_refl _
  | succ k ih =>
    rcases Nat.lt_or_ge j (k + 1) with h1 | h1
    · exact Nat.le_trans (ih (by omega)) (Nat.le_add_right _ _)
    · obtain rfl : j = k + 1 := by omega
      exact Nat.le_refl _
theorem sumW_mono (ws : WrL) {j k : Nat} (h : j ≤ k) : sumW ws j ≤ sumW ws k := by
  induction k with
  | zero => obtain rfl : j = 0 := by omega
            exact Nat.le_refl _
  | succ k ih =>
    rcases Nat.lt_or_ge j (k + 1) with h1 | h1
    · exact Nat.le_trans (ih (by omega)) (Nat.le_add_right _ _)
    · obtain rfl : j = k + 1 := by omega
      exact Nat.le_refl _
/-- A disk on which more can be done than is needed: counts and bytes that no machine's memory comes near. -/
def Fits (D : DkL) : Prop := D.1.length ≤ 1000000 ∧ D.2.length ≤ 1000000 ∧ sumD D ≤ 1000000000000

theorem lastTo_lt {ws : WrL} {mk : Nat → Bool} {p : Int} : ∀ {n i : Nat}, lastTo ws mk p n = some i → i < n ∧ mk i = true ∧ (wr_ ws i).1 = p
  | 0, i, h => by cases h
  | n + 1, i, h => by
    unfold lastTo at h
    split at h
    · rename_i h1
      cases h
      exact ⟨Nat.lt_succ_self _, h1⟩
    · have := lastTo_lt h
      exact ⟨Nat.lt_succ_of_lt this.1, this.2⟩
theorem lastTo_none {ws : WrL} {mk : Nat → Bool} {p : Int} : ∀ {n : Nat}, lastTo ws mk p n = none → ∀ i, i < n → ¬ (mk i = true ∧ (wr_ ws i).1 = p)
  | 0, _, i, hi => by omega
  | n + 1, h, i, hi => by
    unfold lastTo at h
    split at h
    · cases h
    · rename_i h1
      rcases Nat.lt_or_ge i n with h2 | h2
      · exact lastTo_none h i h2
      · obtain rfl : i = n := by omega
        exact h1
theorem lastTo_after {ws : WrL} {mk : Nat → Bool} {p : Int} : ∀ {n i : Nat}, lastTo ws mk p n = some i → ∀ j, i < j → j < n → ¬ (mk j = true ∧ (wr_ ws j).1 = p)
  | 0, i, h => by cases h
  | n + 1, i, h => by
    unfold lastTo at h
    split at h
    · cases h
      intro j h1 h2
      omega
    · rename_i h0
      intro j h1 h2
      rcases Nat.lt_or_ge j n with h3 | h3
      · exact lastTo_after h j h1 h3
      · obtain rfl : j = n := by omega
        exact h0
/-- Found from behind. -/
theorem lastTo_behind {ws : WrL} {mk : Nat → Bool} {p : Int} {n i : Nat} (hi : i < n) (h1 : mk i = true ∧ (wr_ ws i).1 = p) (h2 : ∀ j, i < j → j < n → ¬ (mk j = true ∧ (wr_ ws j).1 = p)) : lastTo ws mk p n = some i := by
  cases h : lastTo ws mk p n with
  | none => exact absurd h1 (lastTo_none h i hi)
  | some k =>
    have hk := lastTo_lt h
    have ha := lastTo_after h
    rcases Nat.lt_trichotomy i k with h3 | h3 | h3
    · exact absurd hk.2 (h2 k h3 hk.1)
    · rw [h3]
    · exact absurd h1 (ha i h3 hi)
theorem lastTo_no {ws : WrL} {mk : Nat → Bool} {p : Int} {n : Nat} (h2 : ∀ j, j < n → ¬ (mk j = true ∧ (wr_ ws j).1 = p)) : lastTo ws mk p n = none := by
  cases h : lastTo ws mk p n with
  | none => rfl
  | some k => exact absurd (lastTo_lt h).2 (h2 k (lastTo_lt h).1)
theorem lastTo_congr {ws ws' : WrL} {mk mk' : Nat → Bool} {p : Int} : ∀ {n : Nat}, (∀ i, i < n → ((mk i = true ∧ (wr_ ws i).1 = p) ↔ (mk' i = true ∧ (wr_ ws' i).1 = p))) → lastTo ws mk p n = lastTo ws' mk' p n
  | 0, _ => rfl
  | n + 1, h => by
    unfold lastTo
    rw [lastTo_congr (n := n) (fun i hi => h i (by omega))]
    by_cases h1 : mk n = true ∧ (wr_ ws n).1 = p
    · rw [if_pos h1, if_pos ((h n (by omega)).1 h1)]
    · rw [if_neg h1, if_neg (fun h2 => h1 ((h n (by omega)).2 h2))]
theorem keptD_length (D : DkL) (mk : Nat → Bool) : (keptD D mk).1.length = 256 := by simp [keptD]
theorem keptD_get (D : DkL) (mk : Nat → Bool) (p : Nat) (h : p < 256) : (keptD D mk).1.getD p [] = leftD D mk p := by
  simp [keptD, List.getD_eq_getElem?_getD, h]
theorem leftD_length {D : DkL} (h : MayD D) (mk : Nat → Bool) {p : Nat} (hp : p < 256) : (leftD D mk p).length = 256 := by
  unfold leftD
  split
  · rename_i i hi
    exact (h.2.2 i (lastTo_lt hi).1).2
  · exact h.1.2 p hp
theorem keptD_may {D : DkL} (h : MayD D) (mk : Nat → Bool) : MayD (keptD D mk) := by
  refine ⟨⟨keptD_length _ _, fun i hi => ?_⟩, Nat.zero_le _, fun i hi => absurd hi (Nat.not_lt_zero _)⟩
  rw [keptD_get D mk i hi]
  exact leftD_length h mk hi
theorem sumB_all {bl : List (List UInt8)} : ∀ {n : Nat}, (∀ i, i < n → (bl.getD i []).length = 256) → sumB bl n = 256 * n
  | 0, _ => rfl
  | n + 1, h => by
    unfold sumB
    rw [sumB_all (fun i hi => h i (by omega)), h n (by omega)]
    omega
theorem sumW_all {ws : WrL} : ∀ {n : Nat}, (∀ i, i < n → (wr_ ws i).2.length = 256) → sumW ws n = 256 * n
  | 0, _ => rfl
  | n + 1, h => by
    unfold sumW
    rw [sumW_all (fun i hi => h i (by omega)), h n (by omega)]
    omega
theorem may_fits {D : DkL} (h : MayD D) : Fits D := by
  have h1 := sumB_all h.1.2
  have h2 := sumW_all fun i hi => (h.2.2 i hi).2
  have h3 := h.2.1
  refine ⟨by rw [h.1.1]; omega, by omega, ?_⟩
  unfold sumD
  rw [h.1.1, h1, h2]
  omega
end Go.Proofs.YtennhempdnpobaaDoor
