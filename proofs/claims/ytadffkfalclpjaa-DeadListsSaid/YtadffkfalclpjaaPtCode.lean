/-
  ptr.mayBe, ptr.put and ptr.get, whatever pointer and whichever sixteen bytes they are handed; nothing that was there is written.
-/
import Derived.Test.YtadffkfalclpjaaPt
import Derived.Test.YtadffkfalclpjaaRowI
import Derived.Deep.RegionWith
import Derived.OwnWalk
namespace Go.Proofs.Ytadffkfalclpjaa
open Go.RowKit Go.Shelf
set_option maxRecDepth 100000

/-- The sizes lie where the program's initialiser laid them. -/
def Szs (w : World) : Prop := 0 < w.heap.size ∧ w.cell? ⟨0, 0, none⟩ = some (.int .i64 1) ∧ w.cell? ⟨0, 1, none⟩ = some (.int .i64 3) ∧ w.cell? ⟨0, 2, none⟩ = some (.int .i64 4) ∧ w.cell? ⟨0, 3, none⟩ = some (.int .i64 4) ∧ w.cell? ⟨0, 4, none⟩ = some (.int .i64 4)
theorem Szs.below {B : Nat} {w w' : World} (h : Szs w) (hb : Below B w w') (hB : 0 < B) : Szs w' := by
  obtain ⟨h0, h1, h2, h3, h4, h5⟩ := h
  exact ⟨Nat.lt_of_lt_of_le h0 hb.size, (hb.cell (p := ⟨0, 0, none⟩) hB).trans h1, (hb.cell (p := ⟨0, 1, none⟩) hB).trans h2, (hb.cell (p := ⟨0, 2, none⟩) hB).trans h3, (hb.cell (p := ⟨0, 3, none⟩) hB).trans h4, (hb.cell (p := ⟨0, 4, none⟩) hB).trans h5⟩
theorem Szs.step {w w' : World} (h : Szs w) (hb : Below w.heap.size w w') : Szs w' := h.below hb h.1

/-- A pointer's bytes. -/
def bytesP (p : Pt) : List UInt8 := leB 1 p.1.toNat ++ leB 3 p.2.1 ++ leB 4 p.2.2.1 ++ leB 4 p.2.2.2.1 ++ leB 4 p.2.2.2.2
theorem bytesP_length (p : Pt) : (bytesP p).length = 16 := by simp [bytesP, leB_length]
/-- The pointer whose bytes these are. -/
def getP (s : List UInt8) : Pt := (((leN ((s.drop 0).take 1) : Nat) : Int), leN ((s.drop 1).take 3), leN ((s.drop 4).take 4), leN ((s.drop 8).take 4), leN ((s.drop 12).take 4))
theorem leN_le (s : List UInt8) (i k : Nat) : leN ((s.drop i).take k) < 256 ^ k :=
  Nat.lt_of_lt_of_le (leN_lt _) (Nat.pow_le_pow_right (by omega) (by simp; omega))
theorem wf_getP (s : List UInt8) : WfP (getP s) := by
  have h0 := leN_le s 0 1
  have h1 := leN_le s 1 3
  have h2 := leN_le s 4 4
  have h3 := leN_le s 8 4
  have h4 := leN_le s 12 4
  refine ⟨⟨?_, ?_⟩, ?_, ?_, ?_, ?_⟩ <;> simp only [getP] <;> omega
/-- A pointer that may be has numbers that have room. -/
theorem MayP.room {p : Pt} (h : MayP p) : (0 ≤ p.1 ∧ p.1 < 256) ∧ p.2.1 < 16777216 := by
  rcases h with rfl | ⟨⟨h1, h2⟩, h3, h4⟩
  · decide
  · omega
theorem getP_bytesP {p : Pt} (h : MayP p) (hw : WfP p) : getP (bytesP p) = p := by
  obtain ⟨⟨h1, h2⟩, h3⟩ := h.room
  obtain ⟨_, _, h4, h5, h6⟩ := hw
  obtain ⟨a, b, c, d, e⟩ := p
  dsimp only at h1 h2 h3 h4 h5 h6
  have e0 : ((bytesP (a, b, c, d, e)).drop 0).take 1 = leB 1 a.toNat := by simp [bytesP, leB_length]
  have l1 := leB_length 1 a.toNat
  have l2 := leB_length 3 b
  have l3 := leB_length 4 c
  have l4 := leB_length 4 d
  have l5 := leB_length 4 e
  have cut : ∀ (A B C : List UInt8) (i k : Nat), A.length = i → B.length = k → ((A ++ (B ++ C)).drop i).take k = B := fun A B C i k h1 h2 => by
    subst h1; subst h2; simp
  have e1 : ((bytesP (a, b, c, d, e)).drop 1).take 3 = leB 3 b := by
    have := cut (leB 1 a.toNat) (leB 3 b) (leB 4 c ++ leB 4 d ++ leB 4 e) 1 3 l1 l2
    simpa [bytesP] using this
  have e2 : ((bytesP (a, b, c, d, e)).drop 4).take 4 = leB 4 c := by
    have := cut (leB 1 a.toNat ++ leB 3 b) (leB 4 c) (leB 4 d ++ leB 4 e) 4 4 (by simp [leB_length]) l3
    simpa [bytesP] using this
  have e3 : ((bytesP (a, b, c, d, e)).drop 8).take 4 = leB 4 d := by
    have := cut (leB 1 a.toNat ++ leB 3 b ++ leB 4 c) (leB 4 d) (leB 4 e) 8 4 (by simp [leB_length]) l4
    simpa [bytesP] using this
  have e4 : ((bytesP (a, b, c, d, e)).drop 12).take 4 = leB 4 e := by
    have := cut (leB 1 a.toNat ++ leB 3 b ++ leB 4 c ++ leB 4 d) (leB 4 e) [] 12 4 (by simp [leB_length]) l5
    simpa [bytesP] using this
  rw [getP, e0, e1, e2, e3, e4, leN_leB 1 _ (by omega), leN_leB 3 _ (by omega), leN_leB 4 _ (by omega), leN_leB 4 _ (by omega), leN_leB 4 _ (by omega)]
  have : ((a.toNat : Nat) : Int) = a := by omega
  rw [this]
theorem bytesP_getP {s : List UInt8} (h : s.length = 16) : bytesP (getP s) = s := by
  have back : ∀ (i k : Nat), i + k ≤ 16 → leB k (leN ((s.drop i).take k)) = (s.drop i).take k := fun i k hk => by
    have := leB_leN ((s.drop i).take k)
    rwa [win_length (by omega)] at this
  have e0 : (((leN ((s.drop 0).take 1) : Nat) : Int)).toNat = leN ((s.drop 0).take 1) := by omega
  simp only [bytesP, getP]
  rw [e0, back 0 1 (by omega), back 1 3 (by omega), back 4 4 (by omega), back 8 4 (by omega), back 12 4 (by omega)]
  have j : ∀ i k, s.take i ++ (s.drop i).take k = s.take (i + k) := fun i k => List.take_add.symm
  rw [List.drop_zero, j 1 3, j 4 4, j 8 4, j 12 4]
  exact List.take_of_length_le (by omega)

theorem isTaken_any (a : Int) (w : World) : Calls Try.prog 58 #[.int .i64 a] w fun e w' => e = .returned (.bool (decide (12 ≤ a ∧ a < 256))) ∧ w = w' := by
  by_cases h : 12 ≤ a
  · by_cases h2 : a < 256
    · rw [decide_eq_true (And.intro h h2)]
      go_enter Try.func58, Try.ntmps58
      go_wp2_with fail
      go_ret
      exact ⟨rfl, rfl⟩
    · rw [decide_eq_false (fun hh : 12 ≤ a ∧ a < 256 => h2 hh.2)]
      go_enter Try.func58, Try.ntmps58
      go_wp2_with fail
      go_ret
      exact ⟨rfl, rfl⟩
  · rw [decide_eq_false (fun hh : 12 ≤ a ∧ a < 256 => h hh.1)]
    go_enter Try.func58, Try.ntmps58
    go_wp2_with fail
    go_ret
    exact ⟨rfl, rfl⟩
theorem isSync_any (b : Nat) (w : World) : Calls Try.prog 59 #[.int .u32 (b : Int)] w fun e w' => e = .returned (.bool (decide (1 ≤ b ∧ b ≤ 16777215))) ∧ w = w' := by
  by_cases h : 1 ≤ b
  · by_cases h2 : b ≤ 16777215
    · rw [decide_eq_true (And.intro h h2)]
      have i1 : (1 : Int) ≤ (b : Int) := by omega
      have i2 : (b : Int) ≤ 16777215 := by omega
      go_enter Try.func59, Try.ntmps59
      go_wp2_with fail
      go_ret
      exact ⟨rfl, rfl⟩
    · rw [decide_eq_false (fun hh : 1 ≤ b ∧ b ≤ 16777215 => h2 hh.2)]
      have i1 : (1 : Int) ≤ (b : Int) := by omega
      have i2 : ¬ (b : Int) ≤ 16777215 := by omega
      go_enter Try.func59, Try.ntmps59
      go_wp2_with fail
      go_ret
      exact ⟨rfl, rfl⟩
  · rw [decide_eq_false (fun hh : 1 ≤ b ∧ b ≤ 16777215 => h hh.1)]
    have i1 : ¬ (1 : Int) ≤ (b : Int) := by omega
    go_enter Try.func59, Try.ntmps59
    go_wp2_with fail
    go_ret
    exact ⟨rfl, rfl⟩
theorem mayBe_any (p : Pt) (w : World) : Calls Try.prog 52 #[ptV p] w fun e w' => e = .returned (.bool (decide (MayP p))) ∧ Below w.heap.size w w' := by
  obtain ⟨a, b, c, d, e⟩ := p
  have heq := eqPt_zero a b c d e
  by_cases h0 : eqP (a, b, c, d, e) p0 = true
  · have hm : decide (MayP (a, b, c, d, e)) = true := decide_eq_true (.inl ((eqP_iff _ _).1 h0))
    rw [hm]
    rw [h0] at heq
    go_enter Try.func52, Try.ntmps52
    go_wp2_with fail
    go_ret
    exact ⟨rfl, (Below.refl _ w).alloc (Nat.le_refl _) _⟩
  · have h0' : eqP (a, b, c, d, e) p0 = false := by simpa using h0
    rw [h0'] at heq
    have hne : (a, b, c, d, e) ≠ p0 := fun hh => h0 ((eqP_iff _ _).2 hh)
    by_cases h1 : 12 ≤ a ∧ a < 256
    · have hm : decide (MayP (a, b, c, d, e)) = decide (1 ≤ b ∧ b ≤ 16777215) := by
        rw [decide_eq_decide]
        exact ⟨fun hh => (hh.resolve_left hne).2, fun hh => .inr ⟨h1, hh⟩⟩
      rw [hm]
      have ht := isTaken_any a
      rw [decide_eq_true h1] at ht
      have hs := isSync_any b
      obtain ⟨r, hr⟩ : ∃ r, decide (1 ≤ b ∧ b ≤ 16777215) = r := ⟨_, rfl⟩
      rw [hr] at hs ⊢
      clear hm hr h1 hne h0 h0'
      go_enter Try.func52, Try.ntmps52
      go_wp2_with (first | (go_at_call 58; refine (ht _).mono ?_; rintro e w' ⟨rfl, rfl⟩) | (go_at_call 59; refine (hs _).mono ?_; rintro e w' ⟨rfl, rfl⟩))
      go_ret
      exact ⟨rfl, (Below.refl _ w).alloc (Nat.le_refl _) _⟩
    · have hm : decide (MayP (a, b, c, d, e)) = false := decide_eq_false fun hh => h1 (hh.resolve_left hne).1
      rw [hm]
      have ht := isTaken_any a
      rw [decide_eq_false h1] at ht
      clear hm h1 hne h0 h0'
      go_enter Try.func52, Try.ntmps52
      go_wp2_with (go_at_call 58; refine (ht _).mono ?_; rintro e w' ⟨rfl, rfl⟩)
      go_ret
      exact ⟨rfl, (Below.refl _ w).alloc (Nat.le_refl _) _⟩
end Go.Proofs.Ytadffkfalclpjaa
