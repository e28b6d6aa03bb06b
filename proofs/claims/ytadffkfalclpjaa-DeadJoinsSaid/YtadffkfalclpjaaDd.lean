/-
  Words for dead lists, as plain lists: what Add, Split and Join answer; what follows of them.
-/
import Derived.Test.YtadffkfalclpjaaPt
namespace Go.Proofs.Ytadffkfalclpjaa
open Go.RowKit Go.Shelf
set_option maxRecDepth 100000

/-- A pointer may be in a list. -/
def OneP (p : Pt) : Prop := MayP p ∧ p ≠ p0
instance (p : Pt) : Decidable (OneP p) := by unfold OneP; exact inferInstance
/-- The blocks rise. -/
abbrev Rise (l : List Pt) : Prop := l.Pairwise fun p q => p.1 < q.1
/-- A dead list may be. -/
def MayDL (l : List Pt) : Prop := l.length ≤ 240 ∧ (∀ p ∈ l, OneP p) ∧ Rise l
instance (l : List Pt) : Decidable (MayDL l) := by unfold MayDL; exact inferInstance
/-- As a loop asks it. -/
def StepDL (l : List Pt) (i : Nat) : Prop := OneP (l.getD i p0) ∧ (0 < i → (l.getD (i - 1) p0).1 < (l.getD i p0).1)
instance (l : List Pt) (i : Nat) : Decidable (StepDL l i) := by unfold StepDL; exact inferInstance
theorem ddGetD {l : List Pt} {i : Nat} (h : i < l.length) : l.getD i p0 = l[i] := by rw [List.getD_eq_getElem?_getD, List.getElem?_eq_getElem h]; rfl
theorem rise_step {l : List Pt} : (∀ i, 0 < i → i < l.length → (l.getD (i - 1) p0).1 < (l.getD i p0).1) → Rise l := fun h => by
  rw [Rise, List.pairwise_iff_getElem]
  intro i j hi hj hij
  obtain ⟨d, rfl⟩ : ∃ d, j = i + 1 + d := ⟨j - (i + 1), by omega⟩
  induction d with
  | zero =>
    have := h (i + 1) (by omega) hj
    rw [ddGetD (by omega), ddGetD hj] at this
    simpa using this
  | succ d ih =>
    have h1 := ih (by omega) (by omega)
    have h2 := h (i + 1 + (d + 1)) (by omega) hj
    rw [ddGetD (by omega), ddGetD hj] at h2
    have e : i + 1 + (d + 1) - 1 = i + 1 + d := by omega
    simp only [e] at h2
    omega
theorem mayDL_steps {l : List Pt} (h : l.length ≤ 240) : MayDL l ↔ ∀ i, i < l.length → StepDL l i := by
  constructor
  · rintro ⟨_, h2, h3⟩ i hi
    refine ⟨by rw [ddGetD hi]; exact h2 _ (List.getElem_mem _), fun h0 => ?_⟩
    rw [ddGetD hi, ddGetD (by omega)]
    exact (List.pairwise_iff_getElem.1 h3) (i - 1) i (by omega) hi (by omega)
  · intro hs
    refine ⟨h, fun p hp => ?_, rise_step fun i h0 hi => (hs i hi).2 h0⟩
    obtain ⟨i, hi, rfl⟩ := List.getElem_of_mem hp
    have := (hs i hi).1
    rwa [ddGetD hi] at this
/-- A list has a pointer of a block. -/
def HasAt (l : List Pt) (n : Int) : Prop := ∃ p ∈ l, p.1 = n
instance (l : List Pt) (n : Int) : Decidable (HasAt l n) := by unfold HasAt; exact inferInstance
/-- A pointer in its place. -/
def inDL : List Pt → Pt → List Pt
  | [], p => [p]
  | q :: r, p => if p.1 < q.1 then p :: q :: r else q :: inDL r p
theorem inDL_yes {p q : Pt} {r : List Pt} (h : p.1 < q.1) : inDL (q :: r) p = p :: q :: r := if_pos h
theorem inDL_no {p q : Pt} {r : List Pt} (h : ¬ p.1 < q.1) : inDL (q :: r) p = q :: inDL r p := if_neg h
theorem inDL_perm (l : List Pt) (p : Pt) : (inDL l p).Perm (p :: l) := by
  induction l with
  | nil => exact List.Perm.refl _
  | cons q r ih =>
    unfold inDL
    split
    · exact List.Perm.refl _
    · exact (List.Perm.cons q ih).trans (List.Perm.swap p q r)
theorem inDL_length (l : List Pt) (p : Pt) : (inDL l p).length = l.length + 1 := by simpa using (inDL_perm l p).length_eq
theorem inDL_mem {l : List Pt} {p q : Pt} : q ∈ inDL l p ↔ q = p ∨ q ∈ l := by rw [(inDL_perm l p).mem_iff]; simp
theorem inDL_rise {l : List Pt} {p : Pt} (h : Rise l) (hn : ¬ HasAt l p.1) : Rise (inDL l p) := by
  induction l with
  | nil => exact List.pairwise_singleton _ _
  | cons q r ih =>
    obtain ⟨h1, h2⟩ := List.pairwise_cons.1 h
    unfold inDL
    split
    · rename_i hlt
      exact List.pairwise_cons.2 ⟨fun x hx => by rcases List.mem_cons.1 hx with rfl | hx; exact hlt; have := h1 x hx; omega, h⟩
    · rename_i hlt
      refine List.pairwise_cons.2 ⟨fun x hx => ?_, ih h2 fun ⟨x, hx, e⟩ => hn ⟨x, List.mem_cons_of_mem _ hx, e⟩⟩
      rcases inDL_mem.1 hx with rfl | hx
      · have : q.1 ≠ x.1 := fun e => hn ⟨q, List.mem_cons_self .., e⟩
        omega
      · exact h1 x hx
/-- Two rising lists of the same pointers are the same. -/
theorem rise_same {l m : List Pt} (hl : Rise l) (hm : Rise m) (h : l.Perm m) : l = m :=
  List.Perm.eq_of_pairwise (fun a b _ _ h1 h2 => by exfalso; omega) hl hm h
/-- As With's loop makes it. -/
theorem inDL_take {l : List Pt} {p : Pt} {i : Nat} (hi : i < l.length) : ((∀ j, j < i → ¬ p.1 < (l.getD j p0).1) → ¬ p.1 < (l.getD i p0).1 → l.take i ++ [l.getD i p0] = l.take (i + 1)) ∧
    ((∀ j, j < i → ¬ p.1 < (l.getD j p0).1) → p.1 < (l.getD i p0).1 → l.take i ++ [p] ++ [l.getD i p0] = inDL (l.take (i + 1)) p) ∧
    ((∃ j, j < i ∧ p.1 < (l.getD j p0).1) → inDL (l.take i) p ++ [l.getD i p0] = inDL (l.take (i + 1)) p) := by
  have ht : l.take (i + 1) = l.take i ++ [l.getD i p0] := by rw [ddGetD hi, List.take_succ_eq_append_getElem hi]
  have hg : ∀ j, j < i → (l.take i).getD j p0 = l.getD j p0 := fun j hj => by rw [ddGetD (by rw [List.length_take]; omega), ddGetD (by omega), List.getElem_take]
  rw [ht]
  have key : ∀ (m : List Pt) (q : Pt), ((∀ j, j < m.length → ¬ p.1 < (m.getD j p0).1) → p.1 < q.1 → m ++ [p] ++ [q] = inDL (m ++ [q]) p) ∧ ((∃ j, j < m.length ∧ p.1 < (m.getD j p0).1) → inDL m p ++ [q] = inDL (m ++ [q]) p) := by
    intro m q
    induction m with
    | nil =>
      refine ⟨fun _ h => ?_, fun ⟨j, hj, _⟩ => absurd hj (Nat.not_lt_zero _)⟩
      show [p, q] = inDL [q] p
      unfold inDL
      rw [if_pos h]
    | cons x r ih =>
      refine ⟨fun h1 h2 => ?_, fun ⟨j, hj, h2⟩ => ?_⟩
      · have hx : ¬ p.1 < x.1 := h1 0 (by simp)
        have e := ih.1 (fun j hj => h1 (j + 1) (by simpa using hj)) h2
        show x :: (r ++ [p]) ++ [q] = inDL (x :: (r ++ [q])) p
        rw [inDL_no hx, ← e]
        simp
      · by_cases hx : p.1 < x.1
        · show inDL (x :: r) p ++ [q] = inDL (x :: (r ++ [q])) p
          rw [inDL_yes hx, inDL_yes hx]
          rfl
        · show inDL (x :: r) p ++ [q] = inDL (x :: (r ++ [q])) p
          rw [inDL_no hx, inDL_no hx]
          cases j with
          | zero => exact absurd h2 hx
          | succ j => rw [List.cons_append, ih.2 ⟨j, by simpa using hj, h2⟩]
  have hl : (l.take i).length = i := by rw [List.length_take]; omega
  refine ⟨fun _ _ => rfl, fun h1 h2 => (key (l.take i) (l.getD i p0)).1 (fun j hj => ?_) h2, fun ⟨j, hj, h2⟩ => (key (l.take i) (l.getD i p0)).2 ⟨j, by omega, by rw [hg j hj]; exact h2⟩⟩
  rw [hl] at hj
  rw [hg j hj]
  exact h1 j hj
theorem inDL_end {l : List Pt} {p : Pt} (h : ∀ q ∈ l, ¬ p.1 < q.1) : l ++ [p] = inDL l p := by
  induction l with
  | nil => rfl
  | cons q r ih =>
    unfold inDL
    rw [if_neg (h q (List.mem_cons_self ..)), List.cons_append, ih fun x hx => h x (List.mem_cons_of_mem _ hx)]

/-- What Add answers. -/
def addO (l : List Pt) (p : Pt) : List Pt × Nat :=
  if MayDL l ∧ OneP p then if HasAt l p.1 then ([], 2) else if 240 ≤ l.length then ([], 9) else (inDL l p, 0) else ([], 8)
/-- Those born up to a sync, and the others. -/
def oldD (a : Nat) (l : List Pt) : List Pt := l.filter fun p => decide (p.2.1 ≤ a)
def youngD (a : Nat) (l : List Pt) : List Pt := l.filter fun p => decide (a < p.2.1)
def splitO (l : List Pt) (a : Nat) : List Pt × List Pt × Nat := if MayDL l then (oldD a l, youngD a l, 0) else ([], [], 8)
/-- All of both. -/
def bothD (a b : List Pt) : List Pt := b.foldl inDL a
def Meet (a b : List Pt) : Prop := ∃ q ∈ b, HasAt a q.1
instance (a b : List Pt) : Decidable (Meet a b) := by unfold Meet; exact inferInstance
def joinO (a b : List Pt) : List Pt × Nat :=
  if MayDL a ∧ MayDL b then if Meet a b then ([], 2) else if 240 < (bothD a b).length then ([], 9) else (bothD a b, 0) else ([], 8)
theorem bothD_perm (a b : List Pt) : (bothD a b).Perm (a ++ b) := by
  unfold bothD
  induction b generalizing a with
  | nil => simp
  | cons q r ih =>
    rw [List.foldl_cons]
    exact (ih (inDL a q)).trans (((inDL_perm a q).append_right r).trans List.perm_middle.symm)
theorem bothD_length (a b : List Pt) : (bothD a b).length = a.length + b.length := by rw [(bothD_perm a b).length_eq, List.length_append]
theorem bothD_mem {a b : List Pt} {q : Pt} : q ∈ bothD a b ↔ q ∈ a ∨ q ∈ b := by rw [(bothD_perm a b).mem_iff, List.mem_append]
theorem bothD_rise {a b : List Pt} (ha : Rise a) (hb : Rise b) (hn : ¬ Meet a b) : Rise (bothD a b) := by
  unfold bothD
  induction b generalizing a with
  | nil => exact ha
  | cons q r ih =>
    obtain ⟨h1, h2⟩ := List.pairwise_cons.1 hb
    rw [List.foldl_cons]
    refine ih (inDL_rise ha fun h => hn ⟨q, List.mem_cons_self .., h⟩) h2 fun ⟨x, hx, y, hy, e⟩ => ?_
    rcases inDL_mem.1 hy with rfl | hy
    · have := h1 x hx
      omega
    · exact hn ⟨x, List.mem_cons_of_mem _ hx, y, hy, e⟩
theorem bothD_one {a b : List Pt} (ha : ∀ p ∈ a, OneP p) (hb : ∀ p ∈ b, OneP p) : ∀ p ∈ bothD a b, OneP p := fun p hp => by
  rcases bothD_mem.1 hp with h | h
  · exact ha p h
  · exact hb p h
theorem meet_symm {a b : List Pt} : Meet a b ↔ Meet b a := ⟨fun ⟨q, hq, p, hp, e⟩ => ⟨p, hp, q, hq, e.symm⟩, fun ⟨q, hq, p, hp, e⟩ => ⟨p, hp, q, hq, e.symm⟩⟩
theorem joinO_cases (a b : List Pt) : (∃ e, joinO a b = ([], e) ∧ e ≠ 0) ∨ (joinO a b = (bothD a b, 0) ∧ MayDL a ∧ MayDL b ∧ ¬ Meet a b ∧ a.length + b.length ≤ 240 ∧ MayDL (bothD a b)) := by
  unfold joinO
  by_cases h : MayDL a ∧ MayDL b
  · rw [if_pos h]
    by_cases hm : Meet a b
    · rw [if_pos hm]; exact .inl ⟨2, rfl, by decide⟩
    · rw [if_neg hm]
      by_cases hf : 240 < (bothD a b).length
      · rw [if_pos hf]; exact .inl ⟨9, rfl, by decide⟩
      · rw [if_neg hf]
        have hl := bothD_length a b
        exact .inr ⟨rfl, h.1, h.2, hm, by omega, by omega, bothD_one h.1.2.1 h.2.2.1, bothD_rise h.1.2.2 h.2.2.2 hm⟩
  · rw [if_neg h]; exact .inl ⟨8, rfl, by decide⟩
theorem joinO_ok {a b : List Pt} (ha : MayDL a) (hb : MayDL b) (hm : ¬ Meet a b) (hl : a.length + b.length ≤ 240) : joinO a b = (bothD a b, 0) := by
  unfold joinO
  rw [if_pos ⟨ha, hb⟩, if_neg hm, if_neg (by rw [bothD_length]; omega)]
theorem mayDL_nil : MayDL [] := ⟨Nat.zero_le _, fun _ h => (by cases h), List.Pairwise.nil⟩
theorem addO_cases (l : List Pt) (p : Pt) : (∃ e, addO l p = ([], e) ∧ e ≠ 0) ∨ (addO l p = (inDL l p, 0) ∧ MayDL l ∧ OneP p ∧ ¬ HasAt l p.1 ∧ l.length < 240 ∧ MayDL (inDL l p)) := by
  unfold addO
  by_cases h : MayDL l ∧ OneP p
  · rw [if_pos h]
    by_cases hm : HasAt l p.1
    · rw [if_pos hm]; exact .inl ⟨2, rfl, by decide⟩
    · rw [if_neg hm]
      by_cases hf : 240 ≤ l.length
      · rw [if_pos hf]; exact .inl ⟨9, rfl, by decide⟩
      · rw [if_neg hf]
        refine .inr ⟨rfl, h.1, h.2, hm, by omega, by rw [inDL_length]; omega, fun q hq => ?_, inDL_rise h.1.2.2 hm⟩
        rcases inDL_mem.1 hq with rfl | hq
        · exact h.2
        · exact h.1.2.1 q hq
  · rw [if_neg h]; exact .inl ⟨8, rfl, by decide⟩
/-- Joined in either order. -/
theorem joinO_comm (a b : List Pt) : joinO a b = joinO b a := by
  by_cases h : MayDL a ∧ MayDL b
  · have h' : MayDL b ∧ MayDL a := And.intro h.2 h.1
    unfold joinO
    rw [if_pos h, if_pos h']
    by_cases hm : Meet a b
    · rw [if_pos hm, if_pos (meet_symm.1 hm)]
    · have hm2 : ¬ Meet b a := fun h => hm (meet_symm.1 h)
      rw [if_neg hm, if_neg hm2]
      have e : bothD a b = bothD b a := rise_same (bothD_rise h.1.2.2 h.2.2.2 hm) (bothD_rise h.2.2.2 h.1.2.2 hm2) ((bothD_perm a b).trans (List.perm_append_comm.trans (bothD_perm b a).symm))
      rw [e]
  · have h' : ¬ (MayDL b ∧ MayDL a) := fun k => h (And.intro k.2 k.1)
    unfold joinO
    rw [if_neg h, if_neg h']
/-- With an empty list. -/
theorem joinO_nil {a : List Pt} (h : MayDL a) : joinO a [] = (a, 0) := by
  rw [joinO_ok h mayDL_nil (fun ⟨_, hq, _⟩ => by cases hq) (by have := h.1; simpa using this)]
  rfl
/-- In whichever groups. -/
theorem joinO_assoc {a b c x u : List Pt} (h1 : joinO a b = (x, 0)) (h2 : joinO x c = (u, 0)) : ∃ z, joinO b c = (z, 0) ∧ joinO a z = (u, 0) := by
  rcases joinO_cases a b with ⟨e, h, hn⟩ | ⟨h, ha, hb, hm, hl, hab⟩
  · rw [h] at h1; cases h1; exact absurd rfl hn
  · rw [h] at h1
    cases h1
    rcases joinO_cases (bothD a b) c with ⟨e, k, kn⟩ | ⟨k, _, hc, km, kl, kab⟩
    · rw [k] at h2; cases h2; exact absurd rfl kn
    · rw [k] at h2
      cases h2
      rw [bothD_length] at kl
      have hbc : ¬ Meet b c := fun ⟨q, hq, p, hp, e⟩ => km ⟨q, hq, p, bothD_mem.2 (.inr hp), e⟩
      have hac : ¬ Meet a c := fun ⟨q, hq, p, hp, e⟩ => km ⟨q, hq, p, bothD_mem.2 (.inl hp), e⟩
      have hjb := joinO_ok hb hc hbc (by omega)
      rcases joinO_cases b c with ⟨e, k2, kn⟩ | ⟨_, _, _, _, _, hz⟩
      · rw [k2] at hjb; exact absurd (congrArg Prod.snd hjb) kn
      · have hmz : ¬ Meet a (bothD b c) := fun ⟨q, hq, p, hp, e⟩ => by
          rcases bothD_mem.1 hq with hq | hq
          · exact hm ⟨q, hq, p, hp, e⟩
          · exact hac ⟨q, hq, p, hp, e⟩
        refine ⟨_, hjb, ?_⟩
        rw [joinO_ok ha hz hmz (by rw [bothD_length]; omega)]
        have e : bothD a (bothD b c) = bothD (bothD a b) c := by
          refine rise_same (bothD_rise ha.2.2 hz.2.2 hmz) (bothD_rise hab.2.2 hc.2.2 km) ?_
          exact (bothD_perm a _).trans (((bothD_perm b c).append_left a).trans ((List.append_assoc a b c ▸ List.Perm.refl _ : (a ++ (b ++ c)).Perm (a ++ b ++ c)).trans (((bothD_perm a b).symm.append_right c).trans (bothD_perm _ c).symm)))
        rw [e]
theorem mayDL_filter {l : List Pt} (h : MayDL l) (f : Pt → Bool) : MayDL (l.filter f) :=
  ⟨Nat.le_trans (List.length_filter_le _ _) h.1, fun p hp => h.2.1 p (List.mem_filter.1 hp).1, h.2.2.filter f⟩
/-- What was split is joined as it was. -/
theorem split_join {l : List Pt} (a : Nat) (h : MayDL l) : joinO (youngD a l) (oldD a l) = (l, 0) := by
  have hy := mayDL_filter h fun p => decide (a < p.2.1)
  have ho := mayDL_filter h fun p => decide (p.2.1 ≤ a)
  have hp : (oldD a l ++ youngD a l).Perm l := by
    have := List.filter_append_perm (fun p : Pt => decide (p.2.1 ≤ a)) l
    have e : (fun p : Pt => !decide (p.2.1 ≤ a)) = fun p => decide (a < p.2.1) := by
      funext p
      by_cases h : p.2.1 ≤ a
      · rw [decide_eq_true h, decide_eq_false (by omega)]; rfl
      · rw [decide_eq_false h, decide_eq_true (by omega)]; rfl
    rw [e] at this
    exact this
  have hm : ¬ Meet (youngD a l) (oldD a l) := fun ⟨q, hq, p, hp, e⟩ => by
    obtain ⟨h1, h2⟩ := List.mem_filter.1 hq
    obtain ⟨h3, h4⟩ := List.mem_filter.1 hp
    have h2 := of_decide_eq_true h2
    have h4 := of_decide_eq_true h4
    have hne : p ≠ q := fun e => by subst e; omega
    obtain ⟨i, hi, rfl⟩ := List.getElem_of_mem h1
    obtain ⟨j, hj, rfl⟩ := List.getElem_of_mem h3
    have hr := List.pairwise_iff_getElem.1 h.2.2
    rcases Nat.lt_trichotomy i j with hij | hij | hij
    · have := hr i j hi hj hij; omega
    · subst hij; exact hne rfl
    · have := hr j i hj hi hij; omega
  have hl : (youngD a l).length + (oldD a l).length ≤ 240 := by
    have := hp.length_eq
    rw [List.length_append] at this
    have := h.1
    omega
  have hj : joinO (youngD a l) (oldD a l) = (bothD (youngD a l) (oldD a l), 0) := joinO_ok hy ho hm hl
  rw [hj]
  have e : bothD (youngD a l) (oldD a l) = l := rise_same (bothD_rise hy.2.2 ho.2.2 hm) h.2.2 ((bothD_perm _ _).trans (List.perm_append_comm.trans hp))
  rw [e]
/-- Split after two syncs. -/
theorem split_two {a b : Nat} (h : a ≤ b) (l : List Pt) : oldD a l = oldD a (oldD b l) ∧ oldD b (youngD a l) = youngD a (oldD b l) ∧ youngD b (youngD a l) = youngD b l := by
  unfold oldD youngD
  simp only [List.filter_filter]
  refine ⟨List.filter_congr fun p _ => ?_, List.filter_congr fun p _ => ?_, List.filter_congr fun p _ => ?_⟩
  · by_cases h1 : p.2.1 ≤ a
    · have h2 : p.2.1 ≤ b := by omega
      simp [h1, h2]
    · simp [h1]
  · rw [Bool.and_comm]
  · by_cases h1 : b < p.2.1
    · have h2 : a < p.2.1 := by omega
      simp [h1, h2]
    · simp [h1]
/-- Added one by one from the end. -/
theorem add_last {l : List Pt} (h : MayDL l) {i : Nat} (hi : i < l.length) : addO (l.drop (i + 1)) (l.getD i p0) = (l.drop i, 0) := by
  have hd : l.drop i = l.getD i p0 :: l.drop (i + 1) := by rw [ddGetD hi]; exact List.drop_eq_getElem_cons hi
  have hsub : (l.drop (i + 1)).Sublist l := List.drop_sublist _ _
  have hr : Rise (l.getD i p0 :: l.drop (i + 1)) := by rw [← hd]; exact h.2.2.sublist (List.drop_sublist _ _)
  obtain ⟨h1, h2⟩ := List.pairwise_cons.1 hr
  have hm : MayDL (l.drop (i + 1)) := ⟨by rw [List.length_drop]; have := h.1; omega, fun p hp => h.2.1 p (hsub.subset hp), h2⟩
  have ho : OneP (l.getD i p0) := by rw [ddGetD hi]; exact h.2.1 _ (List.getElem_mem _)
  have hn : ¬ HasAt (l.drop (i + 1)) (l.getD i p0).1 := fun ⟨q, hq, e⟩ => by have := h1 q hq; omega
  have hw : inDL (l.drop (i + 1)) (l.getD i p0) = l.drop i := by
    rw [hd]
    cases hc : l.drop (i + 1) with
    | nil => rfl
    | cons q r =>
      unfold inDL
      rw [if_pos (h1 q (by rw [hc]; exact List.mem_cons_self ..))]
  unfold addO
  rw [if_pos ⟨hm, ho⟩, if_neg hn, if_neg (by rw [List.length_drop]; have := h.1; omega), hw]
end Go.Proofs.Ytadffkfalclpjaa
