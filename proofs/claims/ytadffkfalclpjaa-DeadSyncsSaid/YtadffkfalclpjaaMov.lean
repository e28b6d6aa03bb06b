/-
  A region that draws its order and holds calls that make memory, walked in one order of one's own: each operation that reads yields the same in every world that what follows may come to; each call stands alone when its turn comes (or two stand side by side: both ways are walked); an operation that has its own place in the order may do what it likes.
-/
import Derived.OrdersHeld
import Derived.Below
import Derived.Tactics
import Derived.KernelRfl
namespace Go.Proofs.Ytadffkfalclpjaa
open Go Go.RowKit
set_option maxRecDepth 100000

/-- What lay as it lay still does. -/
def Stays (w w' : World) : Prop := ∀ X : World, Below X.heap.size X w → Below X.heap.size X w'
theorem Stays.refl (w : World) : Stays w w := fun _ h => h
theorem Stays.trans {a b c : World} (h : Stays a b) (k : Stays b c) : Stays a c := fun X hx => k X (h X hx)
theorem Stays.of_below {w w' : World} (b : Below w.heap.size w w') : Stays w w' := fun _ h => h.trans (b.mono h.size)
theorem Stays.drew (w : World) : Stays w w.drew := fun _ h => h.drew
theorem Stays.same {w w' : World} (h : w' = w) : Stays w w' := h ▸ Stays.refl w

section
variable {P : Program} {ops : Array Oper} {Q : Exit → Act → World → Prop} {md : Region.Mode}

/-- What is listed has all listed that it waits for. -/
def Closed (md : Region.Mode) (ops : Array Oper) (L : Array Bool) : Prop := ∀ k o, ops[k]? = some o → L.getD k false = true → ∀ e ∈ o.after, Region.binds md e = true → L.getD e.on false = true
def closedB (md : Region.Mode) (ops : Array Oper) (L : Array Bool) : Bool :=
  (List.range ops.size).all fun k => !L.getD k false || match ops[k]? with
    | some o => o.after.toList.all fun e => !Region.binds md e || L.getD e.on false
    | none => true
theorem closedB_spec {L : Array Bool} (h : closedB md ops L = true) : Closed md ops L := by
  intro k o hk hl e he hb
  unfold closedB at h
  simp only [List.all_eq_true, List.mem_range] at h
  have h1 := h k (Array.getElem?_eq_some_iff.1 hk).1
  rw [hl, hk] at h1
  simp only [Bool.not_true, Bool.false_or, List.all_eq_true] at h1
  have h2 := h1 e (by simpa using he)
  rw [hb] at h2
  simpa using h2
theorem closed_set {L : Array Bool} {j : Nat} (h : Closed md ops L) (hj : j ∈ Region.ready md ops L) : Closed md ops (L.setIfInBounds j true) := by
  intro k o hk hl e he hb
  by_cases hkj : j = k
  · subst hkj
    obtain ⟨_, oj, hoj, hall⟩ := mem_ready.1 hj
    rw [hk] at hoj
    cases hoj
    exact getD_set_true (hall e he hb)
  · rw [getD_set_ne false hkj] at hl
    exact getD_set_true (h k o hk hl e he hb)
/-- j waits for k, by at most so many steps. -/
def waitsB (md : Region.Mode) (ops : Array Oper) : Nat → Nat → Nat → Bool
  | 0, _, _ => false
  | n + 1, j, k => match ops[j]? with
    | some o => o.after.toList.any fun e => Region.binds md e && (e.on == k || waitsB md ops n e.on k)
    | none => false
theorem waits_listed {L : Array Bool} (hc : Closed md ops L) {k : Nat} : ∀ (n j : Nat), waitsB md ops n j k = true → (∀ o, ops[j]? = some o → ∀ e ∈ o.after, Region.binds md e = true → L.getD e.on false = true) → L.getD k false = true
  | 0, _, h, _ => by cases h
  | n + 1, j, h, hd => by
    unfold waitsB at h
    cases ho : ops[j]? with
    | none => rw [ho] at h; cases h
    | some o =>
      rw [ho] at h
      simp only [List.any_eq_true, Bool.and_eq_true, Bool.or_eq_true, beq_iff_eq] at h
      obtain ⟨e, he, hb, h1⟩ := h
      have hl := hd o ho e (by simpa using he) hb
      rcases h1 with h1 | h1
      · rw [← h1]; exact hl
      · exact waits_listed hc n e.on h1 fun o' ho' e' he' hb' => hc e.on o' ho' hl e' he' hb'
/-- Each other operation comes ahead of that of number i, or behind it. -/
def lastB (md : Region.Mode) (ops : Array Oper) (i : Nat) : Bool := (List.range ops.size).all fun k => k == i || waitsB md ops ops.size i k || waitsB md ops ops.size k i
theorem unready {L : Array Bool} {i : Nat} (h : i ∈ Region.ready md ops L) (hl : L.getD i false = true) : False := by
  have h0 := (mem_ready.1 h).1
  rcases Nat.lt_or_ge i L.size with h' | h'
  · simp [h'] at h0 hl; rw [h0] at hl; cases hl
  · simp [Array.getElem?_eq_none h'] at hl
theorem lastB_not {L : Array Bool} {i j : Nat} (hc : Closed md ops L) (hi : i ∈ Region.ready md ops L) (hj : j ∈ Region.ready md ops L) (hne : j ≠ i) : lastB md ops j ≠ true := by
  intro h
  unfold lastB at h
  simp only [List.all_eq_true, List.mem_range] at h
  obtain ⟨_, oi, hoi, di⟩ := mem_ready.1 hi
  obtain ⟨_, oj, hoj, dj⟩ := mem_ready.1 hj
  have h1 := h i (Array.getElem?_eq_some_iff.1 hoi).1
  simp only [Bool.or_eq_true, beq_iff_eq, Ne.symm hne, false_or] at h1
  rcases h1 with h1 | h1
  · exact unready hi (waits_listed hc _ j h1 fun o ho e he hb => by rw [hoj] at ho; cases ho; exact dj e he hb)
  · exact unready hj (waits_listed hc _ i h1 fun o ho e he hb => by rw [hoi] at ho; cases ho; exact di e he hb)

/-- Whatever order is picked from here on; what lay as it lay still does behind each operation but such as stand alone in the order. -/
def wpMov (P : Program) (md : Region.Mode) (ops : Array Oper) (Q : Exit → Act → World → Prop) : Nat → Array Bool → Act → World → Prop
  | 0, listed, a, w => Region.ready md ops listed = [] ∧ Q .normal a w
  | fuel + 1, listed, a, w =>
    (Region.ready md ops listed = [] → Q .normal a w) ∧
    ∀ i ∈ Region.ready md ops listed, wpOp P ops Q i (fun a' w' => (lastB md ops i = true ∨ Stays w w') ∧ wpMov P md ops Q fuel (listed.setIfInBounds i true) a' w') a w
theorem wpAny_of_mov : ∀ (fuel : Nat) (listed : Array Bool) (a : Act) (w : World), wpMov P md ops Q fuel listed a w → wpAny P md ops Q fuel listed a w
  | 0, _, _, _, h => h
  | fuel + 1, _, _, _, h => ⟨h.1, fun i hi => wpOp_mono (fun a' w' h' => wpAny_of_mov fuel _ a' w' h'.2) (h.2 i hi)⟩

theorem yieldsIf_weaken {S S' : World → Prop} {o : Oper} {v : Value} {a : Act} (h : YieldsIf P ops S o v a) (hS : ∀ w, S' w → S w) : YieldsIf P ops S' o v a :=
  h.imp (fun ⟨hw, hv⟩ => ⟨hw, fun w hs => hv w (hS w hs)⟩) id

theorem wpMov_first {i : Nat} {oi : Oper} {v : Value} (hi : ops[i]? = some oi) (hsel : ∀ (j : Nat) (o : Oper) cs b, ops[j]? = some o → o.op ≠ .select cs b)
    (hQ : ∀ c a w, Q (.panic c) (a.put oi.dst v) w → Q (.panic c) a w) :
    ∀ (fuel : Nat) (listed : Array Bool) (a : Act) (w : World),
      (∀ j oj, ops[j]? = some oj → j ≠ i → listed.getD j true = false → (∀ e ∈ oj.after, Region.binds md e = true → e.on ≠ i) → oi.apart ops oj = true) →
      Closed md ops listed → i ∈ Region.ready md ops listed → YieldsIf P ops (Stays w) oi v a →
      wpMov P md ops Q fuel (listed.setIfInBounds i true) (a.put oi.dst v) w → wpMov P md ops Q (fuel + 1) listed a w := by
  intro fuel
  induction fuel with
  | zero =>
    intro listed a w _ hcl hr hy H
    refine ⟨fun h => (by rw [h] at hr; cases hr), fun j hj => ?_⟩
    by_cases hji : j = i
    · subst hji; exact hy.wpOp hi (Stays.refl w) ⟨.inr (Stays.refl w), H⟩
    · have := ready_mono hj hji
      rw [H.1] at this
      cases this
  | succ fuel ih =>
    intro listed a w hfree hcl hr hy H
    refine ⟨fun h => (by rw [h] at hr; cases hr), fun j hj => ?_⟩
    by_cases hji : j = i
    · subst hji; exact hy.wpOp hi (Stays.refl w) ⟨.inr (Stays.refl w), H⟩
    · have g1 := H.2 j (ready_mono hj hji)
      obtain ⟨hjun, oj, hoj, hall⟩ := mem_ready.1 hj
      have hnot : ∀ e ∈ oj.after, Region.binds md e = true → e.on ≠ i := by
        intro e he hb heq
        have t1 := hall e he hb
        have t0 := (mem_ready.1 hr).1
        rw [heq] at t1
        rcases Nat.lt_or_ge i listed.size with h' | h'
        · simp [h'] at t0 t1; rw [t0] at t1; cases t1
        · simp [Array.getElem?_eq_none h'] at t1
      have g2 := wpOp_putIf hoj (hfree j oj hoj hji hjun hnot) (fun cs b => hsel i oi cs b hi) (fun cs b => hsel j oj cs b hoj) hQ hy g1
      have hnl := lastB_not hcl hr hj hji
      refine wpOp_mono (fun a' w' g3 => ⟨.inr (g3.2.1.resolve_left hnl), ih (listed.setIfInBounds j true) a' w' ?_ (closed_set hcl hj) (ready_mono hr (Ne.symm hji)) (yieldsIf_weaken g3.1 fun W hW => (g3.2.1.resolve_left hnl).trans hW) ?_⟩) g2
      · intro k ok hk hki hun hno
        refine hfree k ok hk hki ?_ hno
        by_cases hjk : j = k
        · subst hjk; exact hjun
        · rw [getD_set_ne true hjk] at hun; exact hun
      · rw [Array.setIfInBounds_comm _ _ hji]
        exact g3.2.2

/-- The operation of number i, written out. -/
def nthOp : List Oper → Nat → Option Oper
  | [], _ => none
  | o :: _, 0 => some o
  | _ :: l, n + 1 => nthOp l n
theorem nthOp_eq : ∀ (l : List Oper) (i : Nat), nthOp l i = l.toArray[i]?
  | [], _ => rfl
  | _ :: _, 0 => rfl
  | _ :: l, n + 1 => by
    rw [nthOp, nthOp_eq l n]
    simp

/-- In the order σ. -/
def wpS (P : Program) (md : Region.Mode) (ops : List Oper) (Q : Exit → Act → World → Prop) (σ : List Nat) (listed : Array Bool) (a : Act) (w : World) : Prop := wpMov P md ops.toArray Q σ.length listed a w

theorem wpS_start {l : List Oper} {id : Nat} {a : Act} {w w1 : World} (σ : List Nat) (hm : P.follows .mixedOrders = true) (hl : σ.length = l.length) (hw : w.drew = w1)
    (h : wpS P .any l Q σ (Array.replicate l.length false) a w1) : (Code.region id l.toArray true).wp P Q a w := by
  subst hw
  refine wp_region_any hm (wpAny_of_mov _ _ _ _ ?_)
  unfold wpS at h
  rw [hl] at h
  simpa using h
theorem wpS_read {l : List Oper} {i : Nat} {σ : List Nat} {oi : Oper} {v : Value} {listed : Array Bool} {a : Act} {w : World} (hi : nthOp l i = some oi)
    (hs : Region.noSelect l.toArray = true) (hf : Region.free md l.toArray listed i = true) (hr : (Region.ready md l.toArray listed).contains i = true)
    (hQ : ∀ c a w, Q (.panic c) (a.put oi.dst v) w → Q (.panic c) a w) (hy : YieldsIf P l.toArray (Stays w) oi v a)
    (h : wpS P md l Q σ (listed.setIfInBounds i true) (a.put oi.dst v) w) (hcl : closedB md l.toArray listed = true := by kernel_rfl) : wpS P md l Q (i :: σ) listed a w :=
  wpMov_first (by rw [← nthOp_eq]; exact hi) (Region.noSelect_spec hs) hQ σ.length listed a w (Region.free_spec (by rw [← nthOp_eq]; exact hi) hf) (closedB_spec hcl) (by simpa using hr) hy h
theorem wpOp_of {P : Program} {l : List Oper} {Q : Exit → Act → World → Prop} {i : Nat} {o : Oper} {a : Act} {w : World} {K : Act → World → Prop} (hi : nthOp l i = some o)
    (h : if Region.wanted o (yielded l.toArray a.tmps) then o.wp P a w K Q else K (a.put o.dst undef) w) : wpOp P l.toArray Q i K a w := by
  unfold wpOp
  rw [← nthOp_eq, hi]
  simp only
  split
  · rename_i hw; rw [if_pos hw] at h; exact .inl h
  · rename_i hw; rw [if_neg hw] at h; exact h
theorem wpS_lone {l : List Oper} {i : Nat} {σ : List Nat} {o : Oper} {listed : Array Bool} {a : Act} {w : World} (hi : nthOp l i = some o) (hr : Region.ready md l.toArray listed = [i])
    (h : ∀ K : Act → World → Prop, (∀ a' w', Stays w w' → wpS P md l Q σ (listed.setIfInBounds i true) a' w' → K a' w') → if Region.wanted o (yielded l.toArray a.tmps) then o.wp P a w K Q else K (a.put o.dst undef) w) :
    wpS P md l Q (i :: σ) listed a w := by
  refine ⟨fun h0 => (by rw [hr] at h0; cases h0), fun j hj => ?_⟩
  rw [hr, List.mem_singleton] at hj
  subst hj
  exact wpOp_of hi (h (fun a' w' => (lastB md l.toArray j = true ∨ Stays w w') ∧ wpMov P md l.toArray Q σ.length (listed.setIfInBounds j true) a' w') (fun a' w' hS hs => ⟨.inr hS, hs⟩))
/-- An operation that has its own place in the order. -/
theorem wpS_last {l : List Oper} {i : Nat} {σ : List Nat} {o : Oper} {listed : Array Bool} {a : Act} {w : World} (hi : nthOp l i = some o) (hr : Region.ready md l.toArray listed = [i]) (hl : lastB md l.toArray i = true)
    (h : ∀ K : Act → World → Prop, (∀ a' w', wpS P md l Q σ (listed.setIfInBounds i true) a' w' → K a' w') → if Region.wanted o (yielded l.toArray a.tmps) then o.wp P a w K Q else K (a.put o.dst undef) w) :
    wpS P md l Q (i :: σ) listed a w := by
  refine ⟨fun h0 => (by rw [hr] at h0; cases h0), fun j hj => ?_⟩
  rw [hr, List.mem_singleton] at hj
  subst hj
  exact wpOp_of hi (h (fun a' w' => (lastB md l.toArray j = true ∨ Stays w w') ∧ wpMov P md l.toArray Q σ.length (listed.setIfInBounds j true) a' w') (fun a' w' hs => ⟨.inl hl, hs⟩))
/-- Two operations stand side by side: both ways. -/
theorem wpS_fork {l : List Oper} {i j : Nat} {σ : List Nat} {oi oj : Oper} {listed : Array Bool} {a : Act} {w : World} (hi : nthOp l i = some oi) (hj : nthOp l j = some oj) (hr : Region.ready md l.toArray listed = [i, j])
    (h1 : ∀ K : Act → World → Prop, (∀ a' w', Stays w w' → wpS P md l Q (j :: σ) (listed.setIfInBounds i true) a' w' → K a' w') → if Region.wanted oi (yielded l.toArray a.tmps) then oi.wp P a w K Q else K (a.put oi.dst undef) w)
    (h2 : ∀ K : Act → World → Prop, (∀ a' w', Stays w w' → wpS P md l Q (i :: σ) (listed.setIfInBounds j true) a' w' → K a' w') → if Region.wanted oj (yielded l.toArray a.tmps) then oj.wp P a w K Q else K (a.put oj.dst undef) w) :
    wpS P md l Q (i :: j :: σ) listed a w := by
  refine ⟨fun h0 => (by rw [hr] at h0; cases h0), fun k hk => ?_⟩
  rw [hr] at hk
  rcases List.mem_cons.1 hk with rfl | hk
  · exact wpOp_of hi (h1 (fun a' w' => (lastB md l.toArray k = true ∨ Stays w w') ∧ wpMov P md l.toArray Q (j :: σ).length (listed.setIfInBounds k true) a' w') (fun a' w' hS hs => ⟨.inr hS, hs⟩))
  · rw [List.mem_singleton] at hk
    subst hk
    exact wpOp_of hj (h2 (fun a' w' => (lastB md l.toArray k = true ∨ Stays w w') ∧ wpMov P md l.toArray Q (i :: σ).length (listed.setIfInBounds k true) a' w') (fun a' w' hS hs => ⟨.inr hS, hs⟩))
theorem wpS_done {l : List Oper} {listed : Array Bool} {a : Act} {w : World} (hr : Region.ready md l.toArray listed = []) (h : Q .normal a w) : wpS P md l Q [] listed a w := ⟨hr, h⟩
end
end Go.Proofs.Ytadffkfalclpjaa
