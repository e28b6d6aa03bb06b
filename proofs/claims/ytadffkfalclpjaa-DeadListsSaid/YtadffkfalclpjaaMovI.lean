/-
  A region that draws its order, walked in one order of one's own, in worlds that keep a word of one's own: each operation keeps it; each that reads yields the same in every world that keeps it.
-/
import Derived.Test.YtadffkfalclpjaaMov
namespace Go.Proofs.Ytadffkfalclpjaa
open Go Go.RowKit
set_option maxRecDepth 100000

section
variable {P : Program} {ops : Array Oper} {Q : Exit → Act → World → Prop} {md : Region.Mode} {S : World → Prop}
/-- Whatever order is picked from here on, each operation keeps the word. -/
def wpMI (P : Program) (md : Region.Mode) (S : World → Prop) (ops : Array Oper) (Q : Exit → Act → World → Prop) : Nat → Array Bool → Act → World → Prop
  | 0, listed, a, w => Region.ready md ops listed = [] ∧ Q .normal a w
  | fuel + 1, listed, a, w =>
    (Region.ready md ops listed = [] → Q .normal a w) ∧
    ∀ i ∈ Region.ready md ops listed, wpOp P ops Q i (fun a' w' => S w' ∧ wpMI P md S ops Q fuel (listed.setIfInBounds i true) a' w') a w
theorem wpAny_of_mi : ∀ (fuel : Nat) (listed : Array Bool) (a : Act) (w : World), wpMI P md S ops Q fuel listed a w → wpAny P md ops Q fuel listed a w
  | 0, _, _, _, h => h
  | fuel + 1, _, _, _, h => ⟨h.1, fun i hi => wpOp_mono (fun a' w' h' => wpAny_of_mi fuel _ a' w' h'.2) (h.2 i hi)⟩
theorem wpMI_first {i : Nat} {oi : Oper} {v : Value} (hi : ops[i]? = some oi) (hsel : ∀ (j : Nat) (o : Oper) cs b, ops[j]? = some o → o.op ≠ .select cs b)
    (hQ : ∀ c a w, Q (.panic c) (a.put oi.dst v) w → Q (.panic c) a w) :
    ∀ (fuel : Nat) (listed : Array Bool) (a : Act) (w : World), S w →
      (∀ j oj, ops[j]? = some oj → j ≠ i → listed.getD j true = false → (∀ e ∈ oj.after, Region.binds md e = true → e.on ≠ i) → oi.apart ops oj = true) →
      i ∈ Region.ready md ops listed → YieldsIf P ops S oi v a →
      wpMI P md S ops Q fuel (listed.setIfInBounds i true) (a.put oi.dst v) w → wpMI P md S ops Q (fuel + 1) listed a w := by
  intro fuel
  induction fuel with
  | zero =>
    intro listed a w hS _ hr hy H
    refine ⟨fun h => (by rw [h] at hr; cases hr), fun j hj => ?_⟩
    by_cases hji : j = i
    · subst hji; exact hy.wpOp hi hS ⟨hS, H⟩
    · have := ready_mono hj hji
      rw [H.1] at this
      cases this
  | succ fuel ih =>
    intro listed a w hS hfree hr hy H
    refine ⟨fun h => (by rw [h] at hr; cases hr), fun j hj => ?_⟩
    by_cases hji : j = i
    · subst hji; exact hy.wpOp hi hS ⟨hS, H⟩
    · have g1 := H.2 j (ready_mono hj hji)
      obtain ⟨hjun, oj, hoj, hall⟩ := mem_ready.1 hj
      have hnot : ∀ e ∈ oj.after, Region.binds md e = true → e.on ≠ i := by
        intro e he hb heq
        have t1 := hall e he hb
        have t0 := (mem_ready.1 hr).1
        rw [heq] at t1
        rcases Nat.lt_or_ge i listed.size with h' | h'
        · simp [h'] at t0 t1; rw [t0] at t1; cases t1
        · simp [Array.getElem?_eq_none h'] at t1
      have g2 := wpOp_putIf hoj (hfree j oj hoj hji hjun hnot) (fun cs b => hsel i oi cs b hi) (fun cs b => hsel j oj cs b hoj) hQ hy g1
      refine wpOp_mono (fun a' w' g3 => ⟨g3.2.1, ih (listed.setIfInBounds j true) a' w' g3.2.1 ?_ (ready_mono hr (Ne.symm hji)) g3.1 ?_⟩) g2
      · intro k ok hk hki hun hno
        refine hfree k ok hk hki ?_ hno
        by_cases hjk : j = k
        · subst hjk; exact hjun
        · rw [getD_set_ne true hjk] at hun; exact hun
      · rw [Array.setIfInBounds_comm _ _ hji]
        exact g3.2.2
/-- In the order σ. -/
def wpI (P : Program) (md : Region.Mode) (S : World → Prop) (ops : List Oper) (Q : Exit → Act → World → Prop) (σ : List Nat) (listed : Array Bool) (a : Act) (w : World) : Prop := wpMI P md S ops.toArray Q σ.length listed a w
theorem wpI_start {l : List Oper} {id : Nat} {a : Act} {w w1 : World} (S : World → Prop) (σ : List Nat) (hm : P.follows .mixedOrders = true) (hl : σ.length = l.length) (hw : w.drew = w1)
    (h : wpI P .any S l Q σ (Array.replicate l.length false) a w1) : (Code.region id l.toArray true).wp P Q a w := by
  subst hw
  refine wp_region_any hm (wpAny_of_mi _ _ _ _ (S := S) ?_)
  unfold wpI at h
  rw [hl] at h
  simpa using h
theorem wpI_read {l : List Oper} {i : Nat} {σ : List Nat} {oi : Oper} {v : Value} {listed : Array Bool} {a : Act} {w : World} (hS : S w) (hi : nthOp l i = some oi)
    (hs : Region.noSelect l.toArray = true) (hf : Region.free md l.toArray listed i = true) (hr : (Region.ready md l.toArray listed).contains i = true)
    (hQ : ∀ c a w, Q (.panic c) (a.put oi.dst v) w → Q (.panic c) a w) (hy : YieldsIf P l.toArray S oi v a)
    (h : wpI P md S l Q σ (listed.setIfInBounds i true) (a.put oi.dst v) w) : wpI P md S l Q (i :: σ) listed a w :=
  wpMI_first (by rw [← nthOp_eq]; exact hi) (Region.noSelect_spec hs) hQ σ.length listed a w hS (Region.free_spec (by rw [← nthOp_eq]; exact hi) hf) (by simpa using hr) hy h
theorem wpI_lone {l : List Oper} {i : Nat} {σ : List Nat} {o : Oper} {listed : Array Bool} {a : Act} {w : World} (hi : nthOp l i = some o) (hr : Region.ready md l.toArray listed = [i])
    (h : ∀ K : Act → World → Prop, (∀ a' w', S w' → wpI P md S l Q σ (listed.setIfInBounds i true) a' w' → K a' w') → if Region.wanted o (yielded l.toArray a.tmps) then o.wp P a w K Q else K (a.put o.dst undef) w) :
    wpI P md S l Q (i :: σ) listed a w := by
  refine ⟨fun h0 => (by rw [hr] at h0; cases h0), fun j hj => ?_⟩
  rw [hr, List.mem_singleton] at hj
  subst hj
  exact wpOp_of hi (h (fun a' w' => S w' ∧ wpMI P md S l.toArray Q σ.length (listed.setIfInBounds j true) a' w') (fun a' w' hS hs => ⟨hS, hs⟩))
/-- Two operations stand side by side: both ways. -/
theorem wpI_fork {l : List Oper} {i j : Nat} {σ : List Nat} {oi oj : Oper} {listed : Array Bool} {a : Act} {w : World} (hi : nthOp l i = some oi) (hj : nthOp l j = some oj) (hr : Region.ready md l.toArray listed = [i, j])
    (h1 : ∀ K : Act → World → Prop, (∀ a' w', S w' → wpI P md S l Q (j :: σ) (listed.setIfInBounds i true) a' w' → K a' w') → if Region.wanted oi (yielded l.toArray a.tmps) then oi.wp P a w K Q else K (a.put oi.dst undef) w)
    (h2 : ∀ K : Act → World → Prop, (∀ a' w', S w' → wpI P md S l Q (i :: σ) (listed.setIfInBounds j true) a' w' → K a' w') → if Region.wanted oj (yielded l.toArray a.tmps) then oj.wp P a w K Q else K (a.put oj.dst undef) w) :
    wpI P md S l Q (i :: j :: σ) listed a w := by
  refine ⟨fun h0 => (by rw [hr] at h0; cases h0), fun k hk => ?_⟩
  rw [hr] at hk
  rcases List.mem_cons.1 hk with rfl | hk
  · exact wpOp_of hi (h1 (fun a' w' => S w' ∧ wpMI P md S l.toArray Q (j :: σ).length (listed.setIfInBounds k true) a' w') (fun a' w' hS hs => ⟨hS, hs⟩))
  · rw [List.mem_singleton] at hk
    subst hk
    exact wpOp_of hj (h2 (fun a' w' => S w' ∧ wpMI P md S l.toArray Q (i :: σ).length (listed.setIfInBounds k true) a' w') (fun a' w' hS hs => ⟨hS, hs⟩))
/-- In another order as long. -/
theorem wpI_turn {l : List Oper} {σ : List Nat} {listed : Array Bool} {a : Act} {w : World} (τ : List Nat) (hl : τ.length = σ.length) (h : wpI P md S l Q τ listed a w) : wpI P md S l Q σ listed a w := by
  unfold wpI at h ⊢
  rw [← hl]
  exact h
theorem wpI_done {l : List Oper} {listed : Array Bool} {a : Act} {w : World} (hr : Region.ready md l.toArray listed = []) (h : Q .normal a w) : wpI P md S l Q [] listed a w := ⟨hr, h⟩
end
end Go.Proofs.Ytadffkfalclpjaa
