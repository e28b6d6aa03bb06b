/-
  A range over a function that has no end of its own: it goes on until the body leaves it. What the iterator tells of each value and of the world is handed to the body; a bound on the rounds comes from the caller.
-/
import Derived.RangeFuncNested
import Derived.Test.YtoednighmdoooaaFence
import Derived.Test.YtoednighmdoooaaMov
namespace Go.Proofs.Ytoednighmdoooaa
open Go Go.RowKit
set_option maxRecDepth 100000

/-- Cells at or behind block B stay. -/
def CellsFrom (B : Nat) (W W' : World) : Prop := W.heap.size ≤ W'.heap.size ∧ ∀ p v, B ≤ p.block → W.cell? p = some v → W'.cell? p = some v
/-- All that lies at or behind block B stays. -/
def AllFrom (B : Nat) (W W' : World) : Prop := W.heap.size ≤ W'.heap.size ∧ ∀ k o, B ≤ k → W.heap[k]? = some o → W'.heap[k]? = some o
theorem CellsFrom.trans {B : Nat} {a b c : World} (h : CellsFrom B a b) (k : CellsFrom B b c) : CellsFrom B a c := ⟨Nat.le_trans h.1 k.1, fun p v hp hv => k.2 p v hp (h.2 p v hp hv)⟩
theorem AllFrom.cells {B : Nat} {a b : World} (h : AllFrom B a b) : CellsFrom B a b := ⟨h.1, fun p v hp hv => by
  obtain ⟨o, ho, _⟩ := cells_of_cell hv
  have := h.2 _ o hp ho
  exact (World.cell?_of_block (this.trans ho.symm)).trans hv⟩
theorem cellsFrom_putObj {B : Nat} {W : World} {l : Nat} {o : Obj} (o' : Obj) (h : W.heap[l]? = some o) (ho : o.isCells = false) : CellsFrom B W (W.putObj l o') :=
  ⟨by simp, fun _ _ _ hv => cell_kept hv (grownBy_putObj' W l o') (fun r e => by cases e; exact ⟨o, h, ho⟩)⟩
theorem below_putObj {B : Nat} {W : World} {l : Nat} (o : Obj) (h : B ≤ l) : Below B W (W.putObj l o) :=
  ⟨rfl, rfl, rfl, by simp, fun k hk => World.putObj_heap_other (by omega)⟩

/-- How the body of round k may end. -/
def roundEnd (B : Nat) (I : Nat → World → Prop) (Ix : Code → World → Prop) (k : Nat) (W : World) : Exit → Act → World → Prop
  | .normal, _, W' => AllFrom B W W' ∧ I (k + 1) W'
  | .exit id, _, W' => AllFrom B W W' ∧ Ix (.exit id) W'
  | .ret, _, W' => AllFrom B W W' ∧ Ix .ret W'
  | _, _, _ => False

/-- What an endless iterator that tells T does with whatever loop. -/
def Endless {α : Type} (P : Program) (m B N : Nat) (gf : Nat) (lb : Array Value) (encs : α → Array Value) (T : Nat → α → World → Prop) (w : World) : Prop :=
  ∀ (l : Nat) (J : Nat → World → Prop) (Jx : World → Prop) (W : World), Below w.heap.size w W → (∀ k A A', J k A → Below W.heap.size A A' → J k A') → (∀ k A, J k A → k < N) →
    (∀ k x W1, J k W1 → T k x W1 → YieldAt Fence.wide (m - 1) P l (encs x) W1 fun e W' => (e = .returned (.bool true) ∧ J (k + 1) W' ∧ CellsFrom B W1 W') ∨ (e = .returned (.bool false) ∧ Jx W')) →
    J 0 W → CallsIn Fence.wide m P gf (#[.func (.yield l) #[] #[]] ++ lb) W fun e W' => (∃ v, e = .returned v) ∧ Jx W'

theorem range_endless {P : Program} {m : Nat} {α : Type} {g : Operand} {ps : Array Tmp} {assign body : Code} {Q : Exit → Act → World → Prop} {a : Act} {w : World}
    {gf : Nat} {lb : Array Value} (hg : a.eval g = .func (.func gf) #[] lb) (eg : ∀ args w, (callFunc gf args).run P w = .ok (.enter gf args) w)
    (encs : α → Array Value) (hps : ∀ x, (encs x).size = ps.size) (T : Nat → α → World → Prop) (hT : ∀ k x A l r o', T k x A → A.heap[l]? = some (.loop r) → T k x (A.putObj l o'))
    (N : Nat) (I : Nat → World → Prop) (Ix : Code → World → Prop) (hI : ∀ k A A', I k A → Below w.heap.size A A' → I k A') (hIx : ∀ c A A', Ix c A → Below w.heap.size A A' → Ix c A')
    (hN : ∀ k A, I k A → k < N) (h0 : I 0 w) (hseq : Endless P (m - 1) w.heap.size N gf lb encs T w) (a₁ : α → Act)
    (hassign : ∀ (l : Nat) (x : α) (W : World) (K : Act → World → Prop), K (a₁ x) W →
      assign.wpIn (Fence.wide.inRound l) (m - 1 - 1) P (Exit.then K (fun _ _ _ => False)) { tmps := (ps.zip (encs x)).foldl (fun t (p, v) => t.setIfInBounds p v) a.tmps, defers := [] } W)
    (hbody : ∀ (l k : Nat) (x : α) (W : World), I k W → T k x W → body.wpIn (Fence.wide.inRound l) (m - 1 - 1) P (roundEnd w.heap.size I Ix k W) (a₁ x) W)
    (hstop : ∀ (D : Nat) (c : Code) (W : World), w.heap.size ≤ D → Ix c W → W.heap[D]? = some (.deferred (some [])) → c.wpIn Fence.wide m P Q { a with defers := { target := .collected D, args := #[] } :: a.defers } W) :
    (Code.rangeFunc g ps assign body).wpIn Fence.wide m P Q a w := by
  refine wpIn_rangeFunc fun fn hfn => ?_
  obtain ⟨rc, hrc⟩ : ∃ rc : LoopState → Option Code → Loop, rc = fun st pe => { state := st, pending := pe, fn, tmps := a.tmps, params := ps, assign, body, defers := w.heap.size } := ⟨_, rfl⟩
  have hin := run_enterLoop_outer (P := P) (w := w) fn a.tmps ps assign body
  rw [show ({ state := .ready, pending := none, fn, tmps := a.tmps, params := ps, assign, body, defers := w.heap.size } : Loop) = rc .ready none by rw [hrc]] at hin
  obtain ⟨W1, hW1⟩ : ∃ W1, (w.alloc (.deferred (some []))).alloc (.loop (rc .ready none)) = W1 := ⟨_, rfl⟩
  have hL : W1.heap[w.heap.size + 1]? = some (.loop (rc .ready none)) := by
    have := World.alloc_heap_new (w.alloc (.deferred (some []))) (.loop (rc .ready none))
    rwa [World.size_alloc, hW1] at this
  have hD : W1.heap[w.heap.size]? = some (.deferred (some [])) := by
    rw [← hW1]; exact (Below.heap_alloc _ _ _ (by simp)).trans (World.alloc_heap_new w _)
  have hz : W1.heap.size = w.heap.size + 2 := by rw [← hW1]; simp
  have hb : Below w.heap.size w W1 := by rw [← hW1]; exact ((Below.refl _ w).alloc (Nat.le_refl _) _).alloc (by simp) _
  refine ⟨w.heap.size + 1, _, W1, { target := .fn (.func gf) lb, args := #[.func (.yield (w.heap.size + 1)) #[] #[]] }, W1, gf, #[.func (.yield (w.heap.size + 1)) #[] #[]] ++ lb, W1, hW1 ▸ hin, ?_, fun _ _ => trivial, ?_, fun h => (by simp [Fence.wide] at h), ?_⟩
  · simp only [resolve, hg]
    simp [go_sem]
  · simp [invoke, go_sem, eg]
  -- what the law keeps beside the caller's own word: its record, and the block for the rounds' deferred calls
  have keep : ∀ {A A' : World} {j : Nat} {o : Obj}, Below W1.heap.size A A' → j < w.heap.size + 2 → A.heap[j]? = some o → A'.heap[j]? = some o := fun h hj ho => (h.block _ (by omega)).trans ho
  refine (hseq (w.heap.size + 1) (fun k W => I k W ∧ W.heap[w.heap.size + 1]? = some (.loop (rc .ready none)) ∧ W.heap[w.heap.size]? = some (.deferred (some [])))
    (fun W => ∃ c, Ix c W ∧ W.heap[w.heap.size + 1]? = some (.loop (rc .done (some c))) ∧ W.heap[w.heap.size]? = some (.deferred (some []))) W1 hb
    (fun k A A' h hA => ⟨hI k A A' h.1 (hA.mono (by omega)), keep hA (by omega) h.2.1, keep hA (by omega) h.2.2⟩) (fun k A h => hN k A h.1) ?_ ⟨hI 0 _ _ h0 hb, hL, hD⟩).mono ?_
  · rintro k x W ⟨hi, hl, hd⟩ ht
    have hlt : w.heap.size + 1 < W.heap.size := (Array.getElem?_eq_some_iff.1 hl).1
    have hy := run_yield (P := P) (args := encs x) hl (by rw [hrc]; exact hps x)
    rw [hrc] at hy
    refine ⟨fn, _, assign, body, hy, roundIn_of_wpIn hfn (hassign _ x W _ ⟨_, run_beginRound hl (by rw [hrc]), ?_⟩)⟩
    obtain ⟨W2, hW2⟩ : ∃ W2, W.putObj (w.heap.size + 1) (.loop { rc .ready none with state := .busy }) = W2 := ⟨_, rfl⟩
    have hl2 : W2.heap[w.heap.size + 1]? = some (.loop { rc .ready none with state := .busy }) := hW2 ▸ World.putObj_heap_same hlt
    have hd2 : W2.heap[w.heap.size]? = some (.deferred (some [])) := hW2 ▸ (World.putObj_heap_other (by omega)).trans hd
    have hc2 : CellsFrom w.heap.size W W2 := hW2 ▸ cellsFrom_putObj _ hl rfl
    have hi2 : I k W2 := hI k W _ hi (hW2 ▸ below_putObj _ (by omega))
    have ht2 : T k x W2 := hW2 ▸ hT k x W _ _ _ ht hl
    rw [hW2]
    clear hW2 hy
    -- the record behind the round, by the way in which it ended
    have fin : ∀ (jump : Option Code) (W3 : World), AllFrom w.heap.size W2 W3 → ∃ W4, (Instr.endRound (w.heap.size + 1) jump).run P W3 = .ok (.bool jump.isNone) W4 ∧
        W4.heap[w.heap.size + 1]? = some (.loop (rc (if jump.isNone then .ready else .done) jump)) ∧ W4.heap[w.heap.size]? = some (.deferred (some [])) ∧ CellsFrom w.heap.size W W4 ∧ Below w.heap.size W3 W4 := fun jump W3 h3 => by
      have hl3 := h3.2 _ _ (by omega) hl2
      have hd3 := h3.2 _ _ (Nat.le_refl _) hd2
      have hr := run_endRound (P := P) jump hl3
      rw [hrc] at hr ⊢
      exact ⟨_, hr, World.putObj_heap_same (Array.getElem?_eq_some_iff.1 hl3).1, (World.putObj_heap_other (by omega)).trans hd3, (hc2.trans h3.cells).trans (cellsFrom_putObj _ hl3 rfl), below_putObj _ (by omega)⟩
    refine wpIn_mono (hbody _ k x W2 hi2 ht2) ?_
    rintro e a3 W3 hp
    cases e with
    | normal =>
      obtain ⟨h3, hi3⟩ := hp
      obtain ⟨W4, hr, hl4, hd4, hc4, hb4⟩ := fin none W3 h3
      exact ⟨_, _, hr, .inl ⟨rfl, ⟨hI _ _ _ hi3 hb4, hl4, hd4⟩, hc4⟩⟩
    | exit id =>
      obtain ⟨h3, hi3⟩ := hp
      obtain ⟨W4, hr, hl4, hd4, hc4, hb4⟩ := fin (some (.exit id)) W3 h3
      exact ⟨_, _, hr, .inr ⟨rfl, _, hIx _ _ _ hi3 hb4, hl4, hd4⟩⟩
    | ret =>
      obtain ⟨h3, hi3⟩ := hp
      obtain ⟨W4, hr, hl4, hd4, hc4, hb4⟩ := fin (some .ret) W3 h3
      exact ⟨_, _, hr, .inr ⟨rfl, _, hIx _ _ _ hi3 hb4, hl4, hd4⟩⟩
    | goto t => exact hp.elim
    | panic ch => exact hp.elim
    | outgrown => exact hp.elim
  · rintro e W2 ⟨⟨v, rfl⟩, c, hix, hl, hd⟩
    have hr := run_endLoop (P := P) hl (by rw [hrc]; simp)
    rw [hrc] at hr
    exact ⟨some c, _, hr, hstop _ c _ (Nat.le_refl _) (hIx _ _ _ hix (below_putObj _ (by omega))) ((World.putObj_heap_other (by omega)).trans hd)⟩

/-- A region that draws its order, at the wide fence, in an order of one's own. -/
theorem wpS_wide {P : Program} {Q : Exit → Act → World → Prop} {m : Nat} {l : List Oper} {id : Nat} {a : Act} {w w1 : World} (σ : List Nat) (hm : P.follows .mixedOrders = true) (hnd : noDefer l = true) (hlo : ¬ LetsOut Q) (hl : σ.length = l.length) (hw : w.drew = w1)
    (h : wpS P .any l Q σ (Array.replicate l.length false) a w1) : (Code.region id l.toArray true).wpIn Fence.wide m P Q a w := by
  subst hw
  refine region_wide hm hnd hlo (wpAny_of_mov _ _ _ _ ?_)
  unfold wpS at h
  rw [hl] at h
  simpa using h
end Go.Proofs.Ytoednighmdoooaa
