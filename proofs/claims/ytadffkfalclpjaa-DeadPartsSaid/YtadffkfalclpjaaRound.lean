/-
  A region that draws its order, in a round of a range over a function, is walked as it is everywhere, where nothing in it is deferred.
-/
import Derived.CallsIn
import Derived.OrdersIn
import Derived.RangeFuncCalls
import Derived.StillTail
import Derived.StillTactics
import Derived.TacticsIn
import Derived.StillTailTactics
namespace Go.Proofs.Ytadffkfalclpjaa
open Go
set_option maxRecDepth 100000

def noDefer (ops : List Oper) : Bool := ops.all fun o => match o.op with | .defer _ => false | _ => true
theorem noDefer_spec {ops : List Oper} (h : noDefer ops = true) {o : Oper} (ho : o ∈ ops) : ∀ c, o.op ≠ .defer c := by
  intro c e
  have := List.all_eq_true.1 h o ho
  rw [e] at this
  cases this

section
variable {P : Program} {Q : Exit → Act → World → Prop} {md : Region.Mode} {l m : Nat}

theorem rowsIn_of_rows {row : String} {args : Array Value} {w : World} {R : Value → World → Prop} (h : Rows P row args w R) : RowsIn (Fence.wide.inRound l) m P row args w R :=
  fun c cs _ => let ⟨v, w', r, s⟩ := h c cs; ⟨v, w', r, stepsIn_wide.2 s⟩

theorem uponIn_of_upon {o : Oper} {a : Act} {K K' : Act → World → Prop} (hK : ∀ a w, K a w → K' a w) {r : Result Next} (h : o.upon P a K Q r) : o.uponIn (Fence.wide.inRound l) m P a K' Q r := by
  cases r with
  | ok x w' =>
    cases x <;> simp only [Oper.upon, Oper.uponIn] at h ⊢
    case value => exact hK _ _ h
    case skip => exact hK _ _ h
    case defer => exact hK _ _ h
    case enter f args =>
      refine ⟨fun h => by simp [Fence.wide] at h, CallsIn.mono (CallsIn.inRound l (callsIn_wide.2 h)) fun e w'' he => ?_⟩
      cases e <;> first | exact hK _ _ he | exact he
    case row row args => exact ⟨fun h => by simp [Fence.wide] at h, (rowsIn_of_rows h).mono fun _ _ he => hK _ _ he⟩
  | halt x w' => cases x <;> simp only [Oper.upon, Oper.uponIn] at h ⊢ <;> exact h

theorem wpAnyIn_of_wpAny {ops : List Oper} (hnd : noDefer ops = true) (hlo : ¬ LetsOut Q) : ∀ (fuel : Nat) (listed : Array Bool) (a : Act) (w : World), wpAny P md ops.toArray Q fuel listed a w → wpAnyIn (Fence.wide.inRound l) m P md ops.toArray Q fuel listed a w
  | 0, _, _, _, h => h
  | fuel + 1, listed, a, w, h => by
    refine ⟨h.1, fun i hi => ?_⟩
    have hop := h.2 i hi
    have ih : ∀ a w, wpAny P md ops.toArray Q fuel (listed.setIfInBounds i true) a w → wpAnyIn (Fence.wide.inRound l) m P md ops.toArray Q fuel (listed.setIfInBounds i true) a w := fun a w => wpAnyIn_of_wpAny hnd hlo fuel _ a w
    unfold wpOp at hop
    unfold wpOpIn
    cases ho : ops.toArray[i]? with
    | none => rw [ho] at hop; exact ih _ _ hop
    | some o =>
      rw [ho] at hop
      have hmem : o ∈ ops := by
        rw [List.getElem?_toArray] at ho
        exact List.mem_of_getElem? ho
      simp only at hop ⊢
      split
      · rename_i hw
        rw [if_pos hw] at hop
        rcases hop with hop | ⟨_, hl⟩
        · refine ⟨fun _ _ => trivial, ?_⟩
          show Oper.uponIn _ _ _ _ _ _ _ (Sem.run P (o.semAt (some l) a.eval) w)
          rw [Oper.semAt_some l _ _ (noDefer_spec hnd hmem)]
          exact uponIn_of_upon ih hop
        · exact absurd hl hlo
      · rename_i hw
        rw [if_neg hw] at hop
        exact ⟨fun _ _ => trivial, ih _ _ hop⟩

/-- A region that draws its order, in a round: as everywhere, where nothing is deferred. -/
theorem region_round {ops : List Oper} {id : Nat} {a : Act} {w : World} (hm : P.follows .mixedOrders = true) (hnd : noDefer ops = true) (hlo : ¬ LetsOut Q)
    (h : wpAny P .any ops.toArray Q ops.length (Array.replicate ops.length false) a w.drew) : (Code.region id ops.toArray true).wpIn (Fence.wide.inRound l) m P Q a w :=
  wpIn_region_any hm (by simpa using wpAnyIn_of_wpAny (l := l) (m := m) hnd hlo _ _ _ _ h)

/-- Reads, and one write at the end: the reads in the text's order, then the write. -/
theorem region_round_tail {ops : List Oper} {id : Nat} {a : Act} {w : World} (n : Nat) (hm : P.follows .mixedOrders = true) (hnd : noDefer ops = true) (hlo : ¬ LetsOut Q) (hB : Region.lexTailB .any ops.toArray n = true)
    (h : wpStill P ops.toArray w.drew (fun a' => wpList P ops.toArray Q (ops.drop n) a' w.drew) (ops.take n) a) : (Code.region id ops.toArray true).wpIn (Fence.wide.inRound l) m P Q a w := by
  refine region_round hm hnd hlo ?_
  simp only [Region.lexTailB, Bool.and_eq_true, decide_eq_true_eq] at hB
  obtain ⟨⟨⟨⟨hsel, hn⟩, hs⟩, hc⟩, hlex⟩ := hB
  have hn' : n < ops.length := by simpa using hn
  have ht : (ops.take n).length = n := by simp; omega
  have hst : HeadInv .any ops.toArray n (Array.replicate ops.toArray.size false) :=
    ⟨by simp, fun j oj _ hl => (by rw [getD_replicate_false] at hl; cases hl), fun t _ ht => getD_in (by simpa using ht) (getD_replicate_false _ _)⟩
  have H := wpAnyL_lex (md := .any) (g := ops.toArray.size - n) hsel hs hc hn (ops.take n) 0 _ a (fun j hj => by rw [ht] at hj; simp [hj]) (by omega) hst (by rw [ht]; exact hlex) h
  have G := wpAny_of_head (Q' := Q) (g := ops.toArray.size - n) (fun listed a' hL => by
    have := wpAny_of_seq (md := .any) (Q' := Q) (ops.drop n) n listed a' w.drew (fun j => by simp) (by simpa using hL.1) hL.2
    simpa using this) _ _ _ H
  have e : (ops.take n).length + (ops.toArray.size - n) = ops.length := by simp; omega
  rw [e] at G
  simpa using G
end
end Go.Proofs.Ytadffkfalclpjaa
