/-
  Words for a map[int]int that the call made: what it holds, as a function; a lookup, a store.
-/
import Derived.Maps.OwnSet
import Derived.Maps.Views
import Derived.Carry
import Derived.Test.YtgpojnhhcobcbaaMem
namespace Go.Proofs.Ytgpojnhhcobcbaa
open Go.RowKit Go.Shelf Go.Maps Go.WideShapes
set_option maxRecDepth 100000

theorem lawInt : Keyed Try.prog 3 := int_keyed Try.underlying3
theorem zeroInt (w : World) : (zeroValue 3).run Try.prog w = .ok (.int .i64 0) w := by kernel_rfl
/-- Block g is a map of at most n entries that holds just what f tells. -/
def MapI (w : World) (g n : Nat) (f : Int → Option Nat) : Prop :=
  ∃ D : DataW Unit, w.ownsMap Try.prog 3 (plainElem Try.prog 3) g n D ∧ IsMap D ∧ ∀ p : Int, (Lit.int .i64 p).wf = true → has D (.int .i64 p) = (f p).isSome ∧ ∀ i, f p = some i → D.atKey (.int .i64 p) (.lit (.int .i64 0)) = .lit (.int .i64 (i : Nat))
section
variable {w w' : World} {g n : Nat} {f : Int → Option Nat}
theorem MapI.lt (h : MapI w g n f) : g < w.heap.size := by obtain ⟨D, h1, _⟩ := h; exact h1.lt
theorem MapI.kept {row : Option Nat} (h : MapI w g n f) (hg : w.grownBy w' row) (hne : some g ≠ row) : MapI w' g n f := by
  obtain ⟨D, h1, h2⟩ := h
  exact ⟨D, h1.kept hg hne, h2⟩
theorem MapI.below {B : Nat} (h : MapI w g n f) (hb : Below B w w') (hg : g < B) : MapI w' g n f := by
  obtain ⟨D, ⟨es, clock, h1, h3⟩, h2⟩ := h
  exact ⟨D, ⟨es, clock, (hb.block g hg).trans h1, h3⟩, h2⟩
theorem mapI_made (w : World) : MapI (w.alloc (.map #[] 0)) w.heap.size 0 (fun _ => none) :=
  ⟨.map [], World.ownsMap_made _ _ _ _, isMap_empty, fun p _ => ⟨rfl, fun i h => by cases h⟩⟩
theorem MapI.congr {f' : Int → Option Nat} (h : MapI w g n f) (e : ∀ p, f p = f' p) : MapI w g n f' := by
  obtain rfl : f = f' := funext e
  exact h
end
section
variable {w : World} {ops : Array Oper} {rest : List Oper} {o : Oper} {a : Act} {Q : Exit → Act → World → Prop}
/-- m[p] = i. -/
theorem wpList_mapI_put (hg : o.guard = none) (m x v : Operand) (hop : o.op = Op.mapUpdate 66 m x v) (g n : Nat) (f : Int → Option Nat) (hm : a.eval m = .map (some g)) (hown : MapI w g n f) (hn : n < maxLen)
    (p : Int) (i : Nat) (hp : (Lit.int .i64 p).wf = true) (hi : (i : Int) ≤ 9223372036854775807) (hx : a.eval x = .int .i64 p) (hv : a.eval v = .int .i64 (i : Nat))
    (hK : ∀ w', MapI w' g (n + 1) (fun q => if q = p then some i else f q) → w.grownBy w' (some g) → wpList Try.prog ops Q rest (a.put o.dst undef) w') : wpList Try.prog ops Q (o :: rest) a w := by
  obtain ⟨D, h1, h2, h3⟩ := hown
  have hwi : (Lit.int .i64 (i : Nat)).wf = true := by simp [Lit.wf, IntKind.min, IntKind.max, IntKind.signed, IntKind.bits]; omega
  refine wpList_mapUpdate_own w hg m x v 66 hop 3 3 lawInt Try.underlying66 _ g n D hm h1 hn (.int .i64 p) (.int .i64 (i : Nat)) (.int .i64 p) hx hv (keyOf_int_mk Try.underlying3 hp) (.lit (.int .i64 (i : Nat))) [] (plainElem_int Try.underlying3 hwi) ?_
  intro w' hw' hgr
  refine hK w' ⟨_, hw', h2.put _ _, fun q hq => ?_⟩ hgr
  by_cases e : q = p
  · subst e
    have ef : (fun r => if r = q then some i else f r) q = some i := if_pos rfl
    have hk : WideAt.IsKeyLit (.int .i64 q) := by unfold WideAt.IsKeyLit; exact trivial
    rw [ef]
    refine ⟨has_put_same h2 hk _, fun j hj => ?_⟩
    cases hj
    exact atKey_put_same h2 hk _ _
  · have hne : (Lit.int .i64 q) ≠ (Lit.int .i64 p) := fun h => e (by injection h)
    have ef : (fun r => if r = p then some i else f r) q = f q := if_neg e
    obtain ⟨h4, h5⟩ := h3 q hq
    rw [ef]
    refine ⟨by rw [has_put_other hne, h4], fun j hj => ?_⟩
    rw [atKey_put_other hne]
    exact h5 j hj
/-- i, ok := m[p]. -/
theorem wpList_mapI_get (hg : o.guard = none) (m x : Operand) (hop : o.op = Op.lookup 66 m x true) (g n : Nat) (f : Int → Option Nat) (hm : a.eval m = .map (some g)) (hown : MapI w g n f)
    (p : Int) (hp : (Lit.int .i64 p).wf = true) (hx : a.eval x = .int .i64 p)
    (hK : ∀ c : Int, (∀ i, f p = some i → c = (i : Nat)) → wpList Try.prog ops Q rest (a.put o.dst (.tuple #[.int .i64 c, .bool (f p).isSome])) w) : wpList Try.prog ops Q (o :: rest) a w := by
  obtain ⟨D, h1, h2, h3⟩ := hown
  refine wpList_lookup_own_ok_int w hg m x 66 hop 3 3 .i64 lawInt Try.underlying66 Try.underlying3 (zeroInt w) g n D hm h1 (.int .i64 p) (.int .i64 p) hx (keyOf_int_mk Try.underlying3 hp) ?_
  intro c hat hwc
  obtain ⟨h4, h5⟩ := h3 p hp
  rw [h4]
  refine hK c fun i hi => ?_
  rw [h5 i hi] at hat
  injection hat with hat
  injection hat with _ hat
  exact hat.symm
theorem wpList_mapI_some (hg : o.guard = none) (m x : Operand) (hop : o.op = Op.lookup 66 m x true) (g n : Nat) (f : Int → Option Nat) (hm : a.eval m = .map (some g)) (hown : MapI w g n f)
    (p : Int) (hp : (Lit.int .i64 p).wf = true) (hx : a.eval x = .int .i64 p) (i : Nat) (hf : f p = some i)
    (hK : wpList Try.prog ops Q rest (a.put o.dst (.tuple #[.int .i64 (i : Nat), .bool true])) w) : wpList Try.prog ops Q (o :: rest) a w :=
  wpList_mapI_get hg m x hop g n f hm hown p hp hx fun c hc => by
    rw [hf, hc i hf]
    exact hK
theorem wpList_mapI_none (hg : o.guard = none) (m x : Operand) (hop : o.op = Op.lookup 66 m x true) (g n : Nat) (f : Int → Option Nat) (hm : a.eval m = .map (some g)) (hown : MapI w g n f)
    (p : Int) (hp : (Lit.int .i64 p).wf = true) (hx : a.eval x = .int .i64 p) (hf : f p = none)
    (hK : ∀ c : Int, wpList Try.prog ops Q rest (a.put o.dst (.tuple #[.int .i64 c, .bool false])) w) : wpList Try.prog ops Q (o :: rest) a w :=
  wpList_mapI_get hg m x hop g n f hm hown p hp hx fun c _ => by
    rw [hf]
    exact hK c
end
end Go.Proofs.Ytgpojnhhcobcbaa
