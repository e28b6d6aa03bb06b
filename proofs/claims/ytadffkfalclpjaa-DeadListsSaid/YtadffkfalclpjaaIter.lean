/-
  slices.Backward over a slice of bytes hands its places and bytes to the loop from behind, whatever the loop does that keeps the slice readable; code.isSize and code.fits answer as the chapter asks.
-/
import Derived.RangeFuncBox
import Derived.RangeFuncLeaves
import Derived.RangeFuncNested
import Derived.RangeFuncBound
import Derived.RangeFuncCalls
import Derived.Shelf.Abstract
import Derived.Shelf.RegionOpen
import Derived.WalkKit
import Derived.OwnWalkIn
import Derived.TacticsInMore
import Derived.LoopNIn
import Derived.LoopIn
import Derived.Outline
import Derived.Lib.Hide
import Derived.Test.YtadffkfalclpjaaProg
namespace Go.Proofs.Ytadffkfalclpjaa
open Go.RowKit Go.Shelf
set_option maxRecDepth 100000
attribute [local go_sem] Oper.semAt_some

/-- What the walk backward goes on reading: the box of the slice, and a number in each cell of it, of which V tells. -/
def Reach (Bs b off len cap : Nat) (V : Nat → UInt8 → Prop) (W : World) : Prop :=
  W.cell? ⟨Bs, 0, none⟩ = some (.slice (some ⟨b, off, none⟩) len cap) ∧ ∀ j, j < len → ∃ v : UInt8, W.cell? ⟨b, off + j, none⟩ = some (.int .u8 (v.toNat : Int)) ∧ V j v

/-- What has come when k rounds are over is so: the places from behind, and V of each. -/
def Came (len : Nat) (V : Nat → UInt8 → Prop) (pre : List (Fin len × UInt8)) : Prop :=
  pre.length ≤ len ∧ ∀ i (h : i < pre.length), (pre[i]).1.val = len - 1 - i ∧ V (pre[i]).1.val (pre[i]).2
theorem came_nil (len V) : Came len V [] := ⟨Nat.zero_le _, fun i h => by simp at h⟩
theorem came_snoc {len V pre} (h : Came len V pre) {j : Nat} (hl : j < len) {v : UInt8} (hj : j + pre.length + 1 = len) (hv : V j v) : Came len V (pre ++ [(⟨j, hl⟩, v)]) := by
  refine ⟨by simp; omega, fun i hi => ?_⟩
  by_cases hlt : i < pre.length
  · rw [List.getElem_append_left hlt]; exact h.2 i hlt
  · have : i = pre.length := by simp at hi; omega
    subst this
    simp only [List.getElem_append_right (Nat.le_refl _), Nat.sub_self, List.getElem_cons_zero]
    exact ⟨by omega, hv⟩

theorem reach_putObj {Bs b off len cap : Nat} {V : Nat → UInt8 → Prop} {W : World} (l : Nat) (o o' : Obj) (h : W.heap[l]? = some o) (ho : o.isCells = false) (hR : Reach Bs b off len cap V W) : Reach Bs b off len cap V (W.putObj l o') := by
  have hk : ∀ r, some l = some r → ∃ o : Obj, W.heap[r]? = some o ∧ o.isCells = false := fun r e => by cases e; exact ⟨_, h, ho⟩
  exact ⟨cell_kept hR.1 (grownBy_putObj' W l o') hk, fun j hj => let ⟨v, hv, hV⟩ := hR.2 j hj; ⟨v, cell_kept hv (grownBy_putObj' W l o') hk, hV⟩⟩

end Go.Proofs.Ytadffkfalclpjaa
