/-
  slices.Chunk of a slice of bytes by sixteens, of a length that sixteens make up, hands the loop its windows in their order.
-/
import Derived.Test.YtadffkfalclpjaaByt
import Derived.Test.YtadffkfalclpjaaFence
import Derived.Test.YtadffkfalclpjaaCopy
namespace Go.Proofs.Ytadffkfalclpjaa
open Go.RowKit Go.Shelf
set_option maxRecDepth 100000
attribute [local go_sem] Oper.semAt_some

/-- What the walk goes on reading: the box of the slice, and that of the size. -/
def ReachD (Bs Bn : Nat) (A : Option Addr) (q cap : Nat) (W : World) : Prop :=
  W.cell? ⟨Bs, 0, none⟩ = some (.slice A (16 * q) cap) ∧ W.cell? ⟨Bn, 0, none⟩ = some (.int .i64 16)

/-- The window of number x. -/
@[reducible] def win16 (b off : Nat) (x : Nat) : Array Value := #[.slice (some ⟨b, off + 16 * x, none⟩) 16 16]

theorem reachD_putObj {Bs Bn : Nat} {A : Option Addr} {q cap : Nat} {W : World} (l : Nat) (o o' : Obj) (h : W.heap[l]? = some o) (ho : o.isCells = false) (hR : ReachD Bs Bn A q cap W) : ReachD Bs Bn A q cap (W.putObj l o') := by
  have hk : ∀ r, some l = some r → ∃ o : Obj, W.heap[r]? = some o ∧ o.isCells = false := fun r e => by cases e; exact ⟨_, h, ho⟩
  exact ⟨cell_kept hR.1 (grownBy_putObj' W l o') hk, cell_kept hR.2 (grownBy_putObj' W l o') hk⟩

end Go.Proofs.Ytadffkfalclpjaa
