/-
  ptr.put: the bytes of a pointer whose numbers have room, in a row of the call's own.
-/
import Derived.Test.YtadffkfalclpjaaPtCode
namespace Go.Proofs.Ytadffkfalclpjaa
open Go.RowKit Go.Shelf
set_option maxRecDepth 100000

theorem own_room0 (w : World) (n : Nat) (hn : n ≤ 1000000) : (w.alloc (.cells (Array.replicate n (.int .u8 0)) 5)).ownsRow w.heap.size 5 1 (.slice (some ⟨w.heap.size, 0, none⟩) 0 n) 0 (vals []) :=
  ⟨rfl, .inr ⟨w.heap.size, n, _, rfl, Nat.le_refl _, heap_alloc_new w _, Nat.zero_le _, by unfold maxLen; omega, by simp, rfl⟩⟩
/-- The bytes of the first numbers. -/
def putTo (p : Pt) : Nat → List UInt8
  | 0 => []
  | 1 => leB 1 p.1.toNat
  | 2 => leB 1 p.1.toNat ++ leB 3 p.2.1
  | 3 => leB 1 p.1.toNat ++ leB 3 p.2.1 ++ leB 4 p.2.2.1
  | 4 => leB 1 p.1.toNat ++ leB 3 p.2.1 ++ leB 4 p.2.2.1 ++ leB 4 p.2.2.2.1
  | _ => bytesP p
/-- How many bytes the first numbers have. -/
def stP : Nat → Nat
  | 0 => 0
  | 1 => 1
  | 2 => 4
  | 3 => 8
  | 4 => 12
  | _ => 16
end Go.Proofs.Ytadffkfalclpjaa
