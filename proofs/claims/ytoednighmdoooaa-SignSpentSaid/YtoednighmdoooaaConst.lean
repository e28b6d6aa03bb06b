/-
  Constants of bytes: what they read as in new memory; texts compared.
-/
import Derived.Test.YtoednighmdoooaaLists
import Derived.Lib.SlBytesConst
namespace Go.Proofs.Ytoednighmdoooaa
open Go.RowKit Go.Shelf
set_option maxRecDepth 100000

def tabc : List UInt8 := [97, 98, 99]
def tsix : List UInt8 := [97, 32, 115, 101, 101, 100, 32, 111, 102, 32, 115, 105, 120, 116, 101, 101]
theorem texts_same (s t : List UInt8) (h : s = t) : ((strOf s).toList == (strOf t).toList) = true := by subst h; simp
/-- A constant's bytes, in new memory that is marked. -/
theorem const_bytes (w : World) (s : List UInt8) (n : Nat) (hs : s.length = n) (hn : n ≤ 1000) : ∃ w2, (convert 22 22 (.slice (some ⟨w.heap.size, 0, none⟩) n n)).run Try.prog (w.alloc (.cells (ar s) 5)) = .ok (.slice (some ⟨w.heap.size, 0, none⟩) n n) w2 ∧
    Bsl w2 w2.heap.size (some ⟨w.heap.size, 0, none⟩) n n s ∧ Below w.heap.size w w2 := by
  refine ⟨_, Lib.run_convert_bytes_const (P := Try.prog) w 22 5 (ar s) n n Try.underlying22 Try.underlying5, ?_, (Below.refl _ w).alloc (Nat.le_refl _) _⟩
  have y2 := heap_alloc_new w (.cells (ar s) 5 ((ar s).size, (ar s).size + 1))
  exact bsl_of_holds hs (Nat.le_refl _) (by unfold maxLen; omega) (Array.getElem?_eq_some_iff.1 y2).1 fun i hi => by rw [cell_of_row _ _ _ _ _ _ y2, ar_get s i hi]
end Go.Proofs.Ytoednighmdoooaa
