/-
  What serves walks over appends in a law's own body: an empty list of one's own; what is read goes on being read.
-/
import Derived.Test.YtmlmgnifgcbehaaMac
namespace Go.Proofs.Ytmlmgnifgcbehaa
open Go.RowKit Go.Shelf
set_option maxRecDepth 100000

/-- An append to a slice of the call's own writes nothing below the call. -/
theorem app_below {base n : Nat} {e : TypeId} {size : Nat} {v : Value} {xs : List Value} {w W W' : World} (hb : Below base w W) (ho : W.ownsRow base e size v n xs) (hg : W.grownBy W' v.ownBlock) (hs : base ≤ W.heap.size) : Below base w W' :=
  hb.grown hg hs (fun _ h => (ho.lt _ h).1)
theorem own_nil (w : World) (B : Nat) : w.ownsRow B 5 1 (.slice none 0 0) 0 (vals []) := World.ownsRow_nil _ _ _ _
theorem own_empty (w : World) : (w.alloc (.cells #[] 5)).ownsRow w.heap.size 5 1 (.slice (some ⟨w.heap.size, 0, none⟩) 0 0) 0 (vals []) :=
  ⟨rfl, .inr ⟨w.heap.size, 0, #[], rfl, Nat.le_refl _, heap_alloc_new w _, Nat.le_refl _, by unfold maxLen; omega, rfl, rfl⟩⟩
/-- Behind a new byte: the byte's own slice. -/
theorem one_bsl (w : World) (x : UInt8) : Bsl (w.alloc (.cells #[.int .u8 (x.toNat : Int)] 5)) (w.alloc (.cells #[.int .u8 (x.toNat : Int)] 5)).heap.size (some ⟨w.heap.size, 0, none⟩) 1 1 [x] :=
  bsl_one _ _ x (Blk.new w _ _) (by simp)
theorem Bsl.step {w w' : World} {a : Option Addr} {len cap : Nat} {s : List UInt8} (h : Bsl w w.heap.size a len cap s) (hb : Below w.heap.size w w') : Bsl w' w'.heap.size a len cap s := (h.below hb).more hb.size
end Go.Proofs.Ytmlmgnifgcbehaa
