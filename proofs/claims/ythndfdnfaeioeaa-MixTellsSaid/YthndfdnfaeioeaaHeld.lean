/-
  What is held of the world while a region draws its order: a block of four words, and that nothing below the call has turned.
-/
import Derived.Test.YthndfdnfaeioeaaArr
import Derived.Deep.RegionHeld3
namespace Go.Proofs.Ythndfdnfaeioeaa
open Go.RowKit Go.Shelf
set_option maxRecDepth 100000

theorem held4 {w W W1 : World} {g : Nat} {v0 v1 v2 v3 : Value} (h : (W.cell? ⟨g, 0, none⟩ = some v0 ∧ W.cell? ⟨g, 1, none⟩ = some v1 ∧ W.cell? ⟨g, 2, none⟩ = some v2 ∧ W.cell? ⟨g, 3, none⟩ = some v3) ∧ Below w.heap.size w W) (b : Below W.heap.size W W1) :
    (W1.cell? ⟨g, 0, none⟩ = some v0 ∧ W1.cell? ⟨g, 1, none⟩ = some v1 ∧ W1.cell? ⟨g, 2, none⟩ = some v2 ∧ W1.cell? ⟨g, 3, none⟩ = some v3) ∧ Below w.heap.size w W1 := by
  obtain ⟨⟨h0, h1, h2, h3⟩, hb⟩ := h
  exact ⟨⟨(b.cell (World.block_lt_of_cell? W _ h0)).trans h0, (b.cell (World.block_lt_of_cell? W _ h1)).trans h1, (b.cell (World.block_lt_of_cell? W _ h2)).trans h2, (b.cell (World.block_lt_of_cell? W _ h3)).trans h3⟩, hb.trans (b.mono hb.size)⟩
theorem held4_of {w W : World} {g t : Nat} {x : W4} (h : Blk W g t (cl x)) (hb : Below w.heap.size w W) :
    (W.cell? ⟨g, 0, none⟩ = some (.int .u32 (x.a.toNat : Int)) ∧ W.cell? ⟨g, 1, none⟩ = some (.int .u32 (x.b.toNat : Int)) ∧ W.cell? ⟨g, 2, none⟩ = some (.int .u32 (x.c.toNat : Int)) ∧ W.cell? ⟨g, 3, none⟩ = some (.int .u32 (x.d.toNat : Int))) ∧ Below w.heap.size w W :=
  ⟨⟨h.cell 0, h.cell 1, h.cell 2, h.cell 3⟩, hb⟩
end Go.Proofs.Ythndfdnfaeioeaa
