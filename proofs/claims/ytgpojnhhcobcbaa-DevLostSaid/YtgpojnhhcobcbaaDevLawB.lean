/-
  Layer 9's laws: what lies where while a law runs.
-/
import Derived.Test.YtgpojnhhcobcbaaDevLawA
import Derived.Test.YtgpojnhhcobcbaaRdGreat
namespace Go.Proofs.Ytgpojnhhcobcbaa
open Go.RowKit Go.Shelf
set_option maxRecDepth 100000

/-- While a law runs, a disk that was handed to it lies where it lay, and so does its box. -/
def LawAt (w : World) (g : Nat) (x : DAt) (D : DkL) (w' : World) : Prop :=
  Blk w' g 25 #[.slice x.ba D.1.length x.bc, .slice x.wa D.2.length x.wc] ∧ w.heap.size ≤ g ∧ Dsk w' w'.heap.size x D ∧ Below w.heap.size w w'
section
variable {w w' w'' : World} {g : Nat} {x : DAt} {D : DkL}
theorem LawAt.step (h : LawAt w g x D w') (hb : Below w'.heap.size w' w'') : LawAt w g x D w'' :=
  ⟨h.1.below hb h.1.lt, h.2.1, h.2.2.1.step hb, h.2.2.2.trans (hb.mono h.2.2.2.size)⟩
theorem LawAt.c0 (h : LawAt w g x D w') : w'.cell? ⟨g, 0, none⟩ = some (.slice x.ba D.1.length x.bc) := h.1.cell 0
theorem LawAt.c1 (h : LawAt w g x D w') : w'.cell? ⟨g, 1, none⟩ = some (.slice x.wa D.2.length x.wc) := h.1.cell 1
theorem LawAt.dsk (h : LawAt w g x D w') : Dsk w' w'.heap.size x D := h.2.2.1
theorem LawAt.bel (h : LawAt w g x D w') : Below w.heap.size w w' := h.2.2.2
theorem LawAt.size (h : LawAt w g x D w') : w.heap.size ≤ w'.heap.size := h.2.2.2.size
theorem lawAt_box (w : World) (x : DAt) (D : DkL) (h : Dsk w w.heap.size x D) : LawAt w w.heap.size x D (w.alloc (.cells #[.slice x.ba D.1.length x.bc, .slice x.wa D.2.length x.wc] 25)) :=
  have b := (Below.refl w.heap.size w).alloc (Nat.le_refl _) (.cells #[.slice x.ba D.1.length x.bc, .slice x.wa D.2.length x.wc] 25)
  ⟨Blk.new w _ _, Nat.le_refl _, h.step b, b⟩
/-- A disk that a call answered is put in a box. -/
theorem LawAt.put {y : DAt} {E : DkL} (h : LawAt w g x D w') (hd : Dsk w' w'.heap.size y E) : LawAt w w'.heap.size y E (w'.alloc (.cells #[.slice y.ba E.1.length y.bc, .slice y.wa E.2.length y.wc] 25)) :=
  have b := (Below.refl w'.heap.size w').alloc (Nat.le_refl _) (.cells #[.slice y.ba E.1.length y.bc, .slice y.wa E.2.length y.wc] 25)
  ⟨Blk.new w' _ _, h.size, hd.step b, h.bel.trans (b.mono h.size)⟩
theorem alloc_b (w : World) (o : Obj) : Below w.heap.size w (w.alloc o) := (Below.refl _ w).alloc (Nat.le_refl _) o
end
/-- A block as the first i of the writes leave it, whose mark is true. -/
def leftI (D : DkL) (mk : Nat → Bool) (p i : Nat) : List UInt8 := match lastTo D.2 mk (p : Int) i with
  | some j => (wr_ D.2 j).2
  | none => D.1.getD p []
theorem leftI_all (D : DkL) (mk : Nat → Bool) (p : Nat) : leftI D mk p D.2.length = leftD D mk p := rfl
theorem leftI_zero (D : DkL) (mk : Nat → Bool) (p : Nat) : leftI D mk p 0 = D.1.getD p [] := rfl
theorem leftI_hit {D : DkL} {mk : Nat → Bool} {p i : Nat} (h : mk i = true ∧ (wr_ D.2 i).1 = (p : Int)) : leftI D mk p (i + 1) = (wr_ D.2 i).2 := by
  unfold leftI
  rw [lastTo, if_pos h]
theorem leftI_miss {D : DkL} {mk : Nat → Bool} {p i : Nat} (h : ¬ (mk i = true ∧ (wr_ D.2 i).1 = (p : Int))) : leftI D mk p (i + 1) = leftI D mk p i := by
  unfold leftI
  rw [lastTo, if_neg h]
end Go.Proofs.Ytgpojnhhcobcbaa
