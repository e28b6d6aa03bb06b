/-
  Layer 9's laws beside the document's answer: what lies where while a law runs and wipes what it was answered.
-/
import Derived.Test.YtgpojnhhcobcbaaRdTamper
import Derived.Test.YtgpojnhhcobcbaaRdSame
import Derived.Test.YtgpojnhhcobcbaaDevWipe
import Derived.Test.YtgpojnhhcobcbaaDevSame
import Derived.Test.YtgpojnhhcobcbaaDevLawB
namespace Go.Proofs.Ytgpojnhhcobcbaa
open Go.RowKit Go.Shelf
set_option maxRecDepth 100000

/-- A disk that lies below block L, its box too. -/
def LawL (w : World) (L g : Nat) (x : DAt) (D : DkL) (w' : World) : Prop :=
  Blk w' g 25 #[.slice x.ba D.1.length x.bc, .slice x.wa D.2.length x.wc] ∧ w.heap.size ≤ g ∧ g < L ∧ L ≤ w'.heap.size ∧ Dsk w' L x D ∧ Below w.heap.size w w'
section
variable {w w' w'' : World} {L L' g : Nat} {x : DAt} {D : DkL}
theorem Dsk.belowL (h : Dsk w L x D) (hb : Below L w w') : Dsk w' L x D := ⟨h.1.below hb, h.2.below hb⟩
theorem Dsk.moreL (h : Dsk w L x D) (hb : L ≤ L') : Dsk w L' x D := ⟨h.1.more hb, h.2.more hb⟩
theorem LawL.below (h : LawL w L g x D w') (hb : Below L w' w'') : LawL w L g x D w'' := by
  obtain ⟨h1, h2, h3, h4, h5, h6⟩ := h
  exact ⟨h1.below hb h3, h2, h3, Nat.le_trans h4 hb.size, h5.belowL hb, h6.trans (hb.mono (by omega))⟩
theorem LawL.step (h : LawL w L g x D w') (hb : Below w'.heap.size w' w'') : LawL w L g x D w'' := h.below (hb.mono h.2.2.2.1)
theorem LawL.c0 (h : LawL w L g x D w') : w'.cell? ⟨g, 0, none⟩ = some (.slice x.ba D.1.length x.bc) := h.1.cell 0
theorem LawL.c1 (h : LawL w L g x D w') : w'.cell? ⟨g, 1, none⟩ = some (.slice x.wa D.2.length x.wc) := h.1.cell 1
theorem LawL.dsk (h : LawL w L g x D w') : Dsk w' w'.heap.size x D := h.2.2.2.2.1.moreL h.2.2.2.1
theorem LawL.bel (h : LawL w L g x D w') : Below w.heap.size w w' := h.2.2.2.2.2
theorem lawL_box (w : World) (x : DAt) (D : DkL) (h : Dsk w w.heap.size x D) : LawL w (w.heap.size + 1) w.heap.size x D (w.alloc (.cells #[.slice x.ba D.1.length x.bc, .slice x.wa D.2.length x.wc] 25)) :=
  have b := alloc_b w (.cells #[.slice x.ba D.1.length x.bc, .slice x.wa D.2.length x.wc] 25)
  ⟨Blk.new w _ _, Nat.le_refl _, Nat.lt_succ_self _, by rw [World.size_alloc]; exact Nat.le_refl _, by have := h.step b; rwa [World.size_alloc] at this, b⟩
/-- A disk that a call answered is put in a box. -/
theorem LawL.put {y : DAt} {E : DkL} (h : LawL w L g x D w') (hd : Dsk w' w'.heap.size y E) : LawL w (w'.heap.size + 1) w'.heap.size y E (w'.alloc (.cells #[.slice y.ba E.1.length y.bc, .slice y.wa E.2.length y.wc] 25)) :=
  have b := alloc_b w' (.cells #[.slice y.ba E.1.length y.bc, .slice y.wa E.2.length y.wc] 25)
  ⟨Blk.new w' _ _, h.bel.size, Nat.lt_succ_self _, by rw [World.size_alloc]; exact Nat.le_refl _, by have := hd.step b; rwa [World.size_alloc] at this, h.bel.trans (b.mono h.bel.size)⟩
end
/-- A disk that is the law's own, and its box. -/
def MineL (lo g : Nat) (x : DAt) (D : DkL) (w : World) : Prop := Blk w g 25 #[.slice x.ba D.1.length x.bc, .slice x.wa D.2.length x.wc] ∧ lo ≤ g ∧ OutD w lo x D
section
variable {w w' : World} {lo g b : Nat} {x : DAt} {D : DkL}
theorem Laid.beside (h : Laid w lo x D) (hg : w.grownBy w' (some b)) (hb : b < lo) : Laid w' lo x D := by
  obtain ⟨r, hb', hw, h0, k1, k2, k3, h1, h2, h3, h4, h5, ⟨cb, h6, h7⟩, cw, h9, h10⟩ := h
  exact ⟨r, hb', hw, h0, k1, k2, k3, h1, h2, h3, h4, h5.grown hg (fun e => by cases e; omega), ⟨cb, h6.grown hg (fun e => by cases e; omega), h7⟩, cw, h9.grown hg (fun e => by cases e; omega), h10⟩
theorem MineL.step (h : MineL lo g x D w) (hb : Below w.heap.size w w') : MineL lo g x D w' := ⟨h.1.below hb h.1.lt, h.2.1, h.2.2.below hb⟩
theorem MineL.beside (h : MineL lo g x D w) (hg : w.grownBy w' (some b)) (hb : b < lo) : MineL lo g x D w' :=
  ⟨h.1.grown hg (fun e => by cases e; have := h.2.1; omega), h.2.1, h.2.2.imp id fun h => h.beside hg hb⟩
theorem MineL.c0 (h : MineL lo g x D w) : w.cell? ⟨g, 0, none⟩ = some (.slice x.ba D.1.length x.bc) := h.1.cell 0
theorem MineL.c1 (h : MineL lo g x D w) : w.cell? ⟨g, 1, none⟩ = some (.slice x.wa D.2.length x.wc) := h.1.cell 1
theorem mineL_put (h : OutD w lo x D) (hlo : lo ≤ w.heap.size) : MineL lo w.heap.size x D (w.alloc (.cells #[.slice x.ba D.1.length x.bc, .slice x.wa D.2.length x.wc] 25)) :=
  ⟨Blk.new w _ _, hlo, h.below (alloc_b w _)⟩
end
theorem LaidR.below {w w' : World} {lo r : Nat} {x : DAt} {D : DkL} (h : LaidR w lo r x D) (hb' : Below w.heap.size w w') : LaidR w' lo r x D := by
  obtain ⟨hb, hw, h0, k1, k2, k3, h1, h2, h3, h4, h5, ⟨cb, h6, h7⟩, cw, h9, h10⟩ := h
  exact ⟨hb, hw, h0, k1, k2, k3, h1, h2, h3, h4, h5.below hb' h5.lt, ⟨cb, h6.below hb' h6.lt, h7⟩, cw, h9.below hb' h9.lt, h10⟩
theorem LaidR.beside {w w' : World} {lo r : Nat} {row : Option Nat} {x : DAt} {D : DkL} (h : LaidR w lo r x D) (hg : w.grownBy w' row) (hb : ∀ b, row = some b → b < lo) : LaidR w' lo r x D := by
  obtain ⟨hb', hw, h0, k1, k2, k3, h1, h2, h3, h4, h5, ⟨cb, h6, h7⟩, cw, h9, h10⟩ := h
  exact ⟨hb', hw, h0, k1, k2, k3, h1, h2, h3, h4, h5.grown hg (fun e => by have := hb _ e.symm; omega), ⟨cb, h6.grown hg (fun e => by have := hb _ e.symm; omega), h7⟩, cw, h9.grown hg (fun e => by have := hb _ e.symm; omega), h10⟩
/-- A disk that is the law's own, its box, and the block of its bytes. -/
def MineR (lo hi g : Nat) (row : Option Nat) (x : DAt) (D : DkL) (w : World) : Prop := Blk w g 25 #[.slice x.ba D.1.length x.bc, .slice x.wa D.2.length x.wc] ∧ lo ≤ g ∧ OutR w lo row x D ∧ ∀ r, row = some r → lo ≤ r ∧ r < hi
section
variable {w w' w'' : World} {lo hi g L : Nat} {row row' : Option Nat} {x : DAt} {D : DkL}
theorem MineR.step (h : MineR lo hi g row x D w) (hb : Below w.heap.size w w') : MineR lo hi g row x D w' := by
  obtain ⟨h1, h2, h3, h4⟩ := h
  refine ⟨h1.below hb h1.lt, h2, ?_, h4⟩
  rcases h3 with h3 | ⟨r, e, h3⟩
  · exact .inl h3
  · exact .inr ⟨r, e, h3.below hb⟩
theorem MineR.beside (h : MineR lo hi g row x D w) (hg : w.grownBy w' row') (hb : ∀ b, row' = some b → b < lo) : MineR lo hi g row x D w' := by
  obtain ⟨h1, h2, h3, h4⟩ := h
  refine ⟨h1.grown hg (fun e => by have := hb _ e.symm; omega), h2, ?_, h4⟩
  rcases h3 with h3 | ⟨r, e, h3⟩
  · exact .inl h3
  · exact .inr ⟨r, e, h3.beside hg hb⟩
theorem MineR.c0 (h : MineR lo hi g row x D w) : w.cell? ⟨g, 0, none⟩ = some (.slice x.ba D.1.length x.bc) := h.1.cell 0
theorem MineR.c1 (h : MineR lo hi g row x D w) : w.cell? ⟨g, 1, none⟩ = some (.slice x.wa D.2.length x.wc) := h.1.cell 1
theorem MineR.dsk (h : MineR lo hi g row x D w) : Dsk w w.heap.size x D := h.2.2.1.out.dsk
theorem mineR_put (h : OutD w lo x D) (hlo : lo ≤ w.heap.size) : ∃ row, MineR lo w.heap.size w.heap.size row x D (w.alloc (.cells #[.slice x.ba D.1.length x.bc, .slice x.wa D.2.length x.wc] 25)) := by
  obtain ⟨row, hr⟩ := h.row
  refine ⟨row, Blk.new w _ _, hlo, ?_, hr.low⟩
  rcases hr with hr | ⟨r, e, hr⟩
  · exact .inl hr
  · exact .inr ⟨r, e, hr.below (alloc_b w _)⟩
theorem LawL.rows (h : LawL w L g x D w') (hg : w'.grownBy w'' row) (hr : ∀ r, row = some r → L ≤ r) : LawL w L g x D w'' := h.below ((Below.refl L w').grown hg h.2.2.2.1 hr)
end
theorem own_pos {w : World} {B n : Nat} {v : Value} {xs : List Value} (h : w.ownsRow B 5 1 v n xs) (h0 : 0 < n) : ∃ g c, v = .slice (some ⟨g, 0, none⟩) n c := by
  obtain ⟨hl, ⟨rfl, e⟩ | ⟨g, cap, cur, rfl, _⟩⟩ := h
  · omega
  · exact ⟨g, cap, rfl⟩
end Go.Proofs.Ytgpojnhhcobcbaa
