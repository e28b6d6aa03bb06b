/-
  Texts of one seat, one behind the other.
-/
import Derived.Test.YtldnelimemjaiaaGreatDoorPkLR5
/-
  Layer 9: all bytes of a disk that is the caller's own become other ones.
-/
namespace Go.Proofs.YtldnelimemjaiaaGreatDoor
open Go.RowKit Go.Shelf
set_option maxRecDepth 100000

/-- Where the pieces lie. -/
def WipeOK (g n m T : Nat) (cb cw : Array Value) : Prop :=
  (∀ i, i < n → ∃ o l, cb[i]? = some (.slice (some ⟨g, o, none⟩) l l) ∧ l ≤ T ∧ ∀ k, k < l → o + k < T) ∧ ∀ i, i < m → ∃ o l, cw[i * 2 + 1]? = some (.slice (some ⟨g, o, none⟩) l l) ∧ l ≤ T ∧ ∀ k, k < l → o + k < T
def WipeI (g hb hw B n m T : Nat) (cb cw : Array Value) (w0 w : World) : Prop :=
  Blk w B 25 #[.slice (some ⟨hb, 0, none⟩) n n, .slice (some ⟨hw, 0, none⟩) m m] ∧ Blk w hb 45 cb ∧ Blk w hw 47 cw ∧ (∃ t : List UInt8, t.length = T ∧ Blk w g 5 (ar t)) ∧ w0.grownBy w (some g)
theorem WipeI.step {g hb hw B n m T : Nat} {cb cw : Array Value} {w0 w : World} (h : WipeI g hb hw B n m T cb cw w0 w) (j : Nat) (y : UInt8) : WipeI g hb hw B n m T cb cw w0 (w.setCell ⟨g, j, none⟩ (.int .u8 (y.toNat : Int))) := by
  obtain ⟨h1, h2, h3, ⟨t, h4, h5⟩, h6⟩ := h
  refine ⟨h1.far (p := ⟨g, j, none⟩) (h1.ne h5 (by decide)) _, h2.far (p := ⟨g, j, none⟩) (h2.ne h5 (by decide)) _, h3.far (p := ⟨g, j, none⟩) (h3.ne h5 (by decide)) _, ⟨t.set j y, by rw [List.length_set, h4], ?_⟩, only_setCell h6 (p := ⟨g, j, none⟩) (.inl rfl) _⟩
  have := h5.set_ j (.int .u8 (y.toNat : Int))
  rwa [ar_set] at this
theorem WipeI.drew {g hb hw B n m T : Nat} {cb cw : Array Value} {w0 w : World} (h : WipeI g hb hw B n m T cb cw w0 w) : WipeI g hb hw B n m T cb cw w0 w.drew := by
  obtain ⟨h1, h2, h3, ⟨t, h4, h5⟩, h6⟩ := h
  exact ⟨h1.drew, h2.drew, h3.drew, ⟨t, h4, h5.drew⟩, only_drew h6⟩
theorem WipeI.byte {g hb hw B n m T : Nat} {cb cw : Array Value} {w0 w : World} (h : WipeI g hb hw B n m T cb cw w0 w) {j : Nat} (hj : j < T) : ∃ y : UInt8, w.cell? ⟨g, j, none⟩ = some (.int .u8 (y.toNat : Int)) ∧ w.frozen? ⟨g, j, none⟩ = false := by
  obtain ⟨_, _, _, ⟨t, h4, h5⟩, _⟩ := h
  refine ⟨t[j], ?_, h5.frozen j⟩
  rw [h5.cell, ar_get t j (by omega)]
/-- A disk laid in one piece, at block r. -/
def LaidR (w : World) (lo r : Nat) (x : DAt) (D : DkL) : Prop :=
  ∃ hb hw, x = ⟨some ⟨hb, 0, none⟩, D.1.length, some ⟨hw, 0, none⟩, D.2.length⟩ ∧ lo ≤ r ∧ lo ≤ hb ∧ lo ≤ hw ∧ D.1.length ≤ 1000000 ∧ D.2.length ≤ 1000000 ∧ sumD D ≤ 1000000000000 ∧
    (∀ i, i < D.2.length → (Lit.int .i64 (wr_ D.2 i).1).wf = true) ∧ Blk w r 5 (ar (roomP (pieces D) (sumD D) (D.1.length + D.2.length))) ∧
    (∃ cb, Blk w hb 45 cb ∧ cb.size = D.1.length ∧ ∀ i, i < D.1.length → ∃ v, cb[i]? = some v ∧ PieceV r (pieces D) i v) ∧
    ∃ cw, Blk w hw 47 cw ∧ cw.size = D.2.length * 2 ∧ ∀ i, i < D.2.length → cw[i * 2]? = some (.int .i64 (wr_ D.2 i).1) ∧ ∃ v, cw[i * 2 + 1]? = some v ∧ PieceV r (pieces D) (D.1.length + i) v
theorem Laid.row {w : World} {lo : Nat} {x : DAt} {D : DkL} (h : Laid w lo x D) : ∃ r, LaidR w lo r x D := h
theorem LaidR.laid {w : World} {lo r : Nat} {x : DAt} {D : DkL} (h : LaidR w lo r x D) : Laid w lo x D := ⟨r, h⟩
theorem LaidR.low {w : World} {lo r : Nat} {x : DAt} {D : DkL} (h : LaidR w lo r x D) : lo ≤ r ∧ r < w.heap.size := by
  obtain ⟨_, _, _, h1, _, _, _, _, _, _, h2, _⟩ := h
  exact ⟨h1, h2.lt⟩
/-- What a call answers that makes a disk; row: the block of its bytes, if there are any. -/
def OutR (w : World) (lo : Nat) (row : Option Nat) (x : DAt) (D : DkL) : Prop := (x = ⟨none, 0, none, 0⟩ ∧ D = ([], []) ∧ row = none) ∨ ∃ r, row = some r ∧ LaidR w lo r x D
theorem OutD.row {w : World} {lo : Nat} {x : DAt} {D : DkL} (h : OutD w lo x D) : ∃ row, OutR w lo row x D := by
  rcases h with ⟨h1, h2⟩ | h
  · exact ⟨none, .inl ⟨h1, h2, rfl⟩⟩
  · obtain ⟨r, hr⟩ := h.row
    exact ⟨some r, .inr ⟨r, rfl, hr⟩⟩
theorem OutR.out {w : World} {lo : Nat} {row : Option Nat} {x : DAt} {D : DkL} (h : OutR w lo row x D) : OutD w lo x D := by
  rcases h with ⟨h1, h2, _⟩ | ⟨r, _, h⟩
  · exact .inl ⟨h1, h2⟩
  · exact .inr h.laid
theorem OutR.low {w : World} {lo : Nat} {row : Option Nat} {x : DAt} {D : DkL} (h : OutR w lo row x D) : ∀ r, row = some r → lo ≤ r ∧ r < w.heap.size := by
  rintro r rfl
  rcases h with ⟨_, _, e⟩ | ⟨r', e, h⟩
  · cases e
  · cases e
    exact h.low
/-- What a disk that is laid in one piece gives. -/
theorem LaidR.wipe {w : World} {lo g : Nat} {x : DAt} {D : DkL} (h : LaidR w lo g x D) :
    ∃ hb hw n m T cb cw, dval x D = .agg #[.slice (some ⟨hb, 0, none⟩) n n, .slice (some ⟨hw, 0, none⟩) m m] ∧ n ≤ 1000000 ∧ m ≤ 1000000 ∧ T ≤ 1000000000000 ∧ WipeOK g n m T cb cw ∧
      WipeI g hb hw w.heap.size n m T cb cw w (w.alloc (.cells #[.slice (some ⟨hb, 0, none⟩) n n, .slice (some ⟨hw, 0, none⟩) m m] 25)) := by
  obtain ⟨hb, hw, rfl, k1, k2, k3, h1, h2, h3, h4, h5, ⟨cb, h6, h7, h8⟩, cw, h9, h10, h11⟩ := h
  have hst : startP (pieces D) (D.1.length + D.2.length) = sumD D := startP_sumD D
  have hpc : ∀ i v, i < D.1.length + D.2.length → PieceV g (pieces D) i v → ∃ o l, v = .slice (some ⟨g, o, none⟩) l l ∧ l ≤ sumD D ∧ ∀ k, k < l → o + k < sumD D := by
    rintro i v hi ⟨o, e, ho⟩
    have hs := startP_succ (P := pieces D) (k := i) (by rw [pieces_length]; exact hi)
    have hm := startP_mono (P := pieces D) (show i + 1 ≤ D.1.length + D.2.length by omega)
    refine ⟨o, _, e, by omega, fun k hk => ?_⟩
    have := ho (by omega)
    omega
  refine ⟨hb, hw, D.1.length, D.2.length, sumD D, cb, cw, rfl, h1, h2, h3, ⟨fun i hi => ?_, fun i hi => ?_⟩, Blk.new w _ _, h6.alloc _, h9.alloc _, ⟨_, roomP_length (by rw [hst]; exact Nat.le_refl _), h5.alloc _⟩, only_alloc (World.grownBy.refl w _) _⟩
  · obtain ⟨v, e1, e2⟩ := h8 i hi
    obtain ⟨o, l, rfl, e3⟩ := hpc i v (by omega) e2
    exact ⟨o, l, e1, e3⟩
  · obtain ⟨_, v, e1, e2⟩ := h11 i hi
    obtain ⟨o, l, rfl, e3⟩ := hpc (D.1.length + i) v (by omega) e2
    exact ⟨o, l, e1, e3⟩
theorem xor255 (y : UInt8) : bits .xor .u8 (y.toNat : Int) 255 = ((y ^^^ 255).toNat : Int) := xor8 y 255
end Go.Proofs.YtldnelimemjaiaaGreatDoor
/-
  Layer 9's laws: what lies where while a law runs.
-/
namespace Go.Proofs.YtldnelimemjaiaaGreatDoor
open Go.RowKit Go.Shelf
set_option maxRecDepth 100000

/-- While a law runs, a disk that was handed to it lies where it lay, and so does its box. -/
def LawAt (w : World) (g : Nat) (x : DAt) (D : DkL) (w' : World) : Prop :=
  Blk w' g 25 #[.slice x.ba D.1.length x.bc, .slice x.wa D.2.length x.wc] ∧ w.heap.size ≤ g ∧ Dsk w' w'.heap.size x D ∧ Below w.heap.size w w'
section
variable {w w' w'' : World} {g : Nat} {x : DAt} {D : DkL}
theorem LawAt.step (h : LawAt w g x D w') (hb : Below w'.heap.size w' w'') : LawAt w g x D w'' :=
  ⟨h.1.below hb h.1.lt, h.2.1, h.2.2.1.step hb, h.2.2.2.trans (hb.mono h.2.2.2.size)⟩
theorem LawAt.c0 (h : LawAt w g x D w') : w'.cell? ⟨g, 0, none⟩ = some (.slice x.ba D.1.length x.bc) := h.1.cell 0
theorem LawAt.c1 (h : LawAt w g x D w') : w'.cell? ⟨g, 1, none⟩ = some (.slice x.wa D.2.length x.wc) := h.1.cell 1
theorem LawAt.dsk (h : LawAt w g x D w') : Dsk w' w'.heap.size x D := h.2.2.1
theorem LawAt.bel (h : LawAt w g x D w') : Below w.heap.size w w' := h.2.2.2
theorem LawAt.size (h : LawAt w g x D w') : w.heap.size ≤ w'.heap.size := h.2.2.2.size
theorem lawAt_box (w : World) (x : DAt) (D : DkL) (h : Dsk w w.heap.size x D) : LawAt w w.heap.size x D (w.alloc (.cells #[.slice x.ba D.1.length x.bc, .slice x.wa D.2.length x.wc] 25)) :=
  have b := (Below.refl w.heap.size w).alloc (Nat.le_refl _) (.cells #[.slice x.ba D.1.length x.bc, .slice x.wa D.2.length x.wc] 25)
  ⟨Blk.new w _ _, Nat.le_refl _, h.step b, b⟩
/-- A disk that a call answered is put in a box. -/
theorem LawAt.put {y : DAt} {E : DkL} (h : LawAt w g x D w') (hd : Dsk w' w'.heap.size y E) : LawAt w w'.heap.size y E (w'.alloc (.cells #[.slice y.ba E.1.length y.bc, .slice y.wa E.2.length y.wc] 25)) :=
  have b := (Below.refl w'.heap.size w').alloc (Nat.le_refl _) (.cells #[.slice y.ba E.1.length y.bc, .slice y.wa E.2.length y.wc] 25)
  ⟨Blk.new w' _ _, h.size, hd.step b, h.bel.trans (b.mono h.size)⟩
theorem alloc_b (w : World) (o : Obj) : Below w.heap.size w (w.alloc o) := (Below.refl _ w).alloc (Nat.le_refl _) o
end
/-- A block as the first i of the writes leave it, whose mark is true. -/
def leftI (D : DkL) (mk : Nat → Bool) (p i : Nat) : List UInt8 := match lastTo D.2 mk (p : Int) i with
  | some j => (wr_ D.2 j).2
  | none => D.1.getD p []
theorem leftI_all (D : DkL) (mk : Nat → Bool) (p : Nat) : leftI D mk p D.2.length = leftD D mk p := rfl
theorem leftI_zero (D : DkL) (mk : Nat → Bool) (p : Nat) : leftI D mk p 0 = D.1.getD p [] := rfl
theorem leftI_hit {D : DkL} {mk : Nat → Bool} {p i : Nat} (h : mk i = true ∧ (wr_ D.2 i).1 = (p : Int)) : leftI D mk p (i + 1) = (wr_ D.2 i).2 := by
  unfold leftI
  rw [lastTo, if_pos h]
theorem leftI_miss {D : DkL} {mk : Nat → Bool} {p i : Nat} (h : ¬ (mk i = true ∧ (wr_ D.2 i).1 = (p : Int))) : leftI D mk p (i + 1) = leftI D mk p i := by
  unfold leftI
  rw [lastTo, if_neg h]
end Go.Proofs.YtldnelimemjaiaaGreatDoor
/-
  Layer 9's laws beside the document's answer: what lies where while a law runs and wipes what it was answered.
-/
namespace Go.Proofs.YtldnelimemjaiaaGreatDoor
open Go.RowKit Go.Shelf
set_option maxRecDepth 100000

/-- A disk that lies below block L, its box too. -/
def LawL (w : World) (L g : Nat) (x : DAt) (D : DkL) (w' : World) : Prop :=
  Blk w' g 25 #[.slice x.ba D.1.length x.bc, .slice x.wa D.2.length x.wc] ∧ w.heap.size ≤ g ∧ g < L ∧ L ≤ w'.heap.size ∧ Dsk w' L x D ∧ Below w.heap.size w w'
section
variable {w w' w'' : World} {L L' g : Nat} {x : DAt} {D : DkL}
theorem Dsk.belowL (h : Dsk w L x D) (hb : Below L w w') : Dsk w' L x D := ⟨h.1.below hb, h.2.below hb⟩
theorem Dsk.moreL (h : Dsk w L x D) (hb : L ≤ L') : Dsk w L' x D := ⟨h.1.more hb, h.2.more hb⟩
theorem LawL.below (h : LawL w L g x D w') (hb : Below L w' w'') : LawL w L g x D w'' := by
  obtain ⟨h1, h2, h3, h4, h5, h6⟩ := h
  exact ⟨h1.below hb h3, h2, h3, Nat.le_trans h4 hb.size, h5.belowL hb, h6.trans (hb.mono (by omega))⟩
theorem LawL.step (h : LawL w L g x D w') (hb : Below w'.heap.size w' w'') : LawL w L g x D w'' := h.below (hb.mono h.2.2.2.1)
theorem LawL.c0 (h : LawL w L g x D w') : w'.cell? ⟨g, 0, none⟩ = some (.slice x.ba D.1.length x.bc) := h.1.cell 0
theorem LawL.c1 (h : LawL w L g x D w') : w'.cell? ⟨g, 1, none⟩ = some (.slice x.wa D.2.length x.wc) := h.1.cell 1
theorem LawL.dsk (h : LawL w L g x D w') : Dsk w' w'.heap.size x D := h.2.2.2.2.1.moreL h.2.2.2.1
theorem LawL.bel (h : LawL w L g x D w') : Below w.heap.size w w' := h.2.2.2.2.2
theorem lawL_box (w : World) (x : DAt) (D : DkL) (h : Dsk w w.heap.size x D) : LawL w (w.heap.size + 1) w.heap.size x D (w.alloc (.cells #[.slice x.ba D.1.length x.bc, .slice x.wa D.2.length x.wc] 25)) :=
  have b := alloc_b w (.cells #[.slice x.ba D.1.length x.bc, .slice x.wa D.2.length x.wc] 25)
  ⟨Blk.new w _ _, Nat.le_refl _, Nat.lt_succ_self _, by rw [World.size_alloc]; exact Nat.le_refl _, by have := h.step b; rwa [World.size_alloc] at this, b⟩
/-- A disk that a call answered is put in a box. -/
theorem LawL.put {y : DAt} {E : DkL} (h : LawL w L g x D w') (hd : Dsk w' w'.heap.size y E) : LawL w (w'.heap.size + 1) w'.heap.size y E (w'.alloc (.cells #[.slice y.ba E.1.length y.bc, .slice y.wa E.2.length y.wc] 25)) :=
  have b := alloc_b w' (.cells #[.slice y.ba E.1.length y.bc, .slice y.wa E.2.length y.wc] 25)
  ⟨Blk.new w' _ _, h.bel.size, Nat.lt_succ_self _, by rw [World.size_alloc]; exact Nat.le_refl _, by have := hd.step b; rwa [World.size_alloc] at this, h.bel.trans (b.mono h.bel.size)⟩
end
/-- A disk that is the law's own, and its box. -/
def MineL (lo g : Nat) (x : DAt) (D : DkL) (w : World) : Prop := Blk w g 25 #[.slice x.ba D.1.length x.bc, .slice x.wa D.2.length x.wc] ∧ lo ≤ g ∧ OutD w lo x D
section
variable {w w' : World} {lo g b : Nat} {x : DAt} {D : DkL}
theorem Laid.beside (h : Laid w lo x D) (hg : w.grownBy w' (some b)) (hb : b < lo) : Laid w' lo x D := by
  obtain ⟨r, hb', hw, h0, k1, k2, k3, h1, h2, h3, h4, h5, ⟨cb, h6, h7⟩, cw, h9, h10⟩ := h
  exact ⟨r, hb', hw, h0, k1, k2, k3, h1, h2, h3, h4, h5.grown hg (fun e => by cases e; omega), ⟨cb, h6.grown hg (fun e => by cases e; omega), h7⟩, cw, h9.grown hg (fun e => by cases e; omega), h10⟩
theorem MineL.step (h : MineL lo g x D w) (hb : Below w.heap.size w w') : MineL lo g x D w' := ⟨h.1.below hb h.1.lt, h.2.1, h.2.2.below hb⟩
theorem MineL.beside (h : MineL lo g x D w) (hg : w.grownBy w' (some b)) (hb : b < lo) : MineL lo g x D w' :=
  ⟨h.1.grown hg (fun e => by cases e; have := h.2.1; omega), h.2.1, h.2.2.imp id fun h => h.beside hg hb⟩
theorem MineL.c0 (h : MineL lo g x D w) : w.cell? ⟨g, 0, none⟩ = some (.slice x.ba D.1.length x.bc) := h.1.cell 0
theorem MineL.c1 (h : MineL lo g x D w) : w.cell? ⟨g, 1, none⟩ = some (.slice x.wa D.2.length x.wc) := h.1.cell 1
theorem mineL_put (h : OutD w lo x D) (hlo : lo ≤ w.heap.size) : MineL lo w.heap.size x D (w.alloc (.cells #[.slice x.ba D.1.length x.bc, .slice x.wa D.2.length x.wc] 25)) :=
  ⟨Blk.new w _ _, hlo, h.below (alloc_b w _)⟩
end
theorem LaidR.below {w w' : World} {lo r : Nat} {x : DAt} {D : DkL} (h : LaidR w lo r x D) (hb' : Below w.heap.size w w') : LaidR w' lo r x D := by
  obtain ⟨hb, hw, h0, k1, k2, k3, h1, h2, h3, h4, h5, ⟨cb, h6, h7⟩, cw, h9, h10⟩ := h
  exact ⟨hb, hw, h0, k1, k2, k3, h1, h2, h3, h4, h5.below hb' h5.lt, ⟨cb, h6.below hb' h6.lt, h7⟩, cw, h9.below hb' h9.lt, h10⟩
theorem LaidR.beside {w w' : World} {lo r : Nat} {row : Option Nat} {x : DAt} {D : DkL} (h : LaidR w lo r x D) (hg : w.grownBy w' row) (hb : ∀ b, row = some b → b < lo) : LaidR w' lo r x D := by
  obtain ⟨hb', hw, h0, k1, k2, k3, h1, h2, h3, h4, h5, ⟨cb, h6, h7⟩, cw, h9, h10⟩ := h
  exact ⟨hb', hw, h0, k1, k2, k3, h1, h2, h3, h4, h5.grown hg (fun e => by have := hb _ e.symm; omega), ⟨cb, h6.grown hg (fun e => by have := hb _ e.symm; omega), h7⟩, cw, h9.grown hg (fun e => by have := hb _ e.symm; omega), h10⟩
/-- A disk that is the law's own, its box, and the block of its bytes. -/
def MineR (lo hi g : Nat) (row : Option Nat) (x : DAt) (D : DkL) (w : World) : Prop := Blk w g 25 #[.slice x.ba D.1.length x.bc, .slice x.wa D.2.length x.wc] ∧ lo ≤ g ∧ OutR w lo row x D ∧ ∀ r, row = some r → lo ≤ r ∧ r < hi
section
variable {w w' w'' : World} {lo hi g L : Nat} {row row' : Option Nat} {x : DAt} {D : DkL}
theorem MineR.step (h : MineR lo hi g row x D w) (hb : Below w.heap.size w w') : MineR lo hi g row x D w' := by
  obtain ⟨h1, h2, h3, h4⟩ := h
  refine ⟨h1.below hb h1.lt, h2, ?_, h4⟩
  rcases h3 with h3 | ⟨r, e, h3⟩
  · exact .inl h3
  · exact .inr ⟨r, e, h3.below hb⟩
theorem MineR.beside (h : MineR lo hi g row x D w) (hg : w.grownBy w' row') (hb : ∀ b, row' = some b → b < lo) : MineR lo hi g row x D w' := by
  obtain ⟨h1, h2, h3, h4⟩ := h
  refine ⟨h1.grown hg (fun e => by have := hb _ e.symm; omega), h2, ?_, h4⟩
  rcases h3 with h3 | ⟨r, e, h3⟩
  · exact .inl h3
  · exact .inr ⟨r, e, h3.beside hg hb⟩
theorem MineR.c0 (h : MineR lo hi g row x D w) : w.cell? ⟨g, 0, none⟩ = some (.slice x.ba D.1.length x.bc) := h.1.cell 0
theorem MineR.c1 (h : MineR lo hi g row x D w) : w.cell? ⟨g, 1, none⟩ = some (.slice x.wa D.2.length x.wc) := h.1.cell 1
theorem MineR.dsk (h : MineR lo hi g row x D w) : Dsk w w.heap.size x D := h.2.2.1.out.dsk
theorem mineR_put (h : OutD w lo x D) (hlo : lo ≤ w.heap.size) : ∃ row, MineR lo w.heap.size w.heap.size row x D (w.alloc (.cells #[.slice x.ba D.1.length x.bc, .slice x.wa D.2.length x.wc] 25)) := by
  obtain ⟨row, hr⟩ := h.row
  refine ⟨row, Blk.new w _ _, hlo, ?_, hr.low⟩
  rcases hr with hr | ⟨r, e, hr⟩
  · exact .inl hr
  · exact .inr ⟨r, e, hr.below (alloc_b w _)⟩
theorem LawL.rows (h : LawL w L g x D w') (hg : w'.grownBy w'' row) (hr : ∀ r, row = some r → L ≤ r) : LawL w L g x D w'' := h.below ((Below.refl L w').grown hg h.2.2.2.1 hr)
end
theorem own_pos {w : World} {B n : Nat} {v : Value} {xs : List Value} (h : w.ownsRow B 5 1 v n xs) (h0 : 0 < n) : ∃ g c, v = .slice (some ⟨g, 0, none⟩) n c := by
  obtain ⟨hl, ⟨rfl, e⟩ | ⟨g, cap, cur, rfl, _⟩⟩ := h
  · omega
  · exact ⟨g, cap, rfl⟩
end Go.Proofs.YtldnelimemjaiaaGreatDoor
