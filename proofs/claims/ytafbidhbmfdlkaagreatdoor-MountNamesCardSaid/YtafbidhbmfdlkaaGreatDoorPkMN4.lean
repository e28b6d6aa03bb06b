/-
  Texts of one seat, one behind the other.
-/
import Derived.OwnWalk
import Derived.IntWalk
import Derived.Laws.Rows
import Derived.Laws.Tables
import Derived.Laws.OwnMore
import Derived.Test.YtafbidhbmfdlkaaGreatDoorPkMN3
/-
  The struct of a sync's steps, by pointer: one box of 25 cells, told by its fields.
-/
namespace Go.Proofs.YtafbidhbmfdlkaaGreatDoor
open Go.RowKit Go.Shelf
set_option maxRecDepth 100000

/-- What the struct of a sync's steps holds. -/
structure Wk where
  x : SAt
  S : StL
  gen : Nat
  root : Pt
  own : Value
  lines : Value
  keys : Value
  loaded : Value
  changes : Value
  logged : Int
  nextId : Int
  nextGuid : Nat
  birth : Nat
  h0 : Value
  h1 : Value
  h2 : Value
  h3 : Value
  e : Nat
/-- Its cells. -/
@[reducible] def Wk.cs (k : Wk) : Array Value := #[.slice k.x.d.ba k.S.1.1.length k.x.d.bc, .slice k.x.d.wa k.S.1.2.length k.x.d.wc, .slice k.x.a k.S.2.1.length k.x.c, .int .u32 (k.S.2.2.1 : Int), .int .u32 (k.S.2.2.2 : Int),
  .int .u32 (k.gen : Int), .int .i64 k.root.1, .int .u32 (k.root.2.1 : Int), .int .u32 (k.root.2.2.1 : Int), .int .u32 (k.root.2.2.2.1 : Int), .int .u32 (k.root.2.2.2.2 : Int),
  k.own, k.lines, k.keys, k.loaded, k.changes, .int .i64 k.logged, .int .i64 k.nextId, .int .u32 (k.nextGuid : Int), .int .u32 (k.birth : Int), k.h0, k.h1, k.h2, k.h3, .int .i64 (k.e : Int)]
def Box (w : World) (g : Nat) (k : Wk) : Prop := Blk w g 62 k.cs
section
variable {w w' : World} {g : Nat} {k : Wk}
theorem Box.lt (h : Box w g k) : g < w.heap.size := Blk.lt h
theorem Box.below {B : Nat} (h : Box w g k) (hb : Below B w w') (hg : g < B) : Box w' g k := Blk.below h hb hg
theorem Box.bel (h : Box w g k) (hb : Below w.heap.size w w') : Box w' g k := Blk.below h hb (Blk.lt h)
theorem Box.frozen (h : Box w g k) (i : Nat) : w.frozen? ⟨g, i, none⟩ = false := Blk.frozen h i
theorem Box.c0 (h : Box w g k) : w.cell? ⟨g, 0, none⟩ = some (.slice k.x.d.ba k.S.1.1.length k.x.d.bc) := Blk.cell h 0
theorem Box.c1 (h : Box w g k) : w.cell? ⟨g, 1, none⟩ = some (.slice k.x.d.wa k.S.1.2.length k.x.d.wc) := Blk.cell h 1
theorem Box.c2 (h : Box w g k) : w.cell? ⟨g, 2, none⟩ = some (.slice k.x.a k.S.2.1.length k.x.c) := Blk.cell h 2
theorem Box.c3 (h : Box w g k) : w.cell? ⟨g, 3, none⟩ = some (.int .u32 (k.S.2.2.1 : Int)) := Blk.cell h 3
theorem Box.c4 (h : Box w g k) : w.cell? ⟨g, 4, none⟩ = some (.int .u32 (k.S.2.2.2 : Int)) := Blk.cell h 4
theorem Box.c5 (h : Box w g k) : w.cell? ⟨g, 5, none⟩ = some (.int .u32 (k.gen : Int)) := Blk.cell h 5
theorem Box.c6 (h : Box w g k) : w.cell? ⟨g, 6, none⟩ = some (.int .i64 k.root.1) := Blk.cell h 6
theorem Box.c7 (h : Box w g k) : w.cell? ⟨g, 7, none⟩ = some (.int .u32 (k.root.2.1 : Int)) := Blk.cell h 7
theorem Box.c8 (h : Box w g k) : w.cell? ⟨g, 8, none⟩ = some (.int .u32 (k.root.2.2.1 : Int)) := Blk.cell h 8
theorem Box.c9 (h : Box w g k) : w.cell? ⟨g, 9, none⟩ = some (.int .u32 (k.root.2.2.2.1 : Int)) := Blk.cell h 9
theorem Box.c10 (h : Box w g k) : w.cell? ⟨g, 10, none⟩ = some (.int .u32 (k.root.2.2.2.2 : Int)) := Blk.cell h 10
theorem Box.c11 (h : Box w g k) : w.cell? ⟨g, 11, none⟩ = some k.own := Blk.cell h 11
theorem Box.c12 (h : Box w g k) : w.cell? ⟨g, 12, none⟩ = some k.lines := Blk.cell h 12
theorem Box.c13 (h : Box w g k) : w.cell? ⟨g, 13, none⟩ = some k.keys := Blk.cell h 13
theorem Box.c14 (h : Box w g k) : w.cell? ⟨g, 14, none⟩ = some k.loaded := Blk.cell h 14
theorem Box.c15 (h : Box w g k) : w.cell? ⟨g, 15, none⟩ = some k.changes := Blk.cell h 15
theorem Box.c16 (h : Box w g k) : w.cell? ⟨g, 16, none⟩ = some (.int .i64 k.logged) := Blk.cell h 16
theorem Box.c17 (h : Box w g k) : w.cell? ⟨g, 17, none⟩ = some (.int .i64 k.nextId) := Blk.cell h 17
theorem Box.c18 (h : Box w g k) : w.cell? ⟨g, 18, none⟩ = some (.int .u32 (k.nextGuid : Int)) := Blk.cell h 18
theorem Box.c19 (h : Box w g k) : w.cell? ⟨g, 19, none⟩ = some (.int .u32 (k.birth : Int)) := Blk.cell h 19
theorem Box.c20 (h : Box w g k) : w.cell? ⟨g, 20, none⟩ = some k.h0 := Blk.cell h 20
theorem Box.c21 (h : Box w g k) : w.cell? ⟨g, 21, none⟩ = some k.h1 := Blk.cell h 21
theorem Box.c22 (h : Box w g k) : w.cell? ⟨g, 22, none⟩ = some k.h2 := Blk.cell h 22
theorem Box.c23 (h : Box w g k) : w.cell? ⟨g, 23, none⟩ = some k.h3 := Blk.cell h 23
theorem Box.c24 (h : Box w g k) : w.cell? ⟨g, 24, none⟩ = some (.int .i64 (k.e : Int)) := Blk.cell h 24
theorem Box.set11 (h : Box w g k) (v : Value) : Box (w.setCell ⟨g, 11, none⟩ v) g { k with own := v } := Blk.set_ h 11 _
theorem Box.setSt (h : Box w g k) (y : SAt) (T : StL) : Box (set5 w g (.slice y.d.ba T.1.1.length y.d.bc) (.slice y.d.wa T.1.2.length y.d.wc) (.slice y.a T.2.1.length y.c) (.int .u32 (T.2.2.1 : Int)) (.int .u32 (T.2.2.2 : Int))) g { k with x := y, S := T } :=
  Blk.set_ (Blk.set_ (Blk.set_ (Blk.set_ (Blk.set_ h 0 _) 1 _) 2 _) 3 _) 4 _
theorem Box.setRoot (h : Box w g k) (p : Pt) : Box (((((w.setCell ⟨g, 6, none⟩ (.int .i64 p.1)).setCell ⟨g, 7, none⟩ (.int .u32 (p.2.1 : Int))).setCell ⟨g, 8, none⟩ (.int .u32 (p.2.2.1 : Int))).setCell ⟨g, 9, none⟩ (.int .u32 (p.2.2.2.1 : Int))).setCell ⟨g, 10, none⟩ (.int .u32 (p.2.2.2.2 : Int))) g { k with root := p } :=
  Blk.set_ (Blk.set_ (Blk.set_ (Blk.set_ (Blk.set_ h 6 _) 7 _) 8 _) 9 _) 10 _
theorem Wk.e0 {k : Wk} (h : k.e = 0) : { k with e := 0 } = k := by
  cases k
  simp only at h
  subst h
  rfl
end
theorem Wk.stay {g : Nat} (w : World) (i : Nat) (u : Value) : w.grownBy (w.setCell ⟨g, i, none⟩ u) (some g) := only_setCell (World.grownBy.refl w _) (.inl rfl) u
theorem only_trans {a b c : World} {g : Nat} (h : a.grownBy b (some g)) (k : b.grownBy c (some g)) : a.grownBy c (some g) :=
  ⟨k.os.trans h.os, k.tape.trans h.tape, k.output.trans h.output, Nat.le_trans h.size k.size, fun i hi hne => (k.block i (Nat.lt_of_lt_of_le hi h.size) hne).trans (h.block i hi hne)⟩
theorem Below.only {a b : World} {g : Nat} (h : Below a.heap.size a b) : a.grownBy b (some g) := only_below (World.grownBy.refl a _) h
/-- A cell that is written as it was. -/
theorem setCell_same {w : World} {g : Nat} {t : TypeId} {cs : Array Value} (h : Blk w g t cs) (i : Nat) (v : Value) (hv : cs[i]? = some v) : w.setCell ⟨g, i, none⟩ v = w := by
  have hc : cs.setIfInBounds i v = cs := by
    apply Array.ext_getElem?
    intro j
    rw [Array.getElem?_setIfInBounds]
    split
    · rename_i e
      subst e
      split
      · exact hv.symm
      · rename_i h2
        rw [Array.getElem?_eq_none (by omega)]
    · rfl
  have hh : (w.setCell ⟨g, i, none⟩ v).heap = w.heap := by
    apply Array.ext_getElem?
    intro j
    by_cases e : g = j
    · subst e
      have h1 := h.set_ i v
      rw [hc] at h1
      exact h1.trans h.symm
    · have := (Blk.far (w := w) (g := j) (t := t) (cs := cs) (p := ⟨g, i, none⟩))
      show (w.setCell ⟨g, i, none⟩ v).heap[j]? = _
      exact Below.heap_setCell w ⟨g, i, none⟩ v j (fun h_ => e h_.symm)
  have e : w.setCell ⟨g, i, none⟩ v = { w with heap := (w.setCell ⟨g, i, none⟩ v).heap } := rfl
  rw [e, hh]
theorem set5_same {w : World} {g : Nat} {t : TypeId} {v0 v1 v2 v3 v4 : Value} (h : Blk w g t #[v0, v1, v2, v3, v4]) : set5 w g v0 v1 v2 v3 v4 = w := by
  unfold set5
  rw [setCell_same h 0 v0 rfl, setCell_same h 1 v1 rfl, setCell_same h 2 v2 rfl, setCell_same h 3 v3 rfl, setCell_same h 4 v4 rfl]
theorem txRefuse_0 (g : Nat) (k : Wk) (w : World) (h : Box w g k) (hn : k.e = 0) :
    Calls Tryz.prog 65 #[.pointer (some ⟨g, 0, none⟩), .int .i64 0] w fun r w' => r = .returned (.bool false) ∧ w = w' := by
  have he : k.cs[24]? = some (.int .i64 0) := by show some (Value.int .i64 (k.e : Int)) = _; rw [hn]; rfl
  refine (txRefuse_new g 0 k.cs w h he).mono ?_
  rintro r w' ⟨rfl, e, _⟩
  refine ⟨rfl, ?_⟩
  rw [e]
  exact (setCell_same h 24 (.int .i64 ((0 : Nat) : Int)) he).symm
theorem txRefuse_c (g : Nat) (k : Wk) (c : Nat) (hc : c ≠ 0) (w : World) (h : Box w g k) (hn : k.e = 0) :
    Calls Tryz.prog 65 #[.pointer (some ⟨g, 0, none⟩), .int .i64 (c : Int)] w fun r w' => r = .returned (.bool true) ∧ Box w' g { k with e := c } ∧ w.grownBy w' (some g) := by
  refine (txRefuse_new g c k.cs w h (by show some (Value.int .i64 (k.e : Int)) = _; rw [hn]; rfl)).mono ?_
  rintro r w' ⟨rfl, rfl, hb⟩
  exact ⟨by rw [decide_eq_true hc], hb, Wk.stay w 24 _⟩
/-- A struct by value, laid in a box of its own. -/
theorem new_blk (w : World) (cs : Array Value) (t : TypeId) : ∃ V g, w.alloc (.cells cs t) = V ∧ w.heap.size = g ∧ Below w.heap.size w V ∧ Blk V g t cs := ⟨_, _, rfl, rfl, (Below.refl _ w).alloc (Nat.le_refl _) _, Blk.new w t cs⟩
theorem txGoOn_err (g : Nat) (k : Wk) (y : SAt) (T : StL) (c : Nat) (hc : c ≠ 0) (w : World) (h : Box w g k) (hn : k.e = 0) :
    Calls Tryz.prog 122 #[.pointer (some ⟨g, 0, none⟩), stV y T, .int .i64 (c : Int)] w fun r w' => r = .returned (.tuple #[]) ∧ Box w' g { k with e := c } ∧ w.grownBy w' (some g) := by
  obtain ⟨w0, gs, hw0, hgs, b0, hb⟩ := new_blk w (stC y T) 29
  have HR := Lib.hid (txRefuse_c g k c hc w0 (h.bel b0) hn)
  have HB := Lib.hid (Below.only (g := g) b0)
  simp only [stC] at hw0
  clear h b0 hn hb hc
  go_enter Tryz.func122, Tryz.ntmps122
  go_wp2_with fail
  try rw [hw0]
  try rw [hgs]
  refine HR.out.mono ?_
  rintro e w1 ⟨rfl, hx, hg⟩
  have HX := Lib.hid hx
  have HG := Lib.hid (only_trans HB.out hg)
  clear hx hg
  go_wp2_with fail
  go_end0
  exact ⟨rfl, HX.out, HG.out⟩
theorem txGoOn_ok (g : Nat) (k : Wk) (y : SAt) (T : StL) (w : World) (h : Box w g k) (hn : k.e = 0) :
    Calls Tryz.prog 122 #[.pointer (some ⟨g, 0, none⟩), stV y T, .int .i64 0] w fun r w' => r = .returned (.tuple #[]) ∧ Box w' g { k with x := y, S := T } ∧ w.grownBy w' (some g) := by
  obtain ⟨w0, gs, hw0, hgs, b0, hb⟩ := new_blk w (stC y T) 29
  have hx := h.bel b0
  have HR := Lib.hid (txRefuse_0 g k w0 hx hn)
  have HX := Lib.hid (hx.setSt y T)
  have HG := Lib.hid (only_trans (Below.only (g := g) b0) (only_set5 (World.grownBy.refl w0 (some g)) (.slice y.d.ba T.1.1.length y.d.bc) (.slice y.d.wa T.1.2.length y.d.wc) (.slice y.a T.2.1.length y.c) (.int .u32 (T.2.2.1 : Int)) (.int .u32 (T.2.2.2 : Int))))
  have d0 := bx0 hb
  have d1 := bx1 hb
  have d2 := bx2 hb
  have d3 := bx3 hb
  have d4 := bx4 hb
  have hf := fun i => hx.frozen i
  have c0 := hx.c0
  have c1 := hx.c1
  have c2 := hx.c2
  have c3 := hx.c3
  have c4 := hx.c4
  obtain ⟨w2, hw2⟩ : ∃ X, set5 w0 g (.slice y.d.ba T.1.1.length y.d.bc) (.slice y.d.wa T.1.2.length y.d.wc) (.slice y.a T.2.1.length y.c) (.int .u32 (T.2.2.1 : Int)) (.int .u32 (T.2.2.2 : Int)) = X := ⟨_, rfl⟩
  rw [hw2] at HX HG
  simp only [set5] at hw2
  simp only [stC] at hw0
  clear h b0 hn hb hx
  go_enter Tryz.func122, Tryz.ntmps122
  go_wp2_with fail
  try rw [hw0]
  try rw [hgs]
  refine HR.out.mono ?_
  rintro e w1 ⟨rfl, rfl⟩
  go_wp2_with fail
  go_end0
  exact ⟨rfl, HX.out, HG.out⟩
/-- The disk of a work box is another one. -/
theorem Box.setD {w : World} {g : Nat} {k : Wk} (h : Box w g k) (y : DAt) (D : DkL) : Box ((w.setCell ⟨g, 0, none⟩ (.slice y.ba D.1.length y.bc)).setCell ⟨g, 1, none⟩ (.slice y.wa D.2.length y.wc)) g { k with x := { k.x with d := y }, S := (D, k.S.2) } :=
  Blk.set_ (Blk.set_ h 0 _) 1 _
theorem txWrite_ok (g : Nat) (k : Wk) (y : DAt) (D : DkL) (w : World) (h : Box w g k) (hn : k.e = 0) :
    Calls Tryz.prog 72 #[.pointer (some ⟨g, 0, none⟩), dval y D, .int .i64 0] w fun r w' => r = .returned (.tuple #[]) ∧ Box w' g { k with x := { k.x with d := y }, S := (D, k.S.2) } ∧ w.grownBy w' (some g) := by
  obtain ⟨w0, gs, hw0, hgs, b0, hb⟩ := new_blk w #[.slice y.ba D.1.length y.bc, .slice y.wa D.2.length y.wc] 25
  have hx := h.bel b0
  have HR := Lib.hid (txRefuse_0 g k w0 hx hn)
  have HX := Lib.hid (hx.setD y D)
  have HG := Lib.hid (only_trans (Below.only (g := g) b0) (only_two w0 g (.slice y.ba D.1.length y.bc) (.slice y.wa D.2.length y.wc)))
  have d0 : w0.cell? ⟨gs, 0, none⟩ = some (.slice y.ba D.1.length y.bc) := hb.cell 0
  have d1 : w0.cell? ⟨gs, 1, none⟩ = some (.slice y.wa D.2.length y.wc) := hb.cell 1
  have hf := fun i => hx.frozen i
  have c0 := hx.c0
  have c1 := hx.c1
  obtain ⟨w2, hw2⟩ : ∃ X, (w0.setCell ⟨g, 0, none⟩ (.slice y.ba D.1.length y.bc)).setCell ⟨g, 1, none⟩ (.slice y.wa D.2.length y.wc) = X := ⟨_, rfl⟩
  rw [hw2] at HX HG
  clear h b0 hn hb hx
  simp only [dval]
  go_enter Tryz.func72, Tryz.ntmps72
  go_wp2_with fail
  try rw [hw0]
  try rw [hgs]
  refine HR.out.mono ?_
  rintro e w1 ⟨rfl, rfl⟩
  go_wp2_with fail
  go_end0
  exact ⟨rfl, HX.out, HG.out⟩
end Go.Proofs.YtafbidhbmfdlkaaGreatDoor
/-
  txg's work: a block laid, and one of the pool's own.
-/
namespace Go.Proofs.YtafbidhbmfdlkaaGreatDoor
open Go.RowKit Go.Shelf
set_option maxRecDepth 100000

theorem new_box (W : World) (cs : Array Value) (t : TypeId) : ∃ V g, W.alloc (.cells cs t) = V ∧ W.heap.size = g ∧ Below W.heap.size W V ∧ Blk V g t cs := ⟨_, _, rfl, rfl, (Below.refl _ W).alloc (Nat.le_refl _) _, Blk.new W t cs⟩

/-- What lay leaves. -/
def OutLay (g : Nat) (k : Wk) (o : StL × Pt × Nat) (w : World) (r : Ending) (w' : World) : Prop :=
  ∃ y, r = .returned (ptV o.2.1) ∧ Box w' g (if o.2.2 = 0 then { k with x := y, S := o.1 } else { k with e := o.2.2 }) ∧ StP 0 w' y o.1 ∧ w.grownBy w' (some g)
set_option maxHeartbeats 4000000 in
theorem txLay_go (L g : Nat) (k : Wk) (a : Option Addr) (c : Nat) (b : List UInt8) (w : World) (h : Box w g k) (hn : k.e = 0) (hT : StP L w k.x k.S) (ho : OkS k.S) (hL : L ≤ w.heap.size) (hb : Bsl w w.heap.size a b.length c b) (hbi : k.birth < 4294967296) :
    Calls Tryz.prog 117 #[.pointer (some ⟨g, 0, none⟩), .slice a b.length c, .int .i64 0] w (OutLay g k (rawO k.S k.birth 0 0 b) w) := by
  have hmx : Tryz.prog.follows Departure.mixedOrders = true := by kernel_rfl
  have H0 := Lib.hid h
  obtain ⟨w0, gq, hw0, hgq, b0, hb0⟩ := new_blk w ptZ 31
  have hlt := h.lt
  have hx0 := h.bel b0
  have HR := Lib.hid (txRefuse_0 g k w0 hx0 hn)
  have HQ := Lib.hid hb0
  have HT := Lib.hid (hT.bel b0)
  have HB := Lib.hid b0
  have HBL := Lib.hid (hb.step b0)
  have HN := Lib.hid hn
  have HLHQ := Lib.hid (show w.heap.size ≤ gq by omega)
  have HGQ := Lib.hid (show gq ≠ g by omega)
  have HLW := Lib.hid hL
  obtain ⟨T, ⟨qa, qb, qi, qt, qs⟩, z, hq⟩ : ∃ T q z, rawO k.S k.birth 0 0 b = (T, q, z) := ⟨_, _, _, rfl⟩
  have HLC : Hid (∀ W : World, StP L W k.x k.S → Bsl W W.heap.size a b.length c b → L ≤ W.heap.size → Calls Tryz.prog 187 #[stV k.x k.S, .int .u32 (k.birth : Int), .slice a b.length c] W (NewSP (T, (qa, qb, qi, qt, qs), z) W)) :=
    Lib.hid (fun W h1 h2 h3 => by rw [← hq]; exact stLay_any L k.x k.S k.birth a c b W h1 h2 ho h3 hbi)
  rw [hq]
  simp only [ptZ] at hw0
  clear h hx0 hb0 b0 hT hb hn ho hbi hL hq hlt
  go_enter Tryz.func117, Tryz.ntmps117
  go_wp2_with fail
  try rw [hw0]
  try rw [hgq]
  refine HR.out.mono ?_
  rintro e w1 ⟨rfl, rfl⟩
  go_wp2_with fail
  clear hw0 HR
  obtain ⟨wd, hwd⟩ : ∃ wd, w0.drew = wd := ⟨_, rfl⟩
  have bq : Below w0.heap.size w0 wd := by rw [← hwd]; exact (Below.refl _ w0).drew
  replace HQ := Lib.hid (HQ.out.below bq HQ.out.lt)
  replace HT := Lib.hid (HT.out.bel bq)
  replace HB := Lib.hid (HB.out.trans (bq.mono HB.out.size))
  replace HBL := Lib.hid (HBL.out.step bq)
  refine wpI_start (Below w.heap.size w) [0, 1, 2, 3, 4, 5, 6, 7, 8, 9, 10, 11, 12, 13, 14, 15, 16, 17, 18] hmx rfl hwd ?_
  clear hwd bq
  iterate 10 (
    refine wpI_read (v := ?_) HB.out rfl (by kernel_rfl) (by kernel_rfl) (by kernel_rfl) (fun _ _ _ h => h) (.inl ⟨by rfl, ?_⟩) ?_
    rotate_left
    · intro X hX
      have hk := H0.out.below hX H0.out.lt
      have a0 := hk.c0
      have a1 := hk.c1
      have a2 := hk.c2
      have a3 := hk.c3
      have a4 := hk.c4
      have a19 := hk.c19
      clear hk
      clear hX
      go_simp
      with_reducible rfl
    try simp only [Act.put, List.setIfInBounds_toArray, List.set_cons_zero, List.set_cons_succ])
  refine wpI_turn [10, 15, 11, 12, 13, 14, 16, 17, 18] rfl ?_
  refine wpI_fork rfl rfl (by kernel_rfl) (fun K hK => ?_) (fun K hK => ?_)
  go_simp
  have HC := Lib.hid (HLC.out wd HT.out HBL.out (Nat.le_trans HLW.out HB.out.size))
  refine HC.out.mono ?_
  rintro ev v1 ⟨y, rfl, hy, _, b9⟩
  replace HQ := Lib.hid (HQ.out.below b9 HQ.out.lt)
  replace HT := Lib.hid (HT.out.bel b9)
  replace HB := Lib.hid (HB.out.trans (b9.mono HB.out.size))
  replace HBL := Lib.hid (HBL.out.step b9)
  have HY := Lib.hid hy
  refine hK _ _ HB.out ?_
  clear hK K b9 HC hy
  simp only [stV, ptV]
  try simp only [Act.put, List.setIfInBounds_toArray, List.set_cons_zero, List.set_cons_succ]
  refine wpI_turn [11, 12, 13, 14, 15, 16, 17, 18] rfl ?_
  iterate 4 (
    refine wpI_read (v := ?_) HB.out rfl (by kernel_rfl) (by kernel_rfl) (by kernel_rfl) (fun _ _ _ h => h) (.inl ⟨by rfl, ?_⟩) ?_
    rotate_left
    · intro X hX
      clear hX
      go_simp
      with_reducible rfl
    try simp only [Act.put, List.setIfInBounds_toArray, List.set_cons_zero, List.set_cons_succ])
  refine wpI_turn [15, 16, 17, 18] rfl ?_
  refine wpI_lone rfl (by kernel_rfl) (fun K hK => ?_)
  go_simp
  obtain ⟨v2, gA, hn, hg, bq, xq⟩ := new_box v1 #[.slice none 0 0, .slice none 0 0, .slice none 0 0, .int .u32 0, .int .u32 0] 29
  have HLHA := Lib.hid (show w.heap.size ≤ gA from hg ▸ HB.out.size)
  rw [hn, hg]
  replace HQ := Lib.hid (HQ.out.below bq HQ.out.lt)
  replace HB := Lib.hid (HB.out.trans (bq.mono HB.out.size))
  replace HBL := Lib.hid (HBL.out.step bq)
  replace HY := Lib.hid (HY.out.bel bq)
  have HA := Lib.hid xq
  refine hK _ _ HB.out ?_
  clear hK K hn hg xq bq
  try simp only [Act.put, List.setIfInBounds_toArray, List.set_cons_zero, List.set_cons_succ]
  rotate_left
  go_simp
  obtain ⟨v1, gA, hn, hg, bq, xq⟩ := new_box wd #[.slice none 0 0, .slice none 0 0, .slice none 0 0, .int .u32 0, .int .u32 0] 29
  have HLHA := Lib.hid (show w.heap.size ≤ gA from hg ▸ HB.out.size)
  rw [hn, hg]
  replace HQ := Lib.hid (HQ.out.below bq HQ.out.lt)
  replace HT := Lib.hid (HT.out.bel bq)
  replace HB := Lib.hid (HB.out.trans (bq.mono HB.out.size))
  replace HBL := Lib.hid (HBL.out.step bq)
  have HA := Lib.hid xq
  refine hK _ _ HB.out ?_
  clear hK K hn hg xq bq
  try simp only [Act.put, List.setIfInBounds_toArray, List.set_cons_zero, List.set_cons_succ]
  refine wpI_turn [10, 11, 12, 13, 14, 16, 17, 18] rfl ?_
  refine wpI_lone rfl (by kernel_rfl) (fun K hK => ?_)
  go_simp
  have HC := Lib.hid (HLC.out v1 HT.out HBL.out (Nat.le_trans HLW.out HB.out.size))
  refine HC.out.mono ?_
  rintro ev v2 ⟨y, rfl, hy, _, b9⟩
  replace HQ := Lib.hid (HQ.out.below b9 HQ.out.lt)
  replace HT := Lib.hid (HT.out.bel b9)
  replace HB := Lib.hid (HB.out.trans (b9.mono HB.out.size))
  replace HBL := Lib.hid (HBL.out.step b9)
  replace HA := Lib.hid (HA.out.below b9 HA.out.lt)
  have HY := Lib.hid hy
  refine hK _ _ HB.out ?_
  clear hK K b9 HC hy
  simp only [stV, ptV]
  try simp only [Act.put, List.setIfInBounds_toArray, List.set_cons_zero, List.set_cons_succ]
  refine wpI_turn [11, 12, 13, 14, 16, 17, 18] rfl ?_
  iterate 4 (
    refine wpI_read (v := ?_) HB.out rfl (by kernel_rfl) (by kernel_rfl) (by kernel_rfl) (fun _ _ _ h => h) (.inl ⟨by rfl, ?_⟩) ?_
    rotate_left
    · intro X hX
      clear hX
      go_simp
      with_reducible rfl
    try simp only [Act.put, List.setIfInBounds_toArray, List.set_cons_zero, List.set_cons_succ])
  rotate_left
  all_goals (
    have HNE := Lib.hid (show gA ≠ gq from HA.out.ne HQ.out (by decide))
    refine wpI_lone rfl (by kernel_rfl) (fun K hK => ?_)
    have m0 := stZ0 HA.out
    have m1 := stZ1 HA.out
    have m2 := stZ2 HA.out
    have m3 := stZ3 HA.out
    have m4 := stZ4 HA.out
    have hfz := fun i => HA.out.frozen i
    obtain ⟨xa, ka, ba⟩ := box_five (L := 0) HA.out (by decide) (Nat.zero_le _) HB.out HLHA.out (.slice y.d.ba T.1.1.length y.d.bc) (.slice y.d.wa T.1.2.length y.d.wc) (.slice y.a T.2.1.length y.c) (.int .u32 (T.2.2.1 : Int)) (.int .u32 (T.2.2.2 : Int))
    have yHQ := far5_bl (g := gA) HQ.out HNE.out.symm (.slice y.d.ba T.1.1.length y.d.bc) (.slice y.d.wa T.1.2.length y.d.wc) (.slice y.a T.2.1.length y.c) (.int .u32 (T.2.2.1 : Int)) (.int .u32 (T.2.2.2 : Int))
    obtain ⟨v3, hn⟩ : ∃ X, set5 v2 gA (.slice y.d.ba T.1.1.length y.d.bc) (.slice y.d.wa T.1.2.length y.d.wc) (.slice y.a T.2.1.length y.c) (.int .u32 (T.2.2.1 : Int)) (.int .u32 (T.2.2.2 : Int)) = X := ⟨_, rfl⟩
    rw [hn] at xa ka ba yHQ
    simp only [set5] at hn
    go_simp
    replace HB := Lib.hid ba
    replace HA := Lib.hid xa
    replace HQ := Lib.hid yHQ
    replace HY := Lib.hid (HY.out.step ka)
    refine hK _ _ HB.out ?_
    clear hK K hn xa ka ba hfz m0 m1 m2 m3 m4 yHQ
    try simp only [Act.put, List.setIfInBounds_toArray, List.set_cons_zero, List.set_cons_succ]
    refine wpI_lone rfl (by kernel_rfl) (fun K hK => ?_)
    have m0 := ptZ0 HQ.out
    have m1 := ptZ1 HQ.out
    have m2 := ptZ2 HQ.out
    have m3 := ptZ3 HQ.out
    have m4 := ptZ4 HQ.out
    have hfz := fun i => HQ.out.frozen i
    obtain ⟨xa, ka, ba⟩ := box_five (L := 0) HQ.out (by decide) (Nat.zero_le _) HB.out HLHQ.out (.int .i64 qa) (.int .u32 (qb : Int)) (.int .u32 (qi : Int)) (.int .u32 (qt : Int)) (.int .u32 (qs : Int))
    have yHA := far5_bl (g := gq) HA.out HNE.out (.int .i64 qa) (.int .u32 (qb : Int)) (.int .u32 (qi : Int)) (.int .u32 (qt : Int)) (.int .u32 (qs : Int))
    obtain ⟨v4, hn⟩ : ∃ X, set5 v3 gq (.int .i64 qa) (.int .u32 (qb : Int)) (.int .u32 (qi : Int)) (.int .u32 (qt : Int)) (.int .u32 (qs : Int)) = X := ⟨_, rfl⟩
    rw [hn] at xa ka ba yHA
    simp only [set5] at hn
    go_simp
    replace HB := Lib.hid ba
    replace HQ := Lib.hid xa
    replace HA := Lib.hid yHA
    replace HY := Lib.hid (HY.out.step ka)
    refine hK _ _ HB.out ?_
    clear hK K hn xa ka ba hfz m0 m1 m2 m3 m4 yHA
    try simp only [Act.put, List.setIfInBounds_toArray, List.set_cons_zero, List.set_cons_succ]
    iterate 1 (
      refine wpI_read (v := ?_) HB.out rfl (by kernel_rfl) (by kernel_rfl) (by kernel_rfl) (fun _ _ _ h => h) (.inl ⟨by rfl, ?_⟩) ?_
      rotate_left
      · intro X hX
        clear hX
        go_simp
        with_reducible rfl
      try simp only [Act.put, List.setIfInBounds_toArray, List.set_cons_zero, List.set_cons_succ])
    refine wpI_done (by kernel_rfl) ?_
    have HBX := Lib.hid (H0.out.below HB.out H0.out.lt)
    have d0 := bx0 HA.out
    have d1 := bx1 HA.out
    have d2 := bx2 HA.out
    have d3 := bx3 HA.out
    have d4 := bx4 HA.out
    by_cases hz : z = 0
    · subst hz
      have HGO := Lib.hid (txGoOn_ok g k y T v4 HBX.out HN.out)
      go_wp2_with fail
      refine HGO.out.mono ?_
      rintro e w9 ⟨rfl, hbx, hgr⟩
      have hq9 := HQ.out.grown hgr (fun e => HGQ.out (Option.some.inj e))
      have e0 := bx0 hq9
      have e1 := bx1 hq9
      have e2 := bx2 hq9
      have e3 := bx3 hq9
      have e4 := bx4 hq9
      have HY9 := Lib.hid (HY.out.step (Keeps.of_box hgr HBX.out (by decide) (Nat.zero_le _)))
      have HG9 := Lib.hid (only_trans (Below.only HB.out) hgr)
      have HX9 := Lib.hid hbx
      have hs5 := set5_same hq9
      have hf9 := fun i => hq9.frozen i
      simp only [set5] at hs5
      clear hgr hbx hq9 d0 d1 d2 d3 d4
      go_wp2_with fail
      try rw [hs5]
      refine bodyPost_ret (v := .agg #[.int .i64 qa, .int .u32 (qb : Int), .int .u32 (qi : Int), .int .u32 (qt : Int), .int .u32 (qs : Int)]) (by simp [results, Tryz.f117, go_sem, e0, e1, e2, e3, e4]) rfl ?_
      exact ⟨y, rfl, HX9.out, HY9.out, HG9.out⟩
    · have HZ := Lib.hid hz
      have HGO := Lib.hid (txGoOn_err g k y T z hz v4 HBX.out HN.out)
      clear hz
      go_wp2_with fail
      refine HGO.out.mono ?_
      rintro e w9 ⟨rfl, hbx, hgr⟩
      have hq9 := HQ.out.grown hgr (fun e => HGQ.out (Option.some.inj e))
      have e0 := bx0 hq9
      have e1 := bx1 hq9
      have e2 := bx2 hq9
      have e3 := bx3 hq9
      have e4 := bx4 hq9
      have HY9 := Lib.hid (HY.out.step (Keeps.of_box hgr HBX.out (by decide) (Nat.zero_le _)))
      have HG9 := Lib.hid (only_trans (Below.only HB.out) hgr)
      have HX9 := Lib.hid hbx
      have hs5 := set5_same hq9
      have hf9 := fun i => hq9.frozen i
      simp only [set5] at hs5
      clear hgr hbx hq9 d0 d1 d2 d3 d4
      go_wp2_with fail
      try rw [hs5]
      refine bodyPost_ret (v := .agg #[.int .i64 qa, .int .u32 (qb : Int), .int .u32 (qi : Int), .int .u32 (qt : Int), .int .u32 (qs : Int)]) (by simp [results, Tryz.f117, go_sem, e0, e1, e2, e3, e4]) rfl ?_
      refine ⟨y, rfl, ?_, HY9.out, HG9.out⟩
      rw [if_neg HZ.out]
      exact HX9.out)
end Go.Proofs.YtafbidhbmfdlkaaGreatDoor
/-
  Slices of a slice of pointers: its beginning, what is left of it, a window.
-/
namespace Go.Proofs.YtafbidhbmfdlkaaGreatDoor
open Go.RowKit Go.Shelf
set_option maxRecDepth 100000

theorem Pts.take {w : World} {B n c k : Nat} {a : Option Addr} {L : List Pt} (h : Pts w B a n c L) (hk : k ≤ n) : Pts w B a k c (L.take k) := by
  obtain ⟨h1, h2, h3, h4, h5⟩ := h
  refine ⟨by rw [List.length_take]; omega, by omega, h3, h4, fun hl => ?_⟩
  obtain ⟨b, off, e, hlt, hc⟩ := h5 (by omega)
  refine ⟨b, off, e, hlt, fun i hi => ?_⟩
  rw [List.length_take] at hi
  have := hc i (by omega)
  rw [List.getElem_take]
  exact this
/-- l[k:k+m:k+m]. -/
theorem Pts.win {w : World} {B b off n c : Nat} {L : List Pt} (h : Pts w B (some ⟨b, off, none⟩) n c L) (k m : Nat) (hkm : k + m ≤ n) : Pts w B (some ⟨b, off + k * 5, none⟩) m m ((L.drop k).take m) := by
  obtain ⟨h1, h2, h3, h4, h5⟩ := h
  refine ⟨by rw [List.length_take, List.length_drop]; omega, Nat.le_refl _, by omega, fun e => (by cases e), fun hl => ?_⟩
  obtain ⟨b', off', e, hlt, hcc⟩ := h5 (by omega)
  cases e
  refine ⟨b, off + k * 5, rfl, hlt, fun i hi => ?_⟩
  rw [List.length_take, List.length_drop] at hi
  have := hcc (k + i) (by omega)
  rw [List.getElem_take, List.getElem_drop]
  refine ⟨this.1, fun j u hu => ?_⟩
  have := this.2 j u hu
  rwa [show off + (k + i) * 5 + j = off + k * 5 + i * 5 + j by omega] at this
end Go.Proofs.YtafbidhbmfdlkaaGreatDoor
/-
  Store's own: Look, Open; what they answer is new memory, and nothing that was there is written.
-/
namespace Go.Proofs.YtafbidhbmfdlkaaGreatDoor
open Go.RowKit Go.Shelf
set_option maxRecDepth 100000

theorem wrongPO_no {S : StL} {p : Pt} (h : wrongPO S p = 0) : MayS S ∧ MayP p ∧ p ≠ p0 := by
  unfold wrongPO at h
  split at h
  · rename_i hm
    split at h
    · cases h
    · exact ⟨hm.1, hm.2, by assumption⟩
  · cases h
theorem lookO_wrong {S : StL} {p : Pt} {z : Nat} (h : wrongPO S p = z) (hz : z ≠ 0) : lookO S p = ([], z) := by
  unfold wrongPO at h
  unfold lookO
  split at h
  · rw [if_pos (by assumption)]
    split at h
    · unfold seenO
      rw [if_pos (by assumption), ← h]
    · exact absurd h.symm hz
  · rw [if_neg (by assumption), ← h]
set_option maxHeartbeats 4000000 in
theorem stLook_all (L : Nat) (x : SAt) (S : StL) (p : Pt) (w : World) (h : StP L w x S) (_hwp : WfP p) (_hL : L ≤ w.heap.size) : Calls Tryz.prog 208 #[stV x S, ptV p] w (OutBE (lookO S p) w) := by
  have hmx : Tryz.prog.follows Departure.mixedOrders = true := by kernel_rfl
  obtain ⟨w0, hw0, b0, z0, x0, q0⟩ := two_al w (stC x S) (ptA p) 29 31
  obtain ⟨g, hg⟩ : ∃ g, w.heap.size = g := ⟨_, rfl⟩
  obtain ⟨g1, hg1⟩ : ∃ g1, g + 1 = g1 := ⟨_, rfl⟩
  have h0 := h.bel b0
  rw [hg] at x0 q0 z0 b0
  rw [hg1] at q0
  have c0 := stC0 x0
  have c1 := stC1 x0
  have c2 := stC2 x0
  have c3 := stC3 x0
  have c4 := stC4 x0
  have d0 := bx0 q0
  have d1 := bx1 q0
  have d2 := bx2 q0
  have d3 := bx3 q0
  have d4 := bx4 q0
  have HX := Lib.hid x0
  have HQ := Lib.hid q0
  have HB := Lib.hid b0
  have HS := Lib.hid h0
  have HG := Lib.hid hg
  have HW := Lib.hid (show g ≤ w0.heap.size by omega)
  simp only [stC, ptA] at hw0
  clear h h0 x0 q0 b0 z0
  obtain ⟨z, hz⟩ : ∃ z, wrongPO S p = z := ⟨_, rfl⟩
  have HWR := Lib.hid (stWrongPtr_any L x S p w0 HS.out z hz)
  obtain ⟨o, ho⟩ : ∃ o, lookO S p = o := ⟨_, rfl⟩
  rw [ho]
  by_cases hz0 : z = 0
  · subst hz0
    obtain ⟨hm, hmp, hp⟩ := wrongPO_no hz
    rw [lookO_may hm hmp] at ho
    unfold seenO at ho
    rw [if_neg hp] at ho
    obtain ⟨k, hk, k12, k256⟩ := mayP_at hmp hp
    have hkt : p.1.toNat = k := by omega
    rw [hkt] at ho
    have hln := leftD_length hm.1 (fun _ => true) k256
    obtain ⟨B, hBk⟩ : ∃ B, seenS S k = B := ⟨_, rfl⟩
    have hln2 : B.length = 256 := by rw [← hBk]; exact hln
    rw [hBk] at ho
    have HOO := Lib.hid ho
    have hrd : readO S.1 (k : Int) = (B, 0) := by
      unfold readO
      rw [if_pos hm.1, if_pos (by omega), Int.toNat_natCast, ← hBk]
      rfl
    have hsn : ∀ W, StP L W x S → Calls Tryz.prog 39 #[dval x.d S.1, .int .i64 (k : Int)] W (ToldL (B, 0) W) := fun W hs => by
      have := dRead_any x.d S.1 (k : Int) W hs.now.1
      rw [hrd] at this
      exact this
    simp only [dval] at hsn
    have HSN := Lib.hid hsn
    have HL2 := Lib.hid hln2
    have HKK := Lib.hid hk
    clear hm hmp hp hz hk hkt hln hsn hln2 hBk ho hrd
    go_enter Tryz.func208, Tryz.ntmps208
    go_wp2_with fail
    clear c0 c1 c2 c3 c4 d0 d1 d2 d3 d4 hw0
    refine HWR.out.mono ?_
    rintro e w1 ⟨rfl, b1⟩
    replace HX := Lib.hid (HX.out.below b1 HX.out.lt)
    replace HQ := Lib.hid (HQ.out.below b1 HQ.out.lt)
    replace HS := Lib.hid (HS.out.bel b1)
    replace HB := Lib.hid (HB.out.trans (b1.mono HW.out))
    replace HW := Lib.hid (Nat.le_trans HW.out b1.size)
    clear b1 HWR
    have c0 := stC0 HX.out
    have c1 := stC1 HX.out
    have d0 := bx0 HQ.out
    rw [HKK.out] at d0
    go_wp2_with fail
    clear c0 c1 d0
    refine (HSN.out w1 HS.out).mono ?_
    rintro e w2 ⟨v, rfl, ho, b2⟩
    simp only at ho
    rw [HL2.out] at ho
    obtain ⟨ab, cb, rfl⟩ := own_slice ho
    have HO := Lib.hid (own_mono ho HW.out)
    replace HX := Lib.hid (HX.out.below b2 HX.out.lt)
    replace HQ := Lib.hid (HQ.out.below b2 HQ.out.lt)
    replace HS := Lib.hid (HS.out.bel b2)
    replace HB := Lib.hid (HB.out.trans (b2.mono HW.out))
    replace HW := Lib.hid (Nat.le_trans HW.out b2.size)
    clear b2 ho HSN
    go_wp2_with fail
    obtain ⟨wd, hwd⟩ : ∃ wd, w2.drew = wd := ⟨_, rfl⟩
    have bb : Below w2.heap.size w2 wd := by rw [← hwd]; exact (Below.refl _ w2).drew
    replace HO := Lib.hid (own_below HO.out bb)
    replace HX := Lib.hid (HX.out.below bb HX.out.lt)
    replace HQ := Lib.hid (HQ.out.below bb HQ.out.lt)
    replace HS := Lib.hid (HS.out.bel bb)
    replace HB := Lib.hid (HB.out.trans (bb.mono HW.out))
    replace HW := Lib.hid (Nat.le_trans HW.out bb.size)
    clear bb
    have hsu := sum_any ab 256 cb B wd (own_bsl HO.out) (by omega)
    rw [show (fourW B).a.toNat = sumOf B from rfl] at hsu
    have hc4 := bx4 HQ.out
    obtain ⟨u, hu⟩ : ∃ u : Nat, p.2.2.2.2 = u := ⟨_, rfl⟩
    obtain ⟨m, hmm⟩ : ∃ m : Nat, sumOf B = m := ⟨_, rfl⟩
    rw [hu] at hc4
    rw [hmm] at hsu
    have HSU := Lib.hid hsu
    have HO5 := HOO.out
    rw [hu, hmm] at HO5
    refine wpI_start (fun X => X.cell? ⟨g1, 4, none⟩ = some (.int .u32 (u : Int))) [0, 2, 3, 1, 4] hmx rfl hwd ?_
    clear hu hmm hwd hsu
    have HO5' := Lib.hid HO5
    clear HO5
    iterate 3 (
      refine wpI_read (v := ?_) hc4 rfl (by kernel_rfl) (by kernel_rfl) (by kernel_rfl) (fun _ _ _ h => h) (.inl ⟨by rfl, ?_⟩) ?_
      rotate_left
      · intro X hX
        go_simp
        with_reducible rfl
      try simp only [Act.put, List.setIfInBounds_toArray, List.set_cons_zero, List.set_cons_succ])
    refine wpI_lone rfl (by kernel_rfl) (fun K hK => ?_)
    go_simp
    refine HSU.out.mono ?_
    rintro ev w3 ⟨rfl, b3⟩
    have hc5 : w3.cell? ⟨g1, 4, none⟩ = some (.int .u32 (u : Int)) := (b3.cell (p := ⟨g1, 4, none⟩) HQ.out.lt).trans hc4
    replace HO := Lib.hid (own_below HO.out b3)
    replace HX := Lib.hid (HX.out.below b3 HX.out.lt)
    replace HQ := Lib.hid (HQ.out.below b3 HQ.out.lt)
    replace HS := Lib.hid (HS.out.bel b3)
    replace HB := Lib.hid (HB.out.trans (b3.mono HW.out))
    replace HW := Lib.hid (Nat.le_trans HW.out b3.size)
    refine hK _ _ hc5 ?_
    clear hK K hc4 b3 HSU
    try simp only [Act.put, List.setIfInBounds_toArray, List.set_cons_zero, List.set_cons_succ]
    by_cases hmu : m = u
    · have HO5 := HO5'.out
      rw [if_pos hmu] at HO5
      subst HO5
      have he : ((m : Int) != (u : Int)) = false := by simp; omega
      clear hmu
      iterate 1 (
        refine wpI_read (v := ?_) hc5 rfl (by kernel_rfl) (by kernel_rfl) (by kernel_rfl) (fun _ _ _ h => h) (.inl ⟨by rfl, ?_⟩) ?_
        rotate_left
        · intro X hX
          go_simp
          with_reducible rfl
        try simp only [Act.put, List.setIfInBounds_toArray, List.set_cons_zero, List.set_cons_succ])
      refine wpI_done (by kernel_rfl) ?_
      clear he hc5
      go_wp2_with fail
      go_ret2
      exact ⟨_, rfl, by rw [HG.out, HL2.out]; exact HO.out, by rw [HG.out]; exact HB.out⟩
    · have HO5 := HO5'.out
      rw [if_neg hmu] at HO5
      subst HO5
      have he : ((m : Int) != (u : Int)) = true := by simp; omega
      clear hmu
      iterate 1 (
        refine wpI_read (v := ?_) hc5 rfl (by kernel_rfl) (by kernel_rfl) (by kernel_rfl) (fun _ _ _ h => h) (.inl ⟨by rfl, ?_⟩) ?_
        rotate_left
        · intro X hX
          go_simp
          with_reducible rfl
        try simp only [Act.put, List.setIfInBounds_toArray, List.set_cons_zero, List.set_cons_succ])
      refine wpI_done (by kernel_rfl) ?_
      clear he hc5
      go_wp2_with fail
      go_ret2
      exact outBE_no 130 (by rw [HG.out]; exact HB.out)
  · rw [lookO_wrong hz hz0] at ho
    subst ho
    have e1 : ((z : Int) != 0) = true := by simp; omega
    have e2 : ¬ ((z : Int) = 0) := by omega
    clear hz hz0
    go_enter Tryz.func208, Tryz.ntmps208
    go_wp2_with fail
    clear c0 c1 c2 c3 c4 d0 d1 d2 d3 d4 hw0
    refine HWR.out.mono ?_
    rintro e w1 ⟨rfl, b1⟩
    replace HX := Lib.hid (HX.out.below b1 HX.out.lt)
    replace HQ := Lib.hid (HQ.out.below b1 HQ.out.lt)
    replace HS := Lib.hid (HS.out.bel b1)
    replace HB := Lib.hid (HB.out.trans (b1.mono HW.out))
    replace HW := Lib.hid (Nat.le_trans HW.out b1.size)
    clear b1 HWR
    go_wp2_with fail
    go_ret2
    exact outBE_no z (by rw [HG.out]; exact HB.out)
end Go.Proofs.YtafbidhbmfdlkaaGreatDoor
/-
  Two rows of pointers of the call's own that share nothing; one grows.
-/
namespace Go.Proofs.YtafbidhbmfdlkaaGreatDoor
open Go.RowKit Go.Shelf
set_option maxRecDepth 100000

/-- Two rows share no block. -/
def Dis (v u : Value) : Prop := ∀ k, v.ownBlock = some k → u.ownBlock ≠ some k
theorem Dis.symm {v u : Value} (h : Dis v u) : Dis u v := fun k h1 h2 => h k h2 h1
end Go.Proofs.YtafbidhbmfdlkaaGreatDoor
/-
  dead's own closure in Lay: one row more is laid, or nothing is done.
-/
namespace Go.Proofs.YtafbidhbmfdlkaaGreatDoor
open Go Go.RowKit Go.Shelf
set_option maxRecDepth 100000

/-- Of the blocks below N only those of X have turned. -/
structure Fz (N : Nat) (X : Nat → Prop) (w w' : World) : Prop where
  os : w'.os = w.os
  tape : w'.tape = w.tape
  output : w'.output = w.output
  size : w.heap.size ≤ w'.heap.size
  same : ∀ k, k < N → ¬ X k → w'.heap[k]? = w.heap[k]?
section
variable {N : Nat} {X : Nat → Prop} {w w' w2 : World}
theorem Fz.trans (h : Fz N X w w') (k : Fz N X w' w2) : Fz N X w w2 :=
  ⟨k.os.trans h.os, k.tape.trans h.tape, k.output.trans h.output, Nat.le_trans h.size k.size, fun i hi hx => (k.same i hi hx).trans (h.same i hi hx)⟩
theorem Fz.of_below {B : Nat} (h : Below B w w') (hN : N ≤ B) : Fz N X w w' := ⟨h.os, h.tape, h.output, h.size, fun k hk _ => h.block k (by omega)⟩
theorem Fz.of_grown {row : Option Nat} (h : w.grownBy w' row) (hN : N ≤ w.heap.size) (hr : ∀ k, row = some k → X k ∨ N ≤ k) : Fz N X w w' :=
  ⟨h.os, h.tape, h.output, h.size, fun k hk hx => h.block k (by omega) fun e => (hr k e.symm).elim hx (by omega)⟩
theorem Fz.below {G : Nat} (h : Fz N X w w') (hG : G ≤ N) (hX : ∀ k, X k → G ≤ k) : Below G w w' :=
  ⟨h.os, h.tape, h.output, h.size, fun k hk => h.same k (by omega) fun hx => by have := hX k hx; omega⟩
theorem Fz.blk {g : Nat} {t : TypeId} {cs : Array Value} (h : Fz N X w w') (hb : Blk w g t cs) (hg : g < N) (hx : ¬ X g) : Blk w' g t cs := (h.same g hg hx).trans hb
theorem Fz.own {B n sz : Nat} {e : TypeId} {v : Value} {xs : List Value} (h : Fz N X w w') (hv : w.ownsRow B e sz v n xs) (hN : w.heap.size ≤ N) (hx : ∀ k, v.ownBlock = some k → ¬ X k) : w'.ownsRow B e sz v n xs := by
  obtain ⟨h1, h2 | ⟨g, cap, cur, rfl, h3, h4, h5⟩⟩ := hv
  · exact ⟨h1, .inl h2⟩
  · exact ⟨h1, .inr ⟨g, cap, cur, rfl, h3, (h.same g (Nat.lt_of_lt_of_le (Array.getElem?_eq_some_iff.1 h4).1 hN) (hx g (by simp [Value.ownBlock]))).trans h4, h5⟩⟩
end
theorem blk_ne {w : World} {a b : Nat} {s t : TypeId} {ca cb : Array Value} (ha : Blk w a s ca) (hb : Blk w b t cb) (h : s ≠ t) : a ≠ b := fun e => by
  subst e
  unfold Blk at ha hb
  rw [ha] at hb
  injection hb with hb
  injection hb with _ hb
  exact h hb
theorem own_ty {w : World} {B n sz g : Nat} {e t : TypeId} {v : Value} {xs : List Value} {cs : Array Value} (hv : w.ownsRow B e sz v n xs) (hb : Blk w g t cs) (h : e ≠ t) : ∀ k, v.ownBlock = some k → k ≠ g := fun k hk => by
  obtain ⟨_, ⟨rfl, _⟩ | ⟨g', cap, cur, rfl, _, h4, _⟩⟩ := hv
  · simp [Value.ownBlock] at hk
  · have : g' = k := by simpa [Value.ownBlock] using hk
    subst this
    exact blk_ne h4 hb h
/-- Rows that a store's bytes lie in. -/
def rowB (t : TypeId) : Bool := t == 5 || t == 26 || t == 53
/-- Each of them stays. -/
structure Kp (w w' : World) : Prop where
  size : w.heap.size ≤ w'.heap.size
  row : ∀ b t cs, Blk w b t cs → rowB t = true → Blk w' b t cs
theorem Kp.trans {a b c : World} (h : Kp a b) (k : Kp b c) : Kp a c := ⟨Nat.le_trans h.size k.size, fun i t cs hb ht => k.row i t cs (h.row i t cs hb ht) ht⟩
theorem Kp.of_box {w w' : World} {g : Nat} {t : TypeId} {cs : Array Value} (hg : w.grownBy w' (some g)) (hb : Blk w g t cs) (ht : rowB t = false) : Kp w w' :=
  ⟨hg.size, fun b t' cs' hb' ht' => hb'.grown hg (fun e => by
    obtain rfl : b = g := Option.some.inj e
    have he : some (Obj.cells cs t (0, 0)) = some (Obj.cells cs' t' (0, 0)) := (show w.heap[b]? = _ from hb).symm.trans (show w.heap[b]? = _ from hb')
    cases he
    rw [ht] at ht'
    cases ht')⟩
theorem row_ok {R : List Pt} (h16 : R.length ≤ 16) (hR : ∀ q ∈ R, MayP q) : rowO R = (rowTo R R.length, 0) := by
  unfold rowO
  rw [if_neg (by omega), if_pos hR]
end Go.Proofs.YtafbidhbmfdlkaaGreatDoor
/-
  append of numbers to a row of the call's own, among operations that may come in any order; what such an append leaves.
-/
namespace Go.Proofs.YtafbidhbmfdlkaaGreatDoor
open Go.RowKit Go.Shelf
set_option maxRecDepth 100000

section
open Go
variable {w : World} {o : Oper} {a : Act} {K : Act → World → Prop} {Q : Exit → Act → World → Prop}
theorem wp_app_nums (s x : Operand)
    (ho : o.op = .call { callee := .builtin .append, args := #[s, x], argTypes := #[32, 32] })
    (base : Nat) (v : Value) (n : Nat) (xs : List Nat) (hs : a.eval s = v) (hown : w.ownsRow base 3 1 v n (valsN xs))
    (B : Nat) (ad : Addr) (m c : Nat) (news : List Nat) (hx : a.eval x = .slice (some ad) m c) (hr : Nsl w B (some ad) m c news) (hm : 0 < m)
    (hnm : n + m ≤ 100000) (hbase : base ≤ w.heap.size)
    (h : ∀ v' w', w'.ownsRow base 3 1 v' (n + m) (valsN (xs ++ news)) → w.grownBy w' v.ownBlock → K (a.put o.dst v') w') : o.wp Tryz.prog a w K Q := by
  obtain ⟨i0, hi, hz0, hz1, hz2⟩ := info_parts infoInt
  obtain ⟨h1, h2, h3, h4, h5⟩ := hr
  refine wp_append_own w s x 32 ho base 3 i0 (.int .i64 0) 1 8 Tryz.underlying32 hi hz0 hz1 hz2 rfl (by decide) v n (valsN xs) hs hown ad m c (valsN news) hx (by simp [valsN, h1]) (fun j u hu => ?_) (fun u hu => ?_) (by unfold maxLen; omega) (by omega) hbase ?_
  · obtain ⟨hj, rfl⟩ := valsN_get hu
    obtain ⟨b, off, e, _, hc⟩ := h5 (by omega)
    cases e
    rw [← hc j hj]
    congr 1
    unfold Addr.add
    split <;> simp_all
  · obtain ⟨y, _, rfl⟩ := List.mem_map.1 hu
    rfl
  · intro v' w' h2 h3 _
    exact h v' w' (by rw [← valsN_append]; exact h2) h3
end
/-- Behind an append to a row of numbers: what lasts lasts. -/
theorem nums_keeps3 {L B n : Nat} {w w' : World} {v : Value} {xs : List Value} (h : w.ownsRow B 3 1 v n xs) (hg : w.grownBy w' v.ownBlock) (hL : L ≤ B) : Keeps3 L w w' := by
  obtain ⟨_, ⟨rfl, _⟩ | ⟨g, cap, cur, rfl, h3, h4, _⟩⟩ := h
  · refine ⟨hg.os, hg.tape, hg.output, hg.size, fun b hb hl => hg.block b hb (by simp [Value.ownBlock]), fun b t cs hb _ => blk_kept hb hg (fun r e => by simp [Value.ownBlock] at e)⟩
  · exact Keeps3.of_box (g := g) hg h4 (by decide) (Nat.le_trans hL h3)
theorem nums_slice {w : World} {B n : Nat} {v : Value} {xs : List Value} {e : TypeId} (h : w.ownsRow B e 1 v n xs) : ∃ a c, v = .slice a n c := by
  obtain ⟨_, ⟨rfl, h0⟩ | ⟨g, cap, cur, rfl, _⟩⟩ := h
  · exact ⟨none, 0, by rw [h0]⟩
  · exact ⟨_, _, rfl⟩
/-- A box of another type stays. -/
theorem nums_box {w w' : World} {B n g : Nat} {v : Value} {xs : List Value} {t : TypeId} {cs : Array Value} (h : Blk w g t cs) (ht : t ≠ 3) (hr : w.ownsRow B 3 1 v n xs) (hg : w.grownBy w' v.ownBlock) : Blk w' g t cs := by
  refine h.grown hg (fun e => ?_)
  exact own_ty hr h (fun e2 => ht e2.symm) g e.symm rfl
theorem nums_lt {w : World} {B n : Nat} {v : Value} {xs : List Value} (h : w.ownsRow B 3 1 v n xs) {r : Nat} (e : v.ownBlock = some r) : B ≤ r ∧ r < w.heap.size := by
  obtain ⟨_, ⟨rfl, _⟩ | ⟨gv, cap, cur, rfl, h3, h4, _⟩⟩ := h
  · simp [Value.ownBlock] at e
  · have : gv = r := by simpa [Value.ownBlock] using e
    subst this
    exact ⟨h3, Blk.lt h4⟩
end Go.Proofs.YtafbidhbmfdlkaaGreatDoor
/-
  A region that draws its order, walked in one order of one's own, where some operations (F) ask nothing of the world: such may stand beside one that writes.
-/
namespace Go.Proofs.YtafbidhbmfdlkaaGreatDoor
open Go Go.RowKit
set_option maxRecDepth 100000

section
variable {P : Program} {ops : Array Oper} {Q : Exit → Act → World → Prop} {md : Region.Mode} {F : Nat → Bool}

/-- Each other operation comes ahead of that of number i, or behind it, or asks nothing of the world. -/
def lastF (F : Nat → Bool) (md : Region.Mode) (ops : Array Oper) (i : Nat) : Bool := (List.range ops.size).all fun k => k == i || F k || waitsB md ops ops.size i k || waitsB md ops ops.size k i
theorem lastF_not {L : Array Bool} {i j : Nat} (hF : F i = false) (hc : Closed md ops L) (hi : i ∈ Region.ready md ops L) (hj : j ∈ Region.ready md ops L) (hne : j ≠ i) : lastF F md ops j ≠ true := by
  intro h
  unfold lastF at h
  simp only [List.all_eq_true, List.mem_range] at h
  obtain ⟨_, oi, hoi, di⟩ := mem_ready.1 hi
  obtain ⟨_, oj, hoj, dj⟩ := mem_ready.1 hj
  have h1 := h i (Array.getElem?_eq_some_iff.1 hoi).1
  simp only [Bool.or_eq_true, beq_iff_eq, Ne.symm hne, hF, Bool.false_eq_true, false_or] at h1
  rcases h1 with h1 | h1
  · exact unready hi (waits_listed hc _ j h1 fun o ho e he hb => by rw [hoj] at ho; cases ho; exact dj e he hb)
  · exact unready hj (waits_listed hc _ i h1 fun o ho e he hb => by rw [hoi] at ho; cases ho; exact di e he hb)
end
end Go.Proofs.YtafbidhbmfdlkaaGreatDoor
/-
  A region that draws its order, walked in one order of one's own, in worlds that keep a word of one's own, but behind operations that stand alone in the order, which may break it.
-/
namespace Go.Proofs.YtafbidhbmfdlkaaGreatDoor
open Go Go.RowKit
set_option maxRecDepth 100000

section
variable {P : Program} {ops : Array Oper} {Q : Exit → Act → World → Prop} {md : Region.Mode} {S : World → Prop}
def wpMJ (P : Program) (md : Region.Mode) (S : World → Prop) (ops : Array Oper) (Q : Exit → Act → World → Prop) : Nat → Array Bool → Act → World → Prop
  | 0, listed, a, w => Region.ready md ops listed = [] ∧ Q .normal a w
  | fuel + 1, listed, a, w =>
    (Region.ready md ops listed = [] → Q .normal a w) ∧
    ∀ i ∈ Region.ready md ops listed, wpOp P ops Q i (fun a' w' => (lastF (fun _ => false) md ops i = true ∨ S w') ∧ wpMJ P md S ops Q fuel (listed.setIfInBounds i true) a' w') a w
theorem wpAny_of_mj : ∀ (fuel : Nat) (listed : Array Bool) (a : Act) (w : World), wpMJ P md S ops Q fuel listed a w → wpAny P md ops Q fuel listed a w
  | 0, _, _, _, h => h
  | fuel + 1, _, _, _, h => ⟨h.1, fun i hi => wpOp_mono (fun a' w' h' => wpAny_of_mj fuel _ a' w' h'.2) (h.2 i hi)⟩
theorem wpMJ_first {i : Nat} {oi : Oper} {v : Value} (hi : ops[i]? = some oi) (hsel : ∀ (j : Nat) (o : Oper) cs b, ops[j]? = some o → o.op ≠ .select cs b)
    (hQ : ∀ c a w, Q (.panic c) (a.put oi.dst v) w → Q (.panic c) a w) :
    ∀ (fuel : Nat) (listed : Array Bool) (a : Act) (w : World), S w →
      (∀ j oj, ops[j]? = some oj → j ≠ i → listed.getD j true = false → (∀ e ∈ oj.after, Region.binds md e = true → e.on ≠ i) → oi.apart ops oj = true) →
      Closed md ops listed → i ∈ Region.ready md ops listed → YieldsIf P ops S oi v a →
      wpMJ P md S ops Q fuel (listed.setIfInBounds i true) (a.put oi.dst v) w → wpMJ P md S ops Q (fuel + 1) listed a w := by
  intro fuel
  induction fuel with
  | zero =>
    intro listed a w hS _ hcl hr hy H
    refine ⟨fun h => (by rw [h] at hr; cases hr), fun j hj => ?_⟩
    by_cases hji : j = i
    · subst hji; exact hy.wpOp hi hS ⟨.inr hS, H⟩
    · have := ready_mono hj hji
      rw [H.1] at this
      cases this
  | succ fuel ih =>
    intro listed a w hS hfree hcl hr hy H
    refine ⟨fun h => (by rw [h] at hr; cases hr), fun j hj => ?_⟩
    by_cases hji : j = i
    · subst hji; exact hy.wpOp hi hS ⟨.inr hS, H⟩
    · have g1 := H.2 j (ready_mono hj hji)
      obtain ⟨hjun, oj, hoj, hall⟩ := mem_ready.1 hj
      have hnot : ∀ e ∈ oj.after, Region.binds md e = true → e.on ≠ i := by
        intro e he hb heq
        have t1 := hall e he hb
        have t0 := (mem_ready.1 hr).1
        rw [heq] at t1
        rcases Nat.lt_or_ge i listed.size with h' | h'
        · simp [h'] at t0 t1; rw [t0] at t1; cases t1
        · simp [Array.getElem?_eq_none h'] at t1
      have g2 := wpOp_putIf hoj (hfree j oj hoj hji hjun hnot) (fun cs b => hsel i oi cs b hi) (fun cs b => hsel j oj cs b hoj) hQ hy g1
      have hnl := lastF_not (F := fun _ => false) rfl hcl hr hj hji
      refine wpOp_mono (fun a' w' g3 => ⟨.inr (g3.2.1.resolve_left hnl), ih (listed.setIfInBounds j true) a' w' (g3.2.1.resolve_left hnl) ?_ (closed_set hcl hj) (ready_mono hr (Ne.symm hji)) g3.1 ?_⟩) g2
      · intro k ok hk hki hun hno
        refine hfree k ok hk hki ?_ hno
        by_cases hjk : j = k
        · subst hjk; exact hjun
        · rw [getD_set_ne true hjk] at hun; exact hun
      · rw [Array.setIfInBounds_comm _ _ hji]
        exact g3.2.2
/-- In the order σ. -/
def wpJ (P : Program) (md : Region.Mode) (S : World → Prop) (ops : List Oper) (Q : Exit → Act → World → Prop) (σ : List Nat) (listed : Array Bool) (a : Act) (w : World) : Prop := wpMJ P md S ops.toArray Q σ.length listed a w
theorem wpJ_round {l m : Nat} {ops : List Oper} {id : Nat} {a : Act} {w w1 : World} (S : World → Prop) (σ : List Nat) (hm : P.follows .mixedOrders = true) (hnd : noDefer ops = true) (hlo : ¬ LetsOut Q) (hl : σ.length = ops.length) (hw : w.drew = w1)
    (h : wpJ P .any S ops Q σ (Array.replicate ops.length false) a w1) : (Code.region id ops.toArray true).wpIn (Fence.wide.inRound l) m P Q a w := by
  subst hw
  refine region_round hm hnd hlo (wpAny_of_mj (S := S) _ _ _ _ ?_)
  unfold wpJ at h
  rw [hl] at h
  simpa using h
theorem wpJ_wide {m : Nat} {ops : List Oper} {id : Nat} {a : Act} {w w1 : World} (S : World → Prop) (σ : List Nat) (hm : P.follows .mixedOrders = true) (hnd : noDefer ops = true) (hlo : ¬ LetsOut Q) (hl : σ.length = ops.length) (hw : w.drew = w1)
    (h : wpJ P .any S ops Q σ (Array.replicate ops.length false) a w1) : (Code.region id ops.toArray true).wpIn Fence.wide m P Q a w := by
  subst hw
  refine region_wide hm hnd hlo (wpAny_of_mj (S := S) _ _ _ _ ?_)
  unfold wpJ at h
  rw [hl] at h
  simpa using h
theorem wpJ_start {l : List Oper} {id : Nat} {a : Act} {w w1 : World} (S : World → Prop) (σ : List Nat) (hm : P.follows .mixedOrders = true) (hl : σ.length = l.length) (hw : w.drew = w1)
    (h : wpJ P .any S l Q σ (Array.replicate l.length false) a w1) : (Code.region id l.toArray true).wp P Q a w := by
  subst hw
  refine wp_region_any hm (wpAny_of_mj (S := S) _ _ _ _ ?_)
  unfold wpJ at h
  rw [hl] at h
  simpa using h
theorem wpJ_read {l : List Oper} {i : Nat} {σ : List Nat} {oi : Oper} {v : Value} {listed : Array Bool} {a : Act} {w : World} (hS : S w) (hi : nthOp l i = some oi)
    (hs : Region.noSelect l.toArray = true) (hf : Region.free md l.toArray listed i = true) (hr : (Region.ready md l.toArray listed).contains i = true)
    (hQ : ∀ c a w, Q (.panic c) (a.put oi.dst v) w → Q (.panic c) a w) (hy : YieldsIf P l.toArray S oi v a)
    (h : wpJ P md S l Q σ (listed.setIfInBounds i true) (a.put oi.dst v) w) (hcl : closedB md l.toArray listed = true := by kernel_rfl) : wpJ P md S l Q (i :: σ) listed a w :=
  wpMJ_first (by rw [← nthOp_eq]; exact hi) (Region.noSelect_spec hs) hQ σ.length listed a w hS (Region.free_spec (by rw [← nthOp_eq]; exact hi) hf) (closedB_spec hcl) (by simpa using hr) hy h
theorem wpJ_lone {l : List Oper} {i : Nat} {σ : List Nat} {o : Oper} {listed : Array Bool} {a : Act} {w : World} (hi : nthOp l i = some o) (hr : Region.ready md l.toArray listed = [i])
    (h : ∀ K : Act → World → Prop, (∀ a' w', S w' → wpJ P md S l Q σ (listed.setIfInBounds i true) a' w' → K a' w') → if Region.wanted o (yielded l.toArray a.tmps) then o.wp P a w K Q else K (a.put o.dst undef) w) :
    wpJ P md S l Q (i :: σ) listed a w := by
  refine ⟨fun h0 => (by rw [hr] at h0; cases h0), fun j hj => ?_⟩
  rw [hr, List.mem_singleton] at hj
  subst hj
  exact wpOp_of hi (h (fun a' w' => (lastF (fun _ => false) md l.toArray j = true ∨ S w') ∧ wpMJ P md S l.toArray Q σ.length (listed.setIfInBounds j true) a' w') (fun a' w' hS hs => ⟨.inr hS, hs⟩))
/-- An operation that has its own place in the order. -/
theorem wpJ_last {l : List Oper} {i : Nat} {σ : List Nat} {o : Oper} {listed : Array Bool} {a : Act} {w : World} (hi : nthOp l i = some o) (hr : Region.ready md l.toArray listed = [i]) (hl : lastF (fun _ => false) md l.toArray i = true)
    (h : ∀ K : Act → World → Prop, (∀ a' w', wpJ P md S l Q σ (listed.setIfInBounds i true) a' w' → K a' w') → if Region.wanted o (yielded l.toArray a.tmps) then o.wp P a w K Q else K (a.put o.dst undef) w) :
    wpJ P md S l Q (i :: σ) listed a w := by
  refine ⟨fun h0 => (by rw [hr] at h0; cases h0), fun j hj => ?_⟩
  rw [hr, List.mem_singleton] at hj
  subst hj
  exact wpOp_of hi (h (fun a' w' => (lastF (fun _ => false) md l.toArray j = true ∨ S w') ∧ wpMJ P md S l.toArray Q σ.length (listed.setIfInBounds j true) a' w') (fun a' w' hs => ⟨.inl hl, hs⟩))
theorem wpJ_done {l : List Oper} {listed : Array Bool} {a : Act} {w : World} (hr : Region.ready md l.toArray listed = []) (h : Q .normal a w) : wpJ P md S l Q [] listed a w := ⟨hr, h⟩
end
end Go.Proofs.YtafbidhbmfdlkaaGreatDoor
/-
  txg's work: one of the pool's own blocks laid.
-/
namespace Go.Proofs.YtafbidhbmfdlkaaGreatDoor
open Go.RowKit Go.Shelf
set_option maxRecDepth 100000

theorem rawO_at {S : StL} {b iv tag : Nat} {s : List UInt8} : ∃ x : Nat, (rawO S b iv tag s).2.1.1 = (x : Int) ∧ x < 256 := by
  unfold rawO
  split
  · split
    · split
      · cases hp : putS S b iv tag s with
        | none => exact ⟨0, rfl, by omega⟩
        | some sp =>
          unfold putR
          unfold putS at hp
          split at hp
          · cases hp
          · split at hp
            · cases hp
            · rename_i k _ hfr _
              cases hp
              have hk : k < 256 := by
                have : k ∈ freeTo S.2.1 256 := by rw [hfr]; exact List.mem_cons_self ..
                exact (freeTo_mem.1 this).1
              exact ⟨k, rfl, hk⟩
      · exact ⟨0, rfl, by omega⟩
    · exact ⟨0, rfl, by omega⟩
  · exact ⟨0, rfl, by omega⟩
theorem fz_keeps3 {N L : Nat} {X : Nat → Prop} {w w' : World} (h : Fz N X w w') (hN : w.heap.size ≤ N) (hx : ∀ i, X i → L ≤ i ∧ ∀ t cs, Blk w i t cs → rowT3 t = false) : Keeps3 L w w' :=
  ⟨h.os, h.tape, h.output, h.size, fun b hb hl => h.same b (Nat.lt_of_lt_of_le hb hN) (fun hxb => by have := (hx b hxb).1; omega), fun b t cs hb ht => (h.same b (Nat.lt_of_lt_of_le (Blk.lt hb) hN) (fun hxb => by have := (hx b hxb).2 t cs hb; rw [this] at ht; cases ht)).trans hb⟩
/-- The work box's other fields stay. -/
theorem Wk.own_ite {k : Wk} {y : SAt} {T : StL} {z : Nat} : (if z = 0 then { k with x := y, S := T } else { k with e := z }).own = k.own := by split <;> rfl
/-- What layOwn leaves: B is where the row of the pool's own blocks begins, at the least. -/
def OutOwn (B g : Nat) (k : Wk) (n : Nat) (own : List Nat) (o : StL × Pt × Nat) (w : World) (r : Ending) (w' : World) : Prop :=
  ∃ y v, r = .returned (ptV o.2.1) ∧ Box w' g { (if o.2.2 = 0 then { k with x := y, S := o.1 } else { k with e := o.2.2 } : Wk) with own := v } ∧ w'.ownsRow B 3 1 v (n + 1) (valsN (own ++ [o.2.1.1.toNat])) ∧ StP 0 w' y o.1 ∧
    Fz w.heap.size (fun i => i = g ∨ k.own.ownBlock = some i) w w' ∧ Keeps3 0 w w'
set_option maxHeartbeats 4000000 in
theorem txLayOwn_go (L g B : Nat) (k : Wk) (a : Option Addr) (c : Nat) (b : List UInt8) (n : Nat) (own : List Nat) (w : World) (h : Box w g k) (hn : k.e = 0) (hT : StP L w k.x k.S) (ho : OkS k.S) (hL : L ≤ w.heap.size) (hb : Bsl w w.heap.size a b.length c b) (hbi : k.birth < 4294967296) (hM : w.ownsRow B 3 1 k.own n (valsN own)) (hnn : n ≤ 50000) (hB : B ≤ w.heap.size) :
    Calls Tryz.prog 68 #[.pointer (some ⟨g, 0, none⟩), .slice a b.length c] w (OutOwn B g k n own (rawO k.S k.birth 0 0 b) w) := by
  have hmx : Tryz.prog.follows Departure.mixedOrders = true := by kernel_rfl
  have H0 := Lib.hid h
  have HM0 := Lib.hid hM
  obtain ⟨w0, gq, hw0, hgq, b0, hb0⟩ := new_blk w ptZ 31
  have hlt := h.lt
  have HQ0 := Lib.hid hb0
  have HB := Lib.hid b0
  have HGQ := Lib.hid (show gq ≠ g ∧ w.heap.size ≤ gq by omega)
  have HBB := Lib.hid hB
  have HNN := Lib.hid hnn
  have hl := txLay_go L g k a c b w0 (h.bel b0) hn (hT.bel b0) ho (Nat.le_trans hL b0.size) (hb.step b0) hbi
  have HMW := Lib.hid (own_below hM b0)
  obtain ⟨qx, hqx, _⟩ := rawO_at (S := k.S) (b := k.birth) (iv := 0) (tag := 0) (s := b)
  obtain ⟨T, ⟨qa, qb, qi, qt, qs⟩, z, hq⟩ : ∃ T q z, rawO k.S k.birth 0 0 b = (T, q, z) := ⟨_, _, _, rfl⟩
  rw [hq] at hl hqx ⊢
  simp only at hqx
  subst hqx
  have HL := Lib.hid hl
  simp only [ptZ] at hw0
  clear h hb0 b0 hT hb hn ho hbi hL hq hlt hl hM hnn hB
  go_enter Tryz.func68, Tryz.ntmps68
  go_wp2_with fail
  try rw [hw0]
  try rw [hgq]
  refine HL.out.mono ?_
  rintro e w1 ⟨y, rfl, hbx, hst, hgr⟩
  have HK1 := Lib.hid (Wk.own_ite (k := k) (y := y) (T := T) (z := z))
  obtain ⟨kk, hkk⟩ : ∃ kk : Wk, (if z = 0 then { k with x := y, S := T } else { k with e := z } : Wk) = kk := ⟨_, rfl⟩
  have HKK := Lib.hid hkk
  rw [hkk] at hbx HK1
  have HM := Lib.hid (own_other HMW.out hgr (own_ty HMW.out (H0.out.bel HB.out) (by decide)))
  have hq1 := HQ0.out.grown hgr (fun e => HGQ.out.1 (Option.some.inj e))
  obtain ⟨w2, gp, hw2, hgp, b2, hb2⟩ := new_blk w1 ptZ 31
  have m0 := ptZ0 hb2
  have m1 := ptZ1 hb2
  have m2 := ptZ2 hb2
  have m3 := ptZ3 hb2
  have m4 := ptZ4 hb2
  have hfz := fun i => hb2.frozen i
  obtain ⟨xa, ka, ba⟩ := box_five (L := 0) hb2 (by decide) (Nat.zero_le _) b2 (by rw [hgp]; exact Nat.le_refl _) (.int .i64 (qx : Int)) (.int .u32 (qb : Int)) (.int .u32 (qi : Int)) (.int .u32 (qt : Int)) (.int .u32 (qs : Int))
  obtain ⟨w3, hw3⟩ : ∃ X, set5 w2 gp (.int .i64 (qx : Int)) (.int .u32 (qb : Int)) (.int .u32 (qi : Int)) (.int .u32 (qt : Int)) (.int .u32 (qs : Int)) = X := ⟨_, rfl⟩
  rw [hw3] at xa ka ba
  simp only [set5] at hw3
  have HX := Lib.hid (hbx.below ba hbx.lt)
  have HP := Lib.hid xa
  have HQ := Lib.hid (hq1.below ba hq1.lt)
  have HST := Lib.hid (hst.bel ba)
  replace HM := Lib.hid (own_below HM.out ba)
  have HGP := Lib.hid (show gp ≠ g ∧ w.heap.size ≤ gp by have h1 := hbx.lt; have h2 := hgr.size; have h3 := HB.out.size; omega)
  have HF := Lib.hid (Fz.trans (Fz.of_below (X := fun i => i = g ∨ k.own.ownBlock = some i) HB.out (Nat.le_refl _)) (Fz.trans (Fz.of_grown (N := w.heap.size) hgr HB.out.size (fun i e => .inl (.inl (Option.some.inj e).symm))) (Fz.of_below ba (Nat.le_trans HB.out.size hgr.size))))
  simp only [ptZ] at hw2
  clear hbx hst hgr hq1 b2 hb2 xa ka ba hkk HL
  go_wp2_with fail
  try rw [hw2]
  try rw [hgp]
  try rw [hw3]
  clear hw2 hw3 m0 m1 m2 m3 m4 hfz hgp
  obtain ⟨wd, hwd⟩ : ∃ wd, w3.drew = wd := ⟨_, rfl⟩
  have bq : Below w3.heap.size w3 wd := by rw [← hwd]; exact (Below.refl _ w3).drew
  replace HX := Lib.hid (HX.out.bel bq)
  replace HP := Lib.hid (HP.out.below bq HP.out.lt)
  replace HQ := Lib.hid (HQ.out.below bq HQ.out.lt)
  replace HST := Lib.hid (HST.out.bel bq)
  replace HM := Lib.hid (own_below HM.out bq)
  replace HF := Lib.hid (HF.out.trans (Fz.of_below bq HF.out.size))
  clear bq
  have hcs : wd.cell? ⟨g, 11, none⟩ = some k.own ∧ wd.cell? ⟨gp, 0, none⟩ = some (.int .i64 (qx : Int)) := ⟨by rw [HX.out.c11, HK1.out], bx0 HP.out⟩
  refine wpJ_start (fun X => X.cell? ⟨g, 11, none⟩ = some k.own ∧ X.cell? ⟨gp, 0, none⟩ = some (.int .i64 (qx : Int))) [0, 1, 2, 3, 4, 5, 6, 7, 8, 9, 10, 11, 12, 13] hmx rfl hwd ?_
  clear hwd
  iterate 8 (
    refine wpJ_read (v := ?_) hcs rfl (by kernel_rfl) (by kernel_rfl) (by kernel_rfl) (fun _ _ _ h => h) (.inl ⟨by rfl, ?_⟩) ?_
    rotate_left
    · intro X hX
      obtain ⟨j0, j1⟩ := hX
      go_simp
      with_reducible rfl
    try simp only [Act.put, List.setIfInBounds_toArray, List.set_cons_zero, List.set_cons_succ])
  refine wpJ_lone rfl (by kernel_rfl) (fun K hK => ?_)
  go_simp
  obtain ⟨w4, g4, hn4, hg4, b4, x4⟩ := new_box wd #[.int .i64 (qx : Int)] 3
  have hon : Nsl w4 w4.heap.size (some ⟨g4, 0, none⟩) 1 1 [qx] := by
    have h1 := one_nsl wd qx
    rw [hn4, hg4] at h1
    exact h1
  rw [hn4, hg4]
  have HON := Lib.hid hon
  replace HX := Lib.hid (HX.out.bel b4)
  replace HP := Lib.hid (HP.out.below b4 HP.out.lt)
  replace HQ := Lib.hid (HQ.out.below b4 HQ.out.lt)
  replace HST := Lib.hid (HST.out.bel b4)
  replace HM := Lib.hid (own_below HM.out b4)
  replace HF := Lib.hid (HF.out.trans (Fz.of_below b4 HF.out.size))
  have hcs4 : w4.cell? ⟨g, 11, none⟩ = some k.own ∧ w4.cell? ⟨gp, 0, none⟩ = some (.int .i64 (qx : Int)) := ⟨by rw [HX.out.c11, HK1.out], bx0 HP.out⟩
  refine hK _ _ hcs4 ?_
  clear hK K hn4 hg4 b4 x4 hon hcs
  try simp only [Act.put, List.setIfInBounds_toArray, List.set_cons_zero, List.set_cons_succ]
  refine wpJ_lone rfl (by kernel_rfl) (fun K hK => ?_)
  rw [if_pos (by simp [Region.wanted])]
  refine wp_app_nums (.tmp 14) (.tmp 17) rfl B k.own n own rfl HM.out _ _ 1 1 [qx] rfl HON.out (by decide) (by have := HNN.out; omega) (Nat.le_trans HBB.out HF.out.size) ?_
  intro v5 w5 hp5 hg5
  obtain ⟨a5, c5, rfl⟩ := nums_slice hp5
  have hx5 : Box w5 g kk := nums_box HX.out (by decide) HM.out hg5
  have hpx5 := nums_box HP.out (by decide) HM.out hg5
  have hqx5 := nums_box HQ.out (by decide) HM.out hg5
  have HST5 := Lib.hid (HST.out.step3 (nums_keeps3 (L := 0) HM.out hg5 (Nat.zero_le _)))
  have HF5 := Lib.hid (HF.out.trans (Fz.of_grown (N := w.heap.size) hg5 HF.out.size (fun i e => .inl (.inr e))))
  have HM5 := Lib.hid hp5
  have HX5 := Lib.hid hx5
  have HP5 := Lib.hid hpx5
  have HQ5 := Lib.hid hqx5
  have hcs5 : w5.cell? ⟨g, 11, none⟩ = some k.own ∧ w5.cell? ⟨gp, 0, none⟩ = some (.int .i64 (qx : Int)) := ⟨by rw [hx5.c11, HK1.out], bx0 hpx5⟩
  refine hK _ _ hcs5 ?_
  clear hK K hp5 hg5 hx5 hpx5 hqx5 hcs4 HX HP HQ HST HM HF
  try simp only [Act.put, List.setIfInBounds_toArray, List.set_cons_zero, List.set_cons_succ]
  iterate 3 (
    refine wpJ_read (v := ?_) hcs5 rfl (by kernel_rfl) (by kernel_rfl) (by kernel_rfl) (fun _ _ _ h => h) (.inl ⟨by rfl, ?_⟩) ?_
    rotate_left
    · intro X hX
      obtain ⟨j0, j1⟩ := hX
      go_simp
      with_reducible rfl
    try simp only [Act.put, List.setIfInBounds_toArray, List.set_cons_zero, List.set_cons_succ])
  have c11 := HX5.out.c11
  have hfx := fun i => HX5.out.frozen i
  have HX6 := Lib.hid (HX5.out.set11 (.slice a5 (n + 1) c5))
  have hg6 := Wk.stay (g := g) w5 11 (.slice a5 (n + 1) c5)
  have hq6 := HQ5.out.grown hg6 (fun e => HGQ.out.1 (Option.some.inj e))
  have hp6 := HP5.out.grown hg6 (fun e => HGP.out.1 (Option.some.inj e))
  have HST6 := Lib.hid (HST5.out.step (Keeps.of_box hg6 HX5.out (by decide) (Nat.zero_le _)))
  have HM6 := Lib.hid (own_other HM5.out hg6 (own_ty HM5.out HX5.out (by decide)))
  have HF6 := Lib.hid (HF5.out.trans (Fz.of_grown (N := w.heap.size) hg6 HF5.out.size (fun i e => .inl (.inl (Option.some.inj e).symm))))
  obtain ⟨w6, hw6⟩ : ∃ X, w5.setCell ⟨g, 11, none⟩ (.slice a5 (n + 1) c5) = X := ⟨_, rfl⟩
  rw [hw6] at HX6 hg6 hq6 hp6 HST6 HM6 HF6
  refine wpJ_last rfl (by kernel_rfl) (by kernel_rfl) (fun K hK => ?_)
  go_simp
  refine hK _ _ ?_
  clear hK K hcs5 c11 hfx hg6
  try simp only [Act.put, List.setIfInBounds_toArray, List.set_cons_zero, List.set_cons_succ]
  refine wpJ_done (by kernel_rfl) ?_
  have p0_ := bx0 hp6
  have p1_ := bx1 hp6
  have p2_ := bx2 hp6
  have p3_ := bx3 hp6
  have p4_ := bx4 hp6
  have q0_ := ptZ0 hq6
  have q1_ := ptZ1 hq6
  have q2_ := ptZ2 hq6
  have q3_ := ptZ3 hq6
  have q4_ := ptZ4 hq6
  have hfq := fun i => hq6.frozen i
  have HX7 := Lib.hid (show Box _ g _ from far5_bl (g := gq) HX6.out HGQ.out.1.symm (.int .i64 (qx : Int)) (.int .u32 (qb : Int)) (.int .u32 (qi : Int)) (.int .u32 (qt : Int)) (.int .u32 (qs : Int)))
  have hq7 := Blk.set5 hq6 (.int .i64 (qx : Int)) (.int .u32 (qb : Int)) (.int .u32 (qi : Int)) (.int .u32 (qt : Int)) (.int .u32 (qs : Int))
  have hg7 := only_set5 (World.grownBy.refl w6 (some gq)) (.int .i64 (qx : Int)) (.int .u32 (qb : Int)) (.int .u32 (qi : Int)) (.int .u32 (qt : Int)) (.int .u32 (qs : Int))
  have HST7 := Lib.hid (HST6.out.step (Keeps.of_box hg7 hq6 (by decide) (Nat.zero_le _)))
  have HM7 := Lib.hid (own_other HM6.out hg7 (own_ty HM6.out hq6 (by decide)))
  have HF7 := Lib.hid (HF6.out.trans (Fz.of_grown (N := w.heap.size) hg7 HF6.out.size (fun i e => .inr (by have := HGQ.out.2; have := Option.some.inj e; omega))))
  obtain ⟨w7, hw7⟩ : ∃ X, set5 w6 gq (.int .i64 (qx : Int)) (.int .u32 (qb : Int)) (.int .u32 (qi : Int)) (.int .u32 (qt : Int)) (.int .u32 (qs : Int)) = X := ⟨_, rfl⟩
  rw [hw7] at HX7 hq7 hg7 HST7 HM7 HF7
  simp only [set5] at hw7
  have e0 := bx0 hq7
  have e1 := bx1 hq7
  have e2 := bx2 hq7
  have e3 := bx3 hq7
  have e4 := bx4 hq7
  clear hg7 hq6 hp6 HX6 HST6 HM6 HF6
  go_wp2_with fail
  try rw [hw7]
  refine bodyPost_ret (v := .agg #[.int .i64 (qx : Int), .int .u32 (qb : Int), .int .u32 (qi : Int), .int .u32 (qt : Int), .int .u32 (qs : Int)]) (by simp [results, Tryz.f68, go_sem, e0, e1, e2, e3, e4]) rfl ?_
  refine ⟨y, .slice a5 (n + 1) c5, rfl, ?_, HM7.out, HST7.out, HF7.out, fz_keeps3 HF7.out (Nat.le_refl _) (fun i hi => ⟨Nat.zero_le _, fun t cs hb => ?_⟩)⟩
  · show Box w7 g { (if z = 0 then { k with x := y, S := T } else { k with e := z } : Wk) with own := .slice a5 (n + 1) c5 }
    rw [HKK.out]
    exact HX7.out
  · rcases hi with rfl | hi
    · have := H0.out
      unfold Box Blk at this
      unfold Blk at hb
      rw [this] at hb
      cases hb
      rfl
    · by_cases ht : t = 3
      · subst ht; rfl
      · exact absurd rfl (own_ty HM0.out hb (fun e => ht e.symm) i hi)
end Go.Proofs.YtafbidhbmfdlkaaGreatDoor
/-
  label.Slot, isUpTo, isRoot, mayBe, bytesOf and numberAt, whatever they are handed; nothing that was there is written.
-/
namespace Go.Proofs.YtafbidhbmfdlkaaGreatDoor
open Go.RowKit Go.Shelf
set_option maxRecDepth 100000

theorem lSlot_any (g : Nat) (_hg : g < 4294967296) (w : World) : Calls Tryz.prog 41 #[.int .u32 (g : Int)] w fun e w' => e = .returned (.int .i64 ((g % 4 : Nat) : Int)) ∧ w = w' := by
  have i0 : (0 : Int) ≤ (g : Int) := by omega
  have i1 : (g : Int) ≤ 4294967295 := by omega
  have e1 : ((g % 4 : Nat) : Int) = (g : Int) % 4 := by omega
  rw [e1]
  have i2 : (0 : Int) ≤ (g : Int) % 4 := by omega
  have i3 : (g : Int) % 4 ≤ 3 := by omega
  go_enter Tryz.func41, Tryz.ntmps41
  go_wp2_with fail
  go_ret
  exact ⟨rfl, rfl⟩
theorem lUpTo_any (n m : Nat) (w : World) : Calls Tryz.prog 135 #[.int .u32 (n : Int), .int .u32 (m : Int)] w fun e w' => e = .returned (.bool (decide (1 ≤ n ∧ n ≤ m))) ∧ w = w' := by
  by_cases h : 1 ≤ n
  · have i1 : (1 : Int) ≤ (n : Int) := by omega
    by_cases h2 : n ≤ m
    · rw [decide_eq_true (And.intro h h2)]
      have i2 : (n : Int) ≤ (m : Int) := by omega
      go_enter Tryz.func135, Tryz.ntmps135
      go_wp2_with fail
      go_ret
      exact ⟨rfl, rfl⟩
    · rw [decide_eq_false (fun hh : 1 ≤ n ∧ n ≤ m => h2 hh.2)]
      have i2 : ¬ (n : Int) ≤ (m : Int) := by omega
      go_enter Tryz.func135, Tryz.ntmps135
      go_wp2_with fail
      go_ret
      exact ⟨rfl, rfl⟩
  · rw [decide_eq_false (fun hh : 1 ≤ n ∧ n ≤ m => h hh.1)]
    have i1 : ¬ (1 : Int) ≤ (n : Int) := by omega
    go_enter Tryz.func135, Tryz.ntmps135
    go_wp2_with fail
    go_ret
    exact ⟨rfl, rfl⟩
/-- May a root be? -/
def rootB (p : Pt) : Bool := decide (p ≠ p0 ∧ MayP p)
theorem lRoot_any (p : Pt) (w : World) : Calls Tryz.prog 136 #[ptV p] w fun e w' => e = .returned (.bool (rootB p)) ∧ Below w.heap.size w w' := by
  have hm := Check_any p (w.alloc (.cells (ptC p).toArray 31))
  have hb1 : Below w.heap.size w (w.alloc (.cells (ptC p).toArray 31)) := (Below.refl _ w).alloc (Nat.le_refl _) _
  have HB := Lib.hid hb1; clear hb1
  obtain ⟨a, b, c, d, e⟩ := p
  have heq := eqPt_zero a b c d e
  by_cases h0 : eqP (a, b, c, d, e) p0 = true
  · have hr : rootB (a, b, c, d, e) = false := decide_eq_false fun hh => hh.1 ((eqP_iff _ _).1 h0)
    rw [hr]
    rw [h0] at heq
    clear hm h0 hr
    go_enter Tryz.func136, Tryz.ntmps136
    go_wp2_with fail
    go_ret
    exact ⟨rfl, HB.out⟩
  · have h0' : eqP (a, b, c, d, e) p0 = false := by simpa using h0
    rw [h0'] at heq
    have hne : (a, b, c, d, e) ≠ p0 := fun hh => h0 ((eqP_iff _ _).2 hh)
    rw [pcheckO] at hm
    by_cases h1 : MayP (a, b, c, d, e)
    · have hr : rootB (a, b, c, d, e) = true := decide_eq_true ⟨hne, h1⟩
      rw [hr]
      rw [if_pos h1] at hm
      have HM := Lib.hid hm
      clear hm h0 h0' hr hne h1
      go_enter Tryz.func136, Tryz.ntmps136
      go_wp2_with (go_at_call 100; refine HM.out.mono ?_; rintro ev w1 ⟨rfl, b1⟩; have HB1 := Lib.hid (HB.out.trans (b1.mono (by simp [ptC]))); clear b1)
      go_ret
      exact ⟨rfl, HB1.out⟩
    · have hr : rootB (a, b, c, d, e) = false := decide_eq_false fun hh => h1 hh.2
      rw [hr]
      rw [if_neg h1] at hm
      have HM := Lib.hid hm
      clear hm h0 h0' hr hne h1
      go_enter Tryz.func136, Tryz.ntmps136
      go_wp2_with (go_at_call 100; refine HM.out.mono ?_; rintro ev w1 ⟨rfl, b1⟩; have HB1 := Lib.hid (HB.out.trans (b1.mono (by simp [ptC]))); clear b1)
      go_ret
      exact ⟨rfl, HB1.out⟩
theorem mayL_parts (l : Lb) : decide (MayL l) = (decide (1 ≤ l.1 ∧ l.1 ≤ 16777215) && (decide (1 ≤ l.2.1 ∧ l.2.1 ≤ 65535) && rootB l.2.2)) := by
  rw [Bool.eq_iff_iff]
  simp only [rootB, Bool.and_eq_true, decide_eq_true_eq]
  exact Iff.rfl
theorem lMay_any (l : Lb) (w : World) : Calls Tryz.prog 81 #[lbV l] w fun e w' => e = .returned (.bool (decide (MayL l))) ∧ Below w.heap.size w w' := by
  obtain ⟨w0, hw0⟩ : ∃ w0, w.alloc (.cells (lbC l).toArray 67) = w0 := ⟨_, rfl⟩
  have hb1 : Below w.heap.size w w0 := by rw [← hw0]; exact (Below.refl _ w).alloc (Nat.le_refl _) _
  have hk : Blk w0 w.heap.size 67 (lbC l).toArray := by rw [← hw0]; exact Blk.new w _ _
  have HB := Lib.hid hb1; clear hb1
  rw [mayL_parts]
  have h1 := lUpTo_any l.1 16777215
  have h2 := lUpTo_any l.2.1 65535
  have h3 := lRoot_any l.2.2 w0
  obtain ⟨r1, hr1⟩ : ∃ r, decide (1 ≤ l.1 ∧ l.1 ≤ 16777215) = r := ⟨_, rfl⟩
  obtain ⟨r2, hr2⟩ : ∃ r, decide (1 ≤ l.2.1 ∧ l.2.1 ≤ 65535) = r := ⟨_, rfl⟩
  obtain ⟨r3, hr3⟩ : ∃ r, rootB l.2.2 = r := ⟨_, rfl⟩
  rw [hr1] at h1 ⊢
  rw [hr2] at h2 ⊢
  rw [hr3] at h3 ⊢
  clear hr1 hr2 hr3
  obtain ⟨g, e, a, b, c, d, f⟩ := l
  obtain ⟨c0, c1, c2, c3, c4, c5, c6⟩ := hk.seven
  simp only [lbC] at hw0
  clear hk
  have H1 := Lib.hid h1
  have H2 := Lib.hid h2
  have H3 := Lib.hid h3
  clear h1 h2 h3
  cases r1 with
  | false =>
    go_enter Tryz.func81, Tryz.ntmps81
    go_wp2_with (go_at_call 135; refine (H1.out _).mono ?_; rintro ev w1 ⟨rfl, rfl⟩)
    go_ret
    exact ⟨rfl, HB.out⟩
  | true =>
    cases r2 with
    | false =>
      go_enter Tryz.func81, Tryz.ntmps81
      go_wp2_with (first
        | (go_at_call 135; refine (H1.out _).mono ?_; rintro ev w1 ⟨rfl, rfl⟩; clear H1)
        | (go_at_call 135; refine (H2.out _).mono ?_; rintro ev w1 ⟨rfl, rfl⟩))
      go_ret
      exact ⟨rfl, HB.out⟩
    | true =>
      go_enter Tryz.func81, Tryz.ntmps81
      go_wp2_with (first
        | (go_at_call 135; refine (H1.out _).mono ?_; rintro ev w1 ⟨rfl, rfl⟩; clear H1)
        | (go_at_call 135; refine (H2.out _).mono ?_; rintro ev w1 ⟨rfl, rfl⟩; clear H2)
        | (go_at_call 136; refine H3.out.mono ?_; rintro ev w1 ⟨rfl, b1⟩; have HB1 := Lib.hid (HB.out.trans (b1.mono HB.out.size)); clear b1))
      go_ret
      exact ⟨by simp, HB1.out⟩
theorem lBytes_any (n : Nat) (hn : n < 4294967296) (w : World) : Calls Tryz.prog 138 #[.int .u32 (n : Int)] w fun e w' => ∃ g, e = .returned (.slice (some ⟨g, 0, none⟩) 4 4) ∧ w.heap.size ≤ g ∧ Bsl w' w'.heap.size (some ⟨g, 0, none⟩) 4 4 (leB 4 n) ∧ Below w.heap.size w w' := by
  have hp := put_ok n 4 (by omega) (by omega) (by omega) w
  have i0 : (0 : Int) ≤ (n : Int) := by omega
  have i1 : (n : Int) ≤ 4294967295 := by omega
  have HP := Lib.hid hp
  clear hp
  go_enter Tryz.func138, Tryz.ntmps138
  go_wp2_with (go_at_call 194; refine HP.out.mono ?_; rintro ev w1 ⟨rfl, h1, b1, z1⟩; have HH := Lib.hid h1; have HB := Lib.hid b1; have HZ := Lib.hid z1; clear h1 b1 z1)
  go_ret
  exact ⟨w.heap.size + 1, rfl, by omega, bsl_of_holds (leB_length 4 n) (Nat.le_refl _) (by unfold maxLen; omega) HZ.out HH.out, HB.out⟩
theorem lNum_any {w : World} {a : Option Addr} {len cap : Nat} {s : List UInt8} (h : Bsl w w.heap.size a len cap s) (i : Nat) (hi : i + 4 ≤ len) :
    Calls Tryz.prog 80 #[.slice a len cap, .int .i64 (i : Int)] w fun e w' => e = .returned (.int .u32 ((leN ((s.drop i).take 4) : Nat) : Int)) ∧ Below w.heap.size w w' := by
  have hg := get_bsl h i 4 (by omega) (by omega) hi
  have hl := leN_le s i 4
  obtain ⟨n, hn⟩ : ∃ n, leN ((s.drop i).take 4) = n := ⟨_, rfl⟩
  rw [hn] at hg hl ⊢
  have i0 : (0 : Int) ≤ (n : Int) := by omega
  have i1 : (n : Int) ≤ 4294967295 := by omega
  have HG := Lib.hid hg
  clear hg h hn hl
  go_enter Tryz.func80, Tryz.ntmps80
  go_wp2_with (go_at_call 134; refine HG.out.mono ?_; rintro ev w1 ⟨rfl, b1⟩; have HB := Lib.hid b1; clear b1)
  go_ret
  exact ⟨rfl, HB.out⟩
end Go.Proofs.YtafbidhbmfdlkaaGreatDoor
/-
  copy of bytes into a row that is known whole, as one operation of a region that draws its order.
-/
namespace Go.Proofs.YtafbidhbmfdlkaaGreatDoor
open Go.RowKit Go.Shelf
set_option maxRecDepth 100000

theorem wpI_copy_part {w : World} {ops : Array Oper} {o : Oper} {a : Act} {K : Act → World → Prop} {Q : Exit → Act → World → Prop} {E : Prop} (hgd : o.guard = none) (d s : Operand)
    (ho : o.op = .call { callee := .builtin .copy, args := #[d, s], argTypes := #[26, 26] })
    (g off m n cap : Nat) (hd : a.eval d = .slice (some ⟨g, off, none⟩) m cap) (t : List UInt8) (hg : Blk w g 5 (ar t))
    (B : Nat) (A : Option Addr) (c : Nat) (news : List UInt8) (hs : a.eval s = .slice A n c) (hb : Bsl w B A n c news) (hn : 0 < n) (hnm : n ≤ m) (hfit : off + n ≤ t.length)
    (h : ∀ w', Blk w' g 5 (ar (ovrL t off news)) → w.grownBy w' (some g) → w'.heap.size = w.heap.size → K (a.put o.dst (.int .i64 n)) w') : if Region.wanted o (yielded ops a.tmps) = true then Oper.wp Tryz.prog o a w K Q else E := by
  rw [if_pos (by simp [Region.wanted, hgd])]
  obtain ⟨h1, h2, h3, h4, h5⟩ := hb
  obtain ⟨b, of, rfl, _, hc⟩ := h5 hn
  have hl : (vals news).length = n := by simp [vals, h1]
  have hrun := run_copy_row (P := Tryz.prog) w 26 26 o.type 5 g off m cap ⟨b, of, none⟩ n c (ar t) 5 (vals news) Tryz.underlying26 infoB1 hg (by rw [hl]; exact (Nat.min_eq_left hnm).symm) (fun j v hv => by
    obtain ⟨hj, rfl⟩ := vals_get hv
    have : (⟨b, of, none⟩ : Addr).add j = ⟨b, of + j, none⟩ := by unfold Addr.add; split <;> simp_all
    rw [this]
    exact hc j hj) (by rw [hl, ar_size]; exact hfit) (fun v hv => by
    obtain ⟨y, _, rfl⟩ := List.mem_map.1 hv
    rfl)
  have e : ((ar t).toList.take off ++ vals news ++ (ar t).toList.drop (off + (vals news).length)).toArray = ar (ovrL t off news) := by
    rw [hl]
    simp [ar, ovrL, vals, h1]
  have hx : (goInt (vals news).length) = .int .i64 n := by rw [hl]; rfl
  rw [e, hx] at hrun
  unfold Oper.wp
  simp [execOp, ho, resolve, invoke, builtin, hd, hs, hrun, Result.andThen]
  exact (h _ (Blk.setRow hg) ⟨rfl, rfl, rfl, by simp [World.setRow], fun i hi hne => setRow_other w g i _ (fun e => hne (by rw [e]))⟩ (by simp [World.setRow]))
end Go.Proofs.YtafbidhbmfdlkaaGreatDoor
/-
  label.blockOf, whatever label that may be it is handed, answers the label's block; nothing that was there is written.
-/
namespace Go.Proofs.YtafbidhbmfdlkaaGreatDoor
open Go.RowKit Go.Shelf
set_option maxRecDepth 100000

/-- A new list that holds a label's block. -/
def BlockPost (l : Lb) (w : World) (e : Ending) (w' : World) : Prop := ∃ g, e = .returned (.slice (some ⟨g, 0, none⟩) 256 256) ∧ w.heap.size ≤ g ∧ Bsl w' w'.heap.size (some ⟨g, 0, none⟩) 256 256 (blockL l) ∧ Below w.heap.size w w'
set_option maxHeartbeats 4000000 in
theorem lBlock_any (l : Lb) (hw : WfL l) (hm : MayL l) (w : World) (hz : Szs w) : Calls Tryz.prog 83 #[lbV l] w (BlockPost l w) := by
  have hmx : Tryz.prog.follows Departure.mixedOrders = true := by kernel_rfl
  obtain ⟨w0, hw0⟩ : ∃ w0, w.alloc (.cells (lbC l).toArray 67) = w0 := ⟨_, rfl⟩
  have hb0 : Below w.heap.size w w0 := by rw [← hw0]; exact (Below.refl _ w).alloc (Nat.le_refl _) _
  have hk : Blk w0 w.heap.size 67 (lbC l).toArray := by rw [← hw0]; exact Blk.new w _ _
  have hp := Write_any l.2.2 hw.2.2 w0 (hz.step hb0)
  rw [pwriteO, if_pos hm.2.2.2] at hp
  have hfl : flat [⟨none, 1, 1, [67]⟩, ⟨none, 4, 4, leB 4 l.1⟩, ⟨none, 4, 4, leB 4 l.2.1⟩, ⟨none, 16, 16, bytesP l.2.2⟩] = summedL l := by simp [flat, summedL]
  have hsl := summedL_length l
  have hbl : ovrL (ovrL (List.replicate 256 0) 0 (summedL l)) 25 (leB 4 (sumN (summedL l))) = blockL l := by
    have e1 : ovrL (List.replicate 256 0) 0 (summedL l) = summedL l ++ List.replicate 231 0 := by simp [ovrL, hsl]
    rw [e1, ovrL, leB_length, List.take_append_of_le_length (by omega), List.take_of_length_le (by omega), List.drop_append, List.drop_of_length_le (by omega), hsl]
    simp [blockL]
  have hwg := hw.1
  have hwe := hw.2.1
  obtain ⟨g, e, a, b, c, d, f⟩ := l
  obtain ⟨S, hS⟩ : ∃ S, summedL (g, e, a, b, c, d, f) = S := ⟨_, rfl⟩
  rw [hS] at hfl hsl hbl
  clear hS
  have c0 := hk.cell 0
  obtain ⟨c0, c1, c2, c3, c4, c5, c6⟩ := hk.seven
  simp only [lbC] at hw0
  have HF : Hid (∀ q0 q1 q2 q3 k3, flat [⟨q0, 1, 1, [67]⟩, ⟨q1, 4, 4, leB 4 g⟩, ⟨q2, 4, 4, leB 4 e⟩, ⟨q3, 16, k3, bytesP (a, b, c, d, f)⟩] = S) := Lib.hid fun _ _ _ _ _ => hfl
  have HSL := Lib.hid hsl
  have HBL := Lib.hid hbl
  have HP := Lib.hid hp
  have HB := Lib.hid hb0
  have HK := Lib.hid hk
  have HB1 := Lib.hid (lBytes_any g hwg)
  have HB2 := Lib.hid (lBytes_any e hwe)
  clear hp hb0 hk hfl hsl hbl hwg hwe hw hm hz
  go_enter Tryz.func83, Tryz.ntmps83
  go_wp2_with (go_at_call 137
               refine HP.out.mono ?_
               rintro ev w1 ⟨v1, rfl, o1, b1⟩
               rw [bytesP_length] at o1
               obtain ⟨A1, C1, rfl, s1⟩ := own_to o1
               have HS1 := Lib.hid s1
               have HB1w := Lib.hid (HB.out.trans (b1.mono HB.out.size))
               obtain ⟨c0, c1, c2, c3, c4, c5, c6⟩ := (HK.out.below b1 HK.out.lt).seven
               clear o1 s1 b1)
  go_cut [5] from 13 to 34 (fun v wx => ∃ Az Cz, v = .slice Az 25 Cz ∧ Bsl wx wx.heap.size Az 25 Cz S ∧ Below w.heap.size w wx)
  case first =>
    obtain ⟨wd, hwd⟩ : ∃ wd, w1.drew = wd := ⟨_, rfl⟩
    have HBd := Lib.hid (show Below w.heap.size w wd by rw [← hwd]; exact HB1w.out.drew)
    have bd : Below w1.heap.size w1 wd := by rw [← hwd]; exact (Below.refl _ _).drew
    have srd := HS1.out.step bd
    have d0 : wd.cell? ⟨w.heap.size, 0, none⟩ = some (.int .u32 (g : Int)) := (bd.cell (p := ⟨w.heap.size, 0, none⟩) (World.block_lt_of_cell? w1 _ c0)).trans c0
    have d1 : wd.cell? ⟨w.heap.size, 1, none⟩ = some (.int .u32 (e : Int)) := (bd.cell (p := ⟨w.heap.size, 1, none⟩) (World.block_lt_of_cell? w1 _ c1)).trans c1
    have C0 := fun X (hX : Below wd.heap.size wd X) => (hX.cell (p := ⟨w.heap.size, 0, none⟩) (World.block_lt_of_cell? wd _ d0)).trans d0
    have C1 := fun X (hX : Below wd.heap.size wd X) => (hX.cell (p := ⟨w.heap.size, 1, none⟩) (World.block_lt_of_cell? wd _ d1)).trans d1
    have hbwd : Below wd.heap.size wd wd := Below.refl _ _
    clear c0 c1 d0 d1 bd
    refine wpI_start (Below wd.heap.size wd) [1, 2, 4, 5, 7, 0, 3, 6, 8, 9, 10] hmx rfl hwd ?_
    clear hwd
    iterate 5 (
      refine wpI_read (v := ?_) hbwd rfl (by kernel_rfl) (by kernel_rfl) (by kernel_rfl) (fun _ _ _ h => h) (.inl ⟨by rfl, ?_⟩) ?_
      rotate_left
      · intro X hX
        have hXa := C0 X hX
        have hXb := C1 X hX
        clear hX
        go_simp
        with_reducible rfl
      try simp only [Act.put, List.setIfInBounds_toArray, List.set_cons_zero, List.set_cons_succ])
    clear C0 C1
    refine wpI_fork rfl rfl (by kernel_rfl) (fun K hK => ?_) (fun K hK => ?_)
    · go_simp
      have sn1 : Bsl (wd.alloc (.cells #[.int .u8 67] 5)) (wd.alloc (.cells #[.int .u8 67] 5)).heap.size (some ⟨wd.heap.size, 0, none⟩) 1 1 [67] := one_bsl wd 67
      have bn1 : Below wd.heap.size wd (wd.alloc (.cells #[.int .u8 67] 5)) := (Below.refl _ _).alloc (Nat.le_refl _) _
      obtain ⟨wx1, hx1⟩ : ∃ x, wd.alloc (.cells #[.int .u8 67] 5) = x := ⟨_, rfl⟩
      obtain ⟨p0_, hp0⟩ : ∃ p, wd.heap.size = p := ⟨_, rfl⟩
      rw [hx1] at sn1 bn1 ⊢
      rw [hp0] at sn1 ⊢
      clear hx1 hp0
      have srd_1 := srd.step bn1
      have hB1 := bn1
      refine hK _ _ hB1 ?_
      clear hK K
      try simp only [Act.put, List.setIfInBounds_toArray, List.set_cons_zero, List.set_cons_succ]
      refine wpI_lone rfl (by kernel_rfl) (fun K hK => ?_)
      go_simp
      refine (HB1.out wx1).mono ?_
      rintro ev wx2 ⟨p1_, rfl, zn2, sn2, bn2⟩
      clear zn2
      have srd_1_2 := srd_1.step bn2
      have sn1_2 := sn1.step bn2
      have hB2 := hB1.trans (bn2.mono hB1.size)
      refine hK _ _ hB2 ?_
      clear hK K
      try simp only [Act.put, List.setIfInBounds_toArray, List.set_cons_zero, List.set_cons_succ]
      refine wpI_lone rfl (by kernel_rfl) (fun K hK => ?_)
      go_simp
      refine (HB2.out wx2).mono ?_
      rintro ev wx3 ⟨p2_, rfl, zn3, sn3, bn3⟩
      clear zn3
      have srd_1_2_3 := srd_1_2.step bn3
      have sn1_2_3 := sn1_2.step bn3
      have sn2_3 := sn2.step bn3
      have hB3 := hB2.trans (bn3.mono hB2.size)
      refine hK _ _ hB3 ?_
      clear hK K
      try simp only [Act.put, List.setIfInBounds_toArray, List.set_cons_zero, List.set_cons_succ]
      refine wpI_lone rfl (by kernel_rfl) (fun K hK => ?_)
      go_simp
      have bq : Below wx3.heap.size wx3 (wx3.alloc (.cells #[.slice (some ⟨p0_, 0, none⟩) 1 1, .slice (some ⟨p1_, 0, none⟩) 4 4, .slice (some ⟨p2_, 0, none⟩) 4 4, .slice A1 16 C1] 26)) := (Below.refl _ _).alloc (Nat.le_refl _) _
      have xq := Blk.new wx3 26 #[.slice (some ⟨p0_, 0, none⟩) 1 1, .slice (some ⟨p1_, 0, none⟩) 4 4, .slice (some ⟨p2_, 0, none⟩) 4 4, .slice A1 16 C1]
      obtain ⟨wq, hq⟩ : ∃ x, wx3.alloc (.cells #[.slice (some ⟨p0_, 0, none⟩) 1 1, .slice (some ⟨p1_, 0, none⟩) 4 4, .slice (some ⟨p2_, 0, none⟩) 4 4, .slice A1 16 C1] 26) = x := ⟨_, rfl⟩
      obtain ⟨r, hr⟩ : ∃ p, wx3.heap.size = p := ⟨_, rfl⟩
      rw [hq] at bq xq ⊢
      have hbq := hB3.trans (bq.mono hB3.size)
      have hcc := concat_own r 4 [⟨some ⟨p0_, 0, none⟩, 1, 1, [67]⟩, ⟨some ⟨p1_, 0, none⟩, 4, 4, leB 4 g⟩, ⟨some ⟨p2_, 0, none⟩, 4, 4, leB 4 e⟩, ⟨A1, 16, C1, bytesP (a, b, c, d, f)⟩] wq (by rw [← hr]; exact xq.lt) (by simp) (by simp)
        (by intro i hi; rw [← hr]; match i, hi with | 0, _ => exact xq.cell 0 | 1, _ => exact xq.cell 1 | 2, _ => exact xq.cell 2 | 3, _ => exact xq.cell 3)
        (by intro i hi; match i, hi with | 0, _ => exact sn1_2_3.step bq | 1, _ => exact sn2_3.step bq | 2, _ => exact sn3.step bq | 3, _ => exact srd_1_2_3.step bq)
        (by simp [flat, leB_length, bytesP_length]) (by simp [flat, leB_length, bytesP_length])
      rw [HF.out] at hcc
      rw [hr]
      refine hK _ _ hbq ?_
      clear hK K hq hr xq bq
      try simp only [Act.put, List.setIfInBounds_toArray, List.set_cons_zero, List.set_cons_succ]
      refine wpI_lone rfl (by kernel_rfl) (fun K hK => ?_)
      go_simp
      refine hcc.mono ?_
      rintro ev wz ⟨v, rfl, oz, bz⟩
      rw [HSL.out] at oz
      obtain ⟨Az, Cz, rfl, sz⟩ := own_to oz
      have hbz := hbq.trans (bz.mono hbq.size)
      refine hK _ _ hbz ?_
      clear hK K hcc
      try simp only [Act.put, List.setIfInBounds_toArray, List.set_cons_zero, List.set_cons_succ]
      iterate 1 (
        refine wpI_read (v := ?_) hbz rfl (by kernel_rfl) (by kernel_rfl) (by kernel_rfl) (fun _ _ _ h => h) (.inl ⟨by rfl, ?_⟩) ?_
        rotate_left
        · intro X hX
          clear hX
          go_simp
          with_reducible rfl
        try simp only [Act.put, List.setIfInBounds_toArray, List.set_cons_zero, List.set_cons_succ])
      refine wpI_done (by kernel_rfl) ?_
      go_wp2_with fail
      go_meet
      exact ⟨Az, Cz, rfl, sz, HBd.out.trans (hbz.mono HBd.out.size)⟩
    · go_simp
      refine (HB1.out wd).mono ?_
      rintro ev wx4 ⟨p1_, rfl, zn4, sn4, bn4⟩
      clear zn4
      have srd_4 := srd.step bn4
      have hB4 := bn4
      refine hK _ _ hB4 ?_
      clear hK K
      try simp only [Act.put, List.setIfInBounds_toArray, List.set_cons_zero, List.set_cons_succ]
      refine wpI_fork rfl rfl (by kernel_rfl) (fun K hK => ?_) (fun K hK => ?_)
      · go_simp
        have sn5 : Bsl (wx4.alloc (.cells #[.int .u8 67] 5)) (wx4.alloc (.cells #[.int .u8 67] 5)).heap.size (some ⟨wx4.heap.size, 0, none⟩) 1 1 [67] := one_bsl wx4 67
        have bn5 : Below wx4.heap.size wx4 (wx4.alloc (.cells #[.int .u8 67] 5)) := (Below.refl _ _).alloc (Nat.le_refl _) _
        obtain ⟨wx5, hx5⟩ : ∃ x, wx4.alloc (.cells #[.int .u8 67] 5) = x := ⟨_, rfl⟩
        obtain ⟨p0_, hp0⟩ : ∃ p, wx4.heap.size = p := ⟨_, rfl⟩
        rw [hx5] at sn5 bn5 ⊢
        rw [hp0] at sn5 ⊢
        clear hx5 hp0
        have srd_4_5 := srd_4.step bn5
        have sn4_5 := sn4.step bn5
        have hB5 := hB4.trans (bn5.mono hB4.size)
        refine hK _ _ hB5 ?_
        clear hK K
        try simp only [Act.put, List.setIfInBounds_toArray, List.set_cons_zero, List.set_cons_succ]
        refine wpI_lone rfl (by kernel_rfl) (fun K hK => ?_)
        go_simp
        refine (HB2.out wx5).mono ?_
        rintro ev wx6 ⟨p2_, rfl, zn6, sn6, bn6⟩
        clear zn6
        have srd_4_5_6 := srd_4_5.step bn6
        have sn4_5_6 := sn4_5.step bn6
        have sn5_6 := sn5.step bn6
        have hB6 := hB5.trans (bn6.mono hB5.size)
        refine hK _ _ hB6 ?_
        clear hK K
        try simp only [Act.put, List.setIfInBounds_toArray, List.set_cons_zero, List.set_cons_succ]
        refine wpI_lone rfl (by kernel_rfl) (fun K hK => ?_)
        go_simp
        have bq : Below wx6.heap.size wx6 (wx6.alloc (.cells #[.slice (some ⟨p0_, 0, none⟩) 1 1, .slice (some ⟨p1_, 0, none⟩) 4 4, .slice (some ⟨p2_, 0, none⟩) 4 4, .slice A1 16 C1] 26)) := (Below.refl _ _).alloc (Nat.le_refl _) _
        have xq := Blk.new wx6 26 #[.slice (some ⟨p0_, 0, none⟩) 1 1, .slice (some ⟨p1_, 0, none⟩) 4 4, .slice (some ⟨p2_, 0, none⟩) 4 4, .slice A1 16 C1]
        obtain ⟨wq, hq⟩ : ∃ x, wx6.alloc (.cells #[.slice (some ⟨p0_, 0, none⟩) 1 1, .slice (some ⟨p1_, 0, none⟩) 4 4, .slice (some ⟨p2_, 0, none⟩) 4 4, .slice A1 16 C1] 26) = x := ⟨_, rfl⟩
        obtain ⟨r, hr⟩ : ∃ p, wx6.heap.size = p := ⟨_, rfl⟩
        rw [hq] at bq xq ⊢
        have hbq := hB6.trans (bq.mono hB6.size)
        have hcc := concat_own r 4 [⟨some ⟨p0_, 0, none⟩, 1, 1, [67]⟩, ⟨some ⟨p1_, 0, none⟩, 4, 4, leB 4 g⟩, ⟨some ⟨p2_, 0, none⟩, 4, 4, leB 4 e⟩, ⟨A1, 16, C1, bytesP (a, b, c, d, f)⟩] wq (by rw [← hr]; exact xq.lt) (by simp) (by simp)
          (by intro i hi; rw [← hr]; match i, hi with | 0, _ => exact xq.cell 0 | 1, _ => exact xq.cell 1 | 2, _ => exact xq.cell 2 | 3, _ => exact xq.cell 3)
          (by intro i hi; match i, hi with | 0, _ => exact sn5_6.step bq | 1, _ => exact sn4_5_6.step bq | 2, _ => exact sn6.step bq | 3, _ => exact srd_4_5_6.step bq)
          (by simp [flat, leB_length, bytesP_length]) (by simp [flat, leB_length, bytesP_length])
        rw [HF.out] at hcc
        rw [hr]
        refine hK _ _ hbq ?_
        clear hK K hq hr xq bq
        try simp only [Act.put, List.setIfInBounds_toArray, List.set_cons_zero, List.set_cons_succ]
        refine wpI_lone rfl (by kernel_rfl) (fun K hK => ?_)
        go_simp
        refine hcc.mono ?_
        rintro ev wz ⟨v, rfl, oz, bz⟩
        rw [HSL.out] at oz
        obtain ⟨Az, Cz, rfl, sz⟩ := own_to oz
        have hbz := hbq.trans (bz.mono hbq.size)
        refine hK _ _ hbz ?_
        clear hK K hcc
        try simp only [Act.put, List.setIfInBounds_toArray, List.set_cons_zero, List.set_cons_succ]
        iterate 1 (
          refine wpI_read (v := ?_) hbz rfl (by kernel_rfl) (by kernel_rfl) (by kernel_rfl) (fun _ _ _ h => h) (.inl ⟨by rfl, ?_⟩) ?_
          rotate_left
          · intro X hX
            clear hX
            go_simp
            with_reducible rfl
          try simp only [Act.put, List.setIfInBounds_toArray, List.set_cons_zero, List.set_cons_succ])
        refine wpI_done (by kernel_rfl) ?_
        go_wp2_with fail
        go_meet
        exact ⟨Az, Cz, rfl, sz, HBd.out.trans (hbz.mono HBd.out.size)⟩
      · go_simp
        refine (HB2.out wx4).mono ?_
        rintro ev wx7 ⟨p2_, rfl, zn7, sn7, bn7⟩
        clear zn7
        have srd_4_7 := srd_4.step bn7
        have sn4_7 := sn4.step bn7
        have hB7 := hB4.trans (bn7.mono hB4.size)
        refine hK _ _ hB7 ?_
        clear hK K
        try simp only [Act.put, List.setIfInBounds_toArray, List.set_cons_zero, List.set_cons_succ]
        refine wpI_lone rfl (by kernel_rfl) (fun K hK => ?_)
        go_simp
        have sn8 : Bsl (wx7.alloc (.cells #[.int .u8 67] 5)) (wx7.alloc (.cells #[.int .u8 67] 5)).heap.size (some ⟨wx7.heap.size, 0, none⟩) 1 1 [67] := one_bsl wx7 67
        have bn8 : Below wx7.heap.size wx7 (wx7.alloc (.cells #[.int .u8 67] 5)) := (Below.refl _ _).alloc (Nat.le_refl _) _
        obtain ⟨wx8, hx8⟩ : ∃ x, wx7.alloc (.cells #[.int .u8 67] 5) = x := ⟨_, rfl⟩
        obtain ⟨p0_, hp0⟩ : ∃ p, wx7.heap.size = p := ⟨_, rfl⟩
        rw [hx8] at sn8 bn8 ⊢
        rw [hp0] at sn8 ⊢
        clear hx8 hp0
        have srd_4_7_8 := srd_4_7.step bn8
        have sn4_7_8 := sn4_7.step bn8
        have sn7_8 := sn7.step bn8
        have hB8 := hB7.trans (bn8.mono hB7.size)
        refine hK _ _ hB8 ?_
        clear hK K
        try simp only [Act.put, List.setIfInBounds_toArray, List.set_cons_zero, List.set_cons_succ]
        refine wpI_lone rfl (by kernel_rfl) (fun K hK => ?_)
        go_simp
        have bq : Below wx8.heap.size wx8 (wx8.alloc (.cells #[.slice (some ⟨p0_, 0, none⟩) 1 1, .slice (some ⟨p1_, 0, none⟩) 4 4, .slice (some ⟨p2_, 0, none⟩) 4 4, .slice A1 16 C1] 26)) := (Below.refl _ _).alloc (Nat.le_refl _) _
        have xq := Blk.new wx8 26 #[.slice (some ⟨p0_, 0, none⟩) 1 1, .slice (some ⟨p1_, 0, none⟩) 4 4, .slice (some ⟨p2_, 0, none⟩) 4 4, .slice A1 16 C1]
        obtain ⟨wq, hq⟩ : ∃ x, wx8.alloc (.cells #[.slice (some ⟨p0_, 0, none⟩) 1 1, .slice (some ⟨p1_, 0, none⟩) 4 4, .slice (some ⟨p2_, 0, none⟩) 4 4, .slice A1 16 C1] 26) = x := ⟨_, rfl⟩
        obtain ⟨r, hr⟩ : ∃ p, wx8.heap.size = p := ⟨_, rfl⟩
        rw [hq] at bq xq ⊢
        have hbq := hB8.trans (bq.mono hB8.size)
        have hcc := concat_own r 4 [⟨some ⟨p0_, 0, none⟩, 1, 1, [67]⟩, ⟨some ⟨p1_, 0, none⟩, 4, 4, leB 4 g⟩, ⟨some ⟨p2_, 0, none⟩, 4, 4, leB 4 e⟩, ⟨A1, 16, C1, bytesP (a, b, c, d, f)⟩] wq (by rw [← hr]; exact xq.lt) (by simp) (by simp)
          (by intro i hi; rw [← hr]; match i, hi with | 0, _ => exact xq.cell 0 | 1, _ => exact xq.cell 1 | 2, _ => exact xq.cell 2 | 3, _ => exact xq.cell 3)
          (by intro i hi; match i, hi with | 0, _ => exact sn8.step bq | 1, _ => exact sn4_7_8.step bq | 2, _ => exact sn7_8.step bq | 3, _ => exact srd_4_7_8.step bq)
          (by simp [flat, leB_length, bytesP_length]) (by simp [flat, leB_length, bytesP_length])
        rw [HF.out] at hcc
        rw [hr]
        refine hK _ _ hbq ?_
        clear hK K hq hr xq bq
        try simp only [Act.put, List.setIfInBounds_toArray, List.set_cons_zero, List.set_cons_succ]
        refine wpI_lone rfl (by kernel_rfl) (fun K hK => ?_)
        go_simp
        refine hcc.mono ?_
        rintro ev wz ⟨v, rfl, oz, bz⟩
        rw [HSL.out] at oz
        obtain ⟨Az, Cz, rfl, sz⟩ := own_to oz
        have hbz := hbq.trans (bz.mono hbq.size)
        refine hK _ _ hbz ?_
        clear hK K hcc
        try simp only [Act.put, List.setIfInBounds_toArray, List.set_cons_zero, List.set_cons_succ]
        iterate 1 (
          refine wpI_read (v := ?_) hbz rfl (by kernel_rfl) (by kernel_rfl) (by kernel_rfl) (fun _ _ _ h => h) (.inl ⟨by rfl, ?_⟩) ?_
          rotate_left
          · intro X hX
            clear hX
            go_simp
            with_reducible rfl
          try simp only [Act.put, List.setIfInBounds_toArray, List.set_cons_zero, List.set_cons_succ])
        refine wpI_done (by kernel_rfl) ?_
        go_wp2_with fail
        go_meet
        exact ⟨Az, Cz, rfl, sz, HBd.out.trans (hbz.mono HBd.out.size)⟩
  case rest =>
    obtain ⟨Az, Cz, rfl, sz, bz⟩ := hcut
    obtain ⟨z, hz⟩ : ∃ z : List UInt8, List.replicate 256 0 = z := ⟨_, rfl⟩
    have hmk : ∀ W : World, (Instr.makeSlice 26 (.int .i64 256) (.int .i64 256)).run Tryz.prog W = .ok (.slice (some ⟨W.heap.size, 0, none⟩) 256 256) (W.alloc (.cells (ar z) 5)) := by rw [← hz]; exact mkBytes 256 (by omega)
    have hzl : z.length = 256 := by rw [← hz]; exact List.length_replicate ..
    rw [hz] at HBL
    have HZ256 := Lib.hid hzl
    have HZO : Hid ((ovrL z 0 S).length = 256) := Lib.hid (by rw [ovrL_length (by have := HSL.out; omega)]; exact hzl)
    clear hz hzl HB1 HB2 HF HP
    obtain ⟨G, hG⟩ : ∃ G, wc.heap.size = G := ⟨_, rfl⟩
    have hsl : ∀ W : World, (Instr.slice 26 (.slice (some ⟨G, 0, none⟩) 256 256) (some (.int .i64 25)) none none).run Tryz.prog W = .ok (.slice (some ⟨G, 25, none⟩) 231 231) W := fun W => slice_from_l W G 0 256 256 25 (by omega) (by omega)
    go_wp2_with fail
    obtain ⟨wm, hwm⟩ : ∃ wm, (wc.alloc (.cells (ar z) 5)).drew = wm := ⟨_, rfl⟩
    have HBm := Lib.hid (show Below w.heap.size w wm by rw [← hwm]; exact (bz.alloc bz.size _).drew)
    have HGL := Lib.hid (show w.heap.size ≤ G by rw [← hG]; exact bz.size)
    have xwm : Blk wm G 5 (ar z) := by rw [← hwm, ← hG]; exact (Blk.new wc _ _).drew
    have HGM := Lib.hid xwm.lt
    have bm : Below G wc wm := by rw [← hwm, ← hG]; exact ((Below.refl _ _).alloc (Nat.le_refl _) _).drew
    have swm : Bsl wm G Az 25 Cz S := by rw [hG] at sz; exact sz.below bm
    have HSM := Lib.hid swm
    have bwm : Below G wm wm := Below.refl _ _
    clear bm bz sz hmk
    refine wpI_start (Below G wm) [0, 1, 2, 5, 3, 4, 6, 7, 8] hmx rfl hwm ?_
    clear hwm hG
    iterate 4 (
      refine wpI_read (v := ?_) bwm rfl (by kernel_rfl) (by kernel_rfl) (by kernel_rfl) (fun _ _ _ h => h) (.inl ⟨by rfl, ?_⟩) ?_
      rotate_left
      · intro X hX
        clear hX
        go_simp
        with_reducible rfl
      try simp only [Act.put, List.setIfInBounds_toArray, List.set_cons_zero, List.set_cons_succ])
    refine wpI_lone rfl (by kernel_rfl) (fun K hK => ?_)
    refine wpI_copy_part rfl (.tmp 25) (.tmp 26) rfl G 0 256 25 256 rfl z xwm G Az Cz S rfl swm (by omega) (by omega) (by have := HZ256.out; omega) ?_
    intro wy101 xn101 gn101 zn101
    have bn101 : Below G wm wy101 := below_only bwm (Nat.le_refl G) gn101 (by have := bwm.size; have := HGM.out; omega)
    have sn101 : Bsl wy101 G Az 25 Cz S := HSM.out.below bn101
    refine hK _ _ bn101 ?_
    clear hK K
    try simp only [Act.put, List.setIfInBounds_toArray, List.set_cons_zero, List.set_cons_succ]
    iterate 1 (
      refine wpI_read (v := ?_) bn101 rfl (by kernel_rfl) (by kernel_rfl) (by kernel_rfl) (fun _ _ _ h => h) (.inl ⟨by rfl, ?_⟩) ?_
      rotate_left
      · intro X hX
        clear hX
        go_simp
        with_reducible rfl
      try simp only [Act.put, List.setIfInBounds_toArray, List.set_cons_zero, List.set_cons_succ])
    refine wpI_lone rfl (by kernel_rfl) (fun K hK => ?_)
    go_simp
    refine (sum_any Az 25 Cz S wy101 (sn101.more (by have := bn101.size; have := HGM.out; omega)) (by omega)).mono ?_
    rintro ev wy102 ⟨rfl, bb102⟩
    have bn102 : Below G wm wy102 := bn101.trans (bb102.mono (by have := bn101.size; have := HGM.out; omega))
    have sn102 : Bsl wy102 G Az 25 Cz S := HSM.out.below bn102
    have xn102 := xn101.below bb102 xn101.lt
    refine hK _ _ bn102 ?_
    clear hK K
    try simp only [Act.put, List.setIfInBounds_toArray, List.set_cons_zero, List.set_cons_succ]
    refine wpI_lone rfl (by kernel_rfl) (fun K hK => ?_)
    go_simp
    refine (lBytes_any (sumN S) (sumN_lt S) wy102).mono ?_
    rintro ev wy103 ⟨gs, rfl, zs, nn103, bb103⟩
    have hgs : G < gs := by have := bn102.size; have := HGM.out; omega
    have bn103 : Below G wm wy103 := bn102.trans (bb103.mono (by have := bn102.size; have := HGM.out; omega))
    have sn103 : Bsl wy103 G Az 25 Cz S := HSM.out.below bn103
    have xn103 := xn102.below bb103 xn102.lt
    refine hK _ _ bn103 ?_
    clear hK K
    try simp only [Act.put, List.setIfInBounds_toArray, List.set_cons_zero, List.set_cons_succ]
    refine wpI_lone rfl (by kernel_rfl) (fun K hK => ?_)
    refine wpI_copy_part rfl (.tmp 28) (.tmp 31) rfl G 25 231 4 231 rfl (ovrL z 0 S) xn103 wy103.heap.size (some ⟨gs, 0, none⟩) 4 (leB 4 (sumN S)) rfl nn103 (by omega) (by omega) (by have := HZO.out; omega) ?_
    intro wy104 xn104 gn104 zn104
    have bn104 : Below G wm wy104 := below_only bn103 (Nat.le_refl G) gn104 (by have := bn103.size; have := HGM.out; omega)
    have sn104 : Bsl wy104 G Az 25 Cz S := HSM.out.below bn104
    have nn104 := nn103.beside gn104 (by omega)
    refine hK _ _ bn104 ?_
    clear hK K
    try simp only [Act.put, List.setIfInBounds_toArray, List.set_cons_zero, List.set_cons_succ]
    refine wpI_done (by kernel_rfl) ?_
    have hfin := xn104
    rw [HBL.out] at hfin
    have hfb := bn104
    clear xn104 bn104
    go_wp2_with fail
    go_ret
    exact ⟨G, rfl, HGL.out, hfin.bsl (blockL_length _) (by omega), HBm.out.trans (hfb.mono HGL.out)⟩
end Go.Proofs.YtafbidhbmfdlkaaGreatDoor
/-
  label.labelOf, whatever block it is handed, answers the label whose block it is, or that it is none's; nothing that was there is written.
-/
namespace Go.Proofs.YtafbidhbmfdlkaaGreatDoor
open Go.RowKit Go.Shelf
set_option maxRecDepth 100000

theorem lEqual_any (a : Option Addr) (la ca : Nat) (s : List UInt8) (b : Option Addr) (lb cb : Nat) (t : List UInt8) (w : World) (hA : Bsl w w.heap.size a la ca s) (hB : Bsl w w.heap.size b lb cb t) :
    Calls Tryz.prog 82 #[.slice a la ca, .slice b lb cb] w fun e w' => e = .returned (.bool (decide (s = t))) ∧ w = w' := by
  have c1 := hA.conv
  have c2 := hB.conv
  have eq : ((strOf s).toList == (strOf t).toList) = decide (s = t) := by
    rw [strOf_toList, strOf_toList]
    by_cases h : s = t <;> simp [h]
  have HE := Lib.hid eq; clear eq hA hB
  go_enter Tryz.func82, Tryz.ntmps82
  go_wp2_with fail
  go_ret
  exact ⟨by rw [← HE.out]; rfl, rfl⟩
theorem labelO_eq (b : List UInt8) : labelO b = if MayP (readL b).2.2 then (if MayL (readL b) ∧ b = blockL (readL b) then some (readL b) else none) else none := rfl
/-- A label, and whether it is one. -/
def ofV : Option Lb → Lb × Bool
  | some l => (l, true)
  | none => (l0, false)
set_option maxHeartbeats 4000000 in
theorem lOf_any (A : Option Addr) (cap : Nat) (s : List UInt8) (w : World) (hB : Bsl w w.heap.size A 256 cap s) (hz : Szs w) : Calls Tryz.prog 40 #[.slice A 256 cap] w fun e w' => e = .returned (.tuple #[lbV (ofV (labelO s)).1, .bool (ofV (labelO s)).2]) ∧ Below w.heap.size w w' := by
  have hmx : Tryz.prog.follows Departure.mixedOrders = true := by kernel_rfl
  have hl := hB.1
  obtain ⟨b0, o0, rfl, hblt, hcell⟩ := hB.2.2.2.2 (by omega)
  obtain ⟨A, hA⟩ : ∃ A : Option Addr, some (⟨b0, o0, none⟩ : Addr) = A := ⟨_, rfl⟩
  have hcap := hB.2.1
  have hsl : ∀ X : World, (Instr.slice 26 (.slice (some ⟨b0, o0, none⟩) 256 cap) (some (.int .i64 9)) (some (.int .i64 25)) none).run Tryz.prog X = .ok (.slice (some ⟨b0, o0 + 9, none⟩) 16 (cap - 9)) X := fun X => slice_lh X b0 o0 256 cap 9 16 (by omega) (by omega)
  have hwin := hB.win 9 16 (by omega)
  rw [hA] at hsl hB
  have hk : Blk (w.alloc (.cells #[.int .u32 0, .int .u32 0, .int .i64 0, .int .u32 0, .int .u32 0, .int .u32 0, .int .u32 0] 67)) w.heap.size 67 #[.int .u32 0, .int .u32 0, .int .i64 0, .int .u32 0, .int .u32 0, .int .u32 0, .int .u32 0] := Blk.new w _ _
  have hb1 : Below w.heap.size w (w.alloc (.cells #[.int .u32 0, .int .u32 0, .int .i64 0, .int .u32 0, .int .u32 0, .int .u32 0, .int .u32 0] 67)) := (Below.refl _ w).alloc (Nat.le_refl _) _
  have hrd := Read_any _ _ _ _ _ (hwin.step hb1) (hz.step hb1)
  have hlw : ((s.drop 9).take 16).length = 16 := hwin.1
  have HO := Lib.hid (labelO_eq s)
  have hwf := wf_readL s
  obtain ⟨R, hR⟩ : ∃ R, labelO s = R := ⟨_, rfl⟩
  rw [hR] at HO ⊢
  clear hR
  obtain ⟨L, hL⟩ : ∃ L, readL s = L := ⟨_, rfl⟩
  have e1 : leN ((s.drop 1).take 4) = L.1 := by rw [← hL]; rfl
  have e2 : leN ((s.drop 5).take 4) = L.2.1 := by rw [← hL]; rfl
  have e3 : getP ((s.drop 9).take 16) = L.2.2 := by rw [← hL]; rfl
  rw [hL] at hwf HO
  rw [preadO, if_pos hlw, e3] at hrd
  obtain ⟨g, e, a, b, c, d, f⟩ := L
  simp only at e1 e2 e3 hrd HO
  have HG := Lib.hid e1
  have HE := Lib.hid e2
  have HWF := Lib.hid hwf
  have HK := Lib.hid hk
  have HB1 := Lib.hid hb1
  have HZ := Lib.hid hz
  rw [hA]
  clear hL e1 e2 e3 hlw hwin hwf hk hb1 hz hl hblt hcell hcap hA
  by_cases hmp : MayP (a, b, c, d, f)
  · rw [if_pos hmp] at hrd
    rw [if_pos hmp] at HO
    have HR := Lib.hid hrd
    clear hrd hmp
    go_enter Tryz.func40, Tryz.ntmps40
    go_wp2_with (go_at_call 79
                 refine HR.out.mono ?_
                 rintro ev w1 ⟨rfl, b1⟩
                 have HB2 := Lib.hid (HB1.out.trans (b1.mono (by simp)))
                 have HK2 := Lib.hid (HK.out.below b1 HK.out.lt)
                 have HB3 := Lib.hid (HB2.out.alloc HB2.out.size (.cells #[.int .i64 a, .int .u32 (b : Int), .int .u32 (c : Int), .int .u32 (d : Int), .int .u32 (f : Int)] 31))
                 have HK3 := Lib.hid (HK2.out.alloc (.cells #[.int .i64 a, .int .u32 (b : Int), .int .u32 (c : Int), .int .u32 (d : Int), .int .u32 (f : Int)] 31))
                 have HP3 := Lib.hid (Blk.new w1 31 #[.int .i64 a, .int .u32 (b : Int), .int .u32 (c : Int), .int .u32 (d : Int), .int .u32 (f : Int)])
                 obtain ⟨WC, hWC⟩ : ∃ x, w1.alloc (.cells #[.int .i64 a, .int .u32 (b : Int), .int .u32 (c : Int), .int .u32 (d : Int), .int .u32 (f : Int)] 31) = x := ⟨_, rfl⟩
                 obtain ⟨GP, hGP⟩ : ∃ x, w1.heap.size = x := ⟨_, rfl⟩
                 rw [hWC] at HB3 HK3 HP3
                 rw [hGP] at HP3
                 clear b1)
    clear hWC hGP
    have c0 : True := trivial
    have c1 : True := trivial
    have c2 : True := trivial
    have c3 : True := trivial
    have c4 : True := trivial
    go_cut [6] from 16 to 34 (fun v wx => ∃ ga, v = .pointer (some ⟨ga, 0, none⟩) ∧ w.heap.size < ga ∧ Blk wx ga 67 #[.int .u32 (g : Int), .int .u32 (e : Int), .int .i64 a, .int .u32 (b : Int), .int .u32 (c : Int), .int .u32 (d : Int), .int .u32 (f : Int)] ∧ Below w.heap.size w wx ∧ Blk wx w.heap.size 67 #[.int .u32 0, .int .u32 0, .int .i64 0, .int .u32 0, .int .u32 0, .int .u32 0, .int .u32 0])
    case first =>
      obtain ⟨wd, hwd⟩ : ∃ wd, WC.drew = wd := ⟨_, rfl⟩
      have HBd := Lib.hid (show Below w.heap.size w wd by rw [← hwd]; exact HB3.out.drew)
      have HKd := Lib.hid (show Blk wd w.heap.size 67 #[.int .u32 0, .int .u32 0, .int .i64 0, .int .u32 0, .int .u32 0, .int .u32 0, .int .u32 0] by rw [← hwd]; exact HK3.out.drew)
      have HGd := Lib.hid HKd.out.lt
      have xp : Blk wd GP 31 #[.int .i64 a, .int .u32 (b : Int), .int .u32 (c : Int), .int .u32 (d : Int), .int .u32 (f : Int)] := by rw [← hwd]; exact HP3.out.drew
      have HS := Lib.hid (hB.step HBd.out)
      have HN1 : Hid (∀ X, Below wd.heap.size wd X → Calls Tryz.prog 80 #[.slice A 256 cap, .int .i64 1] X fun e w' => e = .returned (.int .u32 (g : Int)) ∧ Below X.heap.size X w') := Lib.hid fun X hX => by
        have := lNum_any (HS.out.step hX) 1 (by omega)
        rwa [HG.out] at this
      have HN3 : Hid (∀ X, Below wd.heap.size wd X → Calls Tryz.prog 80 #[.slice A 256 cap, .int .i64 5] X fun e' w' => e' = .returned (.int .u32 (e : Int)) ∧ Below X.heap.size X w') := Lib.hid fun X hX => by
        have := lNum_any (HS.out.step hX) 5 (by omega)
        rwa [HE.out] at this
      obtain ⟨p0_, p1_, p2_, p3_, p4_⟩ := xp.five
      have P0 := fun X (hX : Below wd.heap.size wd X) => (hX.cell (p := ⟨GP, 0, none⟩) xp.lt).trans p0_
      have P1 := fun X (hX : Below wd.heap.size wd X) => (hX.cell (p := ⟨GP, 1, none⟩) xp.lt).trans p1_
      have P2 := fun X (hX : Below wd.heap.size wd X) => (hX.cell (p := ⟨GP, 2, none⟩) xp.lt).trans p2_
      have P3 := fun X (hX : Below wd.heap.size wd X) => (hX.cell (p := ⟨GP, 3, none⟩) xp.lt).trans p3_
      have P4 := fun X (hX : Below wd.heap.size wd X) => (hX.cell (p := ⟨GP, 4, none⟩) xp.lt).trans p4_
      have hbwd : Below wd.heap.size wd wd := Below.refl _ _
      clear p0_ p1_ p2_ p3_ p4_ xp c0 c1 c2 c3 c4
      refine wpI_start (Below wd.heap.size wd) [0, 2, 4, 1, 6, 3, 5, 7] hmx rfl hwd ?_
      clear hwd
      iterate 3 (
        refine wpI_read (v := ?_) hbwd rfl (by kernel_rfl) (by kernel_rfl) (by kernel_rfl) (fun _ _ _ h => h) (.inl ⟨by rfl, ?_⟩) ?_
        rotate_left
        · intro X hX
          have q0 := P0 X hX
          have q1 := P1 X hX
          have q2 := P2 X hX
          have q3 := P3 X hX
          have q4 := P4 X hX
          clear hX
          go_simp
          with_reducible rfl
        try simp only [Act.put, List.setIfInBounds_toArray, List.set_cons_zero, List.set_cons_succ])
      clear P0 P1 P2 P3 P4
      refine wpI_fork rfl rfl (by kernel_rfl) (fun K hK => ?_) (fun K hK => ?_)
      · go_simp
        refine (HN1.out wd hbwd).mono ?_
        rintro ev wx1 ⟨rfl, bn1⟩
        have hb1 := hbwd.trans (bn1.mono hbwd.size)
        refine hK _ _ hb1 ?_
        clear hK K
        try simp only [Act.put, List.setIfInBounds_toArray, List.set_cons_zero, List.set_cons_succ]
        refine wpI_turn [3, 6, 5, 7] rfl ?_
        refine wpI_fork rfl rfl (by kernel_rfl) (fun K hK => ?_) (fun K hK => ?_)
        · go_simp
          refine (HN3.out wx1 hb1).mono ?_
          rintro ev wx2 ⟨rfl, bn2⟩
          have hb2 := hb1.trans (bn2.mono hb1.size)
          refine hK _ _ hb2 ?_
          clear hK K
          try simp only [Act.put, List.setIfInBounds_toArray, List.set_cons_zero, List.set_cons_succ]
          refine wpI_turn [5, 6, 7] rfl ?_
          iterate 1 (
            refine wpI_read (v := ?_) hb2 rfl (by kernel_rfl) (by kernel_rfl) (by kernel_rfl) (fun _ _ _ h => h) (.inl ⟨by rfl, ?_⟩) ?_
            rotate_left
            · intro X hX
              clear hX
              go_simp
              with_reducible rfl
            try simp only [Act.put, List.setIfInBounds_toArray, List.set_cons_zero, List.set_cons_succ])
          refine wpI_lone rfl (by kernel_rfl) (fun K hK => ?_)
          go_simp
          have hb3 := hb2.alloc hb2.size (.cells #[.int .u32 0, .int .u32 0, .int .i64 0, .int .u32 0, .int .u32 0, .int .u32 0, .int .u32 0] 67)
          have xa3 := Blk.new wx2 67 #[.int .u32 0, .int .u32 0, .int .i64 0, .int .u32 0, .int .u32 0, .int .u32 0, .int .u32 0]
          obtain ⟨wx3, hwa⟩ : ∃ x, wx2.alloc (.cells #[.int .u32 0, .int .u32 0, .int .i64 0, .int .u32 0, .int .u32 0, .int .u32 0, .int .u32 0] 67) = x := ⟨_, rfl⟩
          obtain ⟨ga, hga⟩ : ∃ ga, wx2.heap.size = ga := ⟨_, rfl⟩
          have hgl : wd.heap.size ≤ ga := by rw [← hga]; exact hb2.size
          rw [hwa] at hb3 xa3 ⊢
          rw [hga] at xa3 ⊢
          refine hK _ _ hb3 ?_
          clear hK K hwa hga
          try simp only [Act.put, List.setIfInBounds_toArray, List.set_cons_zero, List.set_cons_succ]
          refine wpI_lone rfl (by kernel_rfl) (fun K hK => ?_)
          have d0 := xa3.cell 0
          have d1 := xa3.cell 1
          have d2 := xa3.cell 2
          have d3 := xa3.cell 3
          have d4 := xa3.cell 4
          have d5 := xa3.cell 5
          have d6 := xa3.cell 6
          have hfz := fun i => xa3.frozen i
          go_simp
          have hxs := xa3.set7 (.int .u32 (g : Int)) (.int .u32 (e : Int)) (.int .i64 a) (.int .u32 (b : Int)) (.int .u32 (c : Int)) (.int .u32 (d : Int)) (.int .u32 (f : Int))
          have hbs := below_set7 hb3 hgl (.int .u32 (g : Int)) (.int .u32 (e : Int)) (.int .i64 a) (.int .u32 (b : Int)) (.int .u32 (c : Int)) (.int .u32 (d : Int)) (.int .u32 (f : Int))
          obtain ⟨ws, hws⟩ : ∃ ws, set7 wx3 ga (.int .u32 (g : Int)) (.int .u32 (e : Int)) (.int .i64 a) (.int .u32 (b : Int)) (.int .u32 (c : Int)) (.int .u32 (d : Int)) (.int .u32 (f : Int)) = ws := ⟨_, rfl⟩
          rw [hws] at hxs hbs
          simp only [set7] at hws
          rw [hws]
          refine hK _ _ hbs ?_
          clear hK K d0 d1 d2 d3 d4 d5 d6 hfz hws
          try simp only [Act.put, List.setIfInBounds_toArray, List.set_cons_zero, List.set_cons_succ]
          refine wpI_done (by kernel_rfl) ?_
          go_wp2_with fail
          go_meet
          exact ⟨ga, rfl, Nat.lt_of_lt_of_le HGd.out hgl, hxs, HBd.out.trans (hbs.mono HBd.out.size), HKd.out.below hbs HKd.out.lt⟩
        · go_simp
          have hb4 := hb1.alloc hb1.size (.cells #[.int .u32 0, .int .u32 0, .int .i64 0, .int .u32 0, .int .u32 0, .int .u32 0, .int .u32 0] 67)
          have xa4 := Blk.new wx1 67 #[.int .u32 0, .int .u32 0, .int .i64 0, .int .u32 0, .int .u32 0, .int .u32 0, .int .u32 0]
          obtain ⟨wx4, hwa⟩ : ∃ x, wx1.alloc (.cells #[.int .u32 0, .int .u32 0, .int .i64 0, .int .u32 0, .int .u32 0, .int .u32 0, .int .u32 0] 67) = x := ⟨_, rfl⟩
          obtain ⟨ga, hga⟩ : ∃ ga, wx1.heap.size = ga := ⟨_, rfl⟩
          have hgl : wd.heap.size ≤ ga := by rw [← hga]; exact hb1.size
          rw [hwa] at hb4 xa4 ⊢
          rw [hga] at xa4 ⊢
          refine hK _ _ hb4 ?_
          clear hK K hwa hga
          try simp only [Act.put, List.setIfInBounds_toArray, List.set_cons_zero, List.set_cons_succ]
          refine wpI_lone rfl (by kernel_rfl) (fun K hK => ?_)
          go_simp
          refine (HN3.out wx4 hb4).mono ?_
          rintro ev wx5 ⟨rfl, bn5⟩
          have hb5 := hb4.trans (bn5.mono hb4.size)
          have xa5 := xa4.below bn5 xa4.lt
          refine hK _ _ hb5 ?_
          clear hK K
          try simp only [Act.put, List.setIfInBounds_toArray, List.set_cons_zero, List.set_cons_succ]
          iterate 1 (
            refine wpI_read (v := ?_) hb5 rfl (by kernel_rfl) (by kernel_rfl) (by kernel_rfl) (fun _ _ _ h => h) (.inl ⟨by rfl, ?_⟩) ?_
            rotate_left
            · intro X hX
              clear hX
              go_simp
              with_reducible rfl
            try simp only [Act.put, List.setIfInBounds_toArray, List.set_cons_zero, List.set_cons_succ])
          refine wpI_lone rfl (by kernel_rfl) (fun K hK => ?_)
          have d0 := xa5.cell 0
          have d1 := xa5.cell 1
          have d2 := xa5.cell 2
          have d3 := xa5.cell 3
          have d4 := xa5.cell 4
          have d5 := xa5.cell 5
          have d6 := xa5.cell 6
          have hfz := fun i => xa5.frozen i
          go_simp
          have hxs := xa5.set7 (.int .u32 (g : Int)) (.int .u32 (e : Int)) (.int .i64 a) (.int .u32 (b : Int)) (.int .u32 (c : Int)) (.int .u32 (d : Int)) (.int .u32 (f : Int))
          have hbs := below_set7 hb5 hgl (.int .u32 (g : Int)) (.int .u32 (e : Int)) (.int .i64 a) (.int .u32 (b : Int)) (.int .u32 (c : Int)) (.int .u32 (d : Int)) (.int .u32 (f : Int))
          obtain ⟨ws, hws⟩ : ∃ ws, set7 wx5 ga (.int .u32 (g : Int)) (.int .u32 (e : Int)) (.int .i64 a) (.int .u32 (b : Int)) (.int .u32 (c : Int)) (.int .u32 (d : Int)) (.int .u32 (f : Int)) = ws := ⟨_, rfl⟩
          rw [hws] at hxs hbs
          simp only [set7] at hws
          rw [hws]
          refine hK _ _ hbs ?_
          clear hK K d0 d1 d2 d3 d4 d5 d6 hfz hws
          try simp only [Act.put, List.setIfInBounds_toArray, List.set_cons_zero, List.set_cons_succ]
          refine wpI_done (by kernel_rfl) ?_
          go_wp2_with fail
          go_meet
          exact ⟨ga, rfl, Nat.lt_of_lt_of_le HGd.out hgl, hxs, HBd.out.trans (hbs.mono HBd.out.size), HKd.out.below hbs HKd.out.lt⟩
      · go_simp
        have hb6 := hbwd.alloc hbwd.size (.cells #[.int .u32 0, .int .u32 0, .int .i64 0, .int .u32 0, .int .u32 0, .int .u32 0, .int .u32 0] 67)
        have xa6 := Blk.new wd 67 #[.int .u32 0, .int .u32 0, .int .i64 0, .int .u32 0, .int .u32 0, .int .u32 0, .int .u32 0]
        obtain ⟨wx6, hwa⟩ : ∃ x, wd.alloc (.cells #[.int .u32 0, .int .u32 0, .int .i64 0, .int .u32 0, .int .u32 0, .int .u32 0, .int .u32 0] 67) = x := ⟨_, rfl⟩
        obtain ⟨ga, hga⟩ : ∃ ga, wd.heap.size = ga := ⟨_, rfl⟩
        have hgl : wd.heap.size ≤ ga := by rw [← hga]; exact hbwd.size
        rw [hwa] at hb6 xa6 ⊢
        rw [hga] at xa6 ⊢
        refine hK _ _ hb6 ?_
        clear hK K hwa hga
        try simp only [Act.put, List.setIfInBounds_toArray, List.set_cons_zero, List.set_cons_succ]
        refine wpI_lone rfl (by kernel_rfl) (fun K hK => ?_)
        go_simp
        refine (HN1.out wx6 hb6).mono ?_
        rintro ev wx7 ⟨rfl, bn7⟩
        have hb7 := hb6.trans (bn7.mono hb6.size)
        have xa7 := xa6.below bn7 xa6.lt
        refine hK _ _ hb7 ?_
        clear hK K
        try simp only [Act.put, List.setIfInBounds_toArray, List.set_cons_zero, List.set_cons_succ]
        refine wpI_lone rfl (by kernel_rfl) (fun K hK => ?_)
        go_simp
        refine (HN3.out wx7 hb7).mono ?_
        rintro ev wx8 ⟨rfl, bn8⟩
        have hb8 := hb7.trans (bn8.mono hb7.size)
        have xa8 := xa7.below bn8 xa7.lt
        refine hK _ _ hb8 ?_
        clear hK K
        try simp only [Act.put, List.setIfInBounds_toArray, List.set_cons_zero, List.set_cons_succ]
        iterate 1 (
          refine wpI_read (v := ?_) hb8 rfl (by kernel_rfl) (by kernel_rfl) (by kernel_rfl) (fun _ _ _ h => h) (.inl ⟨by rfl, ?_⟩) ?_
          rotate_left
          · intro X hX
            clear hX
            go_simp
            with_reducible rfl
          try simp only [Act.put, List.setIfInBounds_toArray, List.set_cons_zero, List.set_cons_succ])
        refine wpI_lone rfl (by kernel_rfl) (fun K hK => ?_)
        have d0 := xa8.cell 0
        have d1 := xa8.cell 1
        have d2 := xa8.cell 2
        have d3 := xa8.cell 3
        have d4 := xa8.cell 4
        have d5 := xa8.cell 5
        have d6 := xa8.cell 6
        have hfz := fun i => xa8.frozen i
        go_simp
        have hxs := xa8.set7 (.int .u32 (g : Int)) (.int .u32 (e : Int)) (.int .i64 a) (.int .u32 (b : Int)) (.int .u32 (c : Int)) (.int .u32 (d : Int)) (.int .u32 (f : Int))
        have hbs := below_set7 hb8 hgl (.int .u32 (g : Int)) (.int .u32 (e : Int)) (.int .i64 a) (.int .u32 (b : Int)) (.int .u32 (c : Int)) (.int .u32 (d : Int)) (.int .u32 (f : Int))
        obtain ⟨ws, hws⟩ : ∃ ws, set7 wx8 ga (.int .u32 (g : Int)) (.int .u32 (e : Int)) (.int .i64 a) (.int .u32 (b : Int)) (.int .u32 (c : Int)) (.int .u32 (d : Int)) (.int .u32 (f : Int)) = ws := ⟨_, rfl⟩
        rw [hws] at hxs hbs
        simp only [set7] at hws
        rw [hws]
        refine hK _ _ hbs ?_
        clear hK K d0 d1 d2 d3 d4 d5 d6 hfz hws
        try simp only [Act.put, List.setIfInBounds_toArray, List.set_cons_zero, List.set_cons_succ]
        refine wpI_done (by kernel_rfl) ?_
        go_wp2_with fail
        go_meet
        exact ⟨ga, rfl, Nat.lt_of_lt_of_le HGd.out hgl, hxs, HBd.out.trans (hbs.mono HBd.out.size), HKd.out.below hbs HKd.out.lt⟩
    case rest =>
      obtain ⟨ga, rfl, hgl, hxp, hbx, hkx⟩ := hcut
      obtain ⟨c0, c1, c2, c3, c4, c5, c6⟩ := hxp.seven
      have HBx := Lib.hid hbx
      have HKx := Lib.hid hkx
      have HPx := Lib.hid hxp
      have hml := lMay_any (g, e, a, b, c, d, f) wc
      have hbs := hB.step hbx
      clear hbx hkx hxp
      by_cases hmay : MayL (g, e, a, b, c, d, f)
      · rw [decide_eq_true hmay] at hml
        have hbk := fun W hz => lBlock_any (g, e, a, b, c, d, f) HWF.out hmay W hz
        obtain ⟨BK, hBK⟩ : ∃ BK, blockL (g, e, a, b, c, d, f) = BK := ⟨_, rfl⟩
        rw [hBK] at HO
        have HBE := Lib.hid hBK
        have HM := Lib.hid hml
        have HBK := Lib.hid hbk
        have HS := Lib.hid hbs
        clear hml hbk hbs hBK
        by_cases heq : s = BK
        · have hO : some (g, e, a, b, c, d, f) = R := by rw [HO.out, if_pos ⟨hmay, heq⟩]
          subst hO
          have ev : decide (s = BK) = true := decide_eq_true heq
          clear HO heq hmay
          go_wp2_with (first
            | (go_at_call 81
               refine HM.out.mono ?_
               rintro ev1 w2 ⟨rfl, b2⟩
               have HB4 := Lib.hid (HBx.out.trans (b2.mono HBx.out.size))
               have HK4 := Lib.hid (HKx.out.below b2 HKx.out.lt)
               have HP4 := Lib.hid (HPx.out.below b2 HPx.out.lt)
               have HS4 := Lib.hid (HS.out.step b2)
               obtain ⟨c0, c1, c2, c3, c4, c5, c6⟩ := HP4.out.seven
               clear b2)
            | (go_at_call 83
               refine (HBK.out w2 (HZ.out.step HB4.out)).mono ?_
               rintro ev2 w3 ⟨gb, rfl, zb, sb, b3⟩
               rw [HBE.out] at sb
               have HB5 := Lib.hid (HB4.out.trans (b3.mono HB4.out.size))
               have HK5 := Lib.hid (HK4.out.below b3 HK4.out.lt)
               have HP5 := Lib.hid (HP4.out.below b3 HP4.out.lt)
               have HQ := Lib.hid (lEqual_any A 256 cap s (some ⟨gb, 0, none⟩) 256 256 BK w3 (HS4.out.step b3) sb)
               clear b3 sb zb)
            | (go_at_call 82
               refine HQ.out.mono ?_
               rintro ev3 w4 ⟨rfl, rfl⟩
               rw [ev]
               obtain ⟨c0, c1, c2, c3, c4, c5, c6⟩ := HP5.out.seven
               have d0 : w3.cell? ⟨w.heap.size, 0, none⟩ = some (.int .u32 0) := HK5.out.cell 0
               have d1 : w3.cell? ⟨w.heap.size, 1, none⟩ = some (.int .u32 0) := HK5.out.cell 1
               have d2 : w3.cell? ⟨w.heap.size, 2, none⟩ = some (.int .i64 0) := HK5.out.cell 2
               have d3 : w3.cell? ⟨w.heap.size, 3, none⟩ = some (.int .u32 0) := HK5.out.cell 3
               have d4 : w3.cell? ⟨w.heap.size, 4, none⟩ = some (.int .u32 0) := HK5.out.cell 4
               have d5 : w3.cell? ⟨w.heap.size, 5, none⟩ = some (.int .u32 0) := HK5.out.cell 5
               have d6 : w3.cell? ⟨w.heap.size, 6, none⟩ = some (.int .u32 0) := HK5.out.cell 6
               have fr : ∀ i, w3.frozen? ⟨w.heap.size, i, none⟩ = false := fun i => HK5.out.frozen i
               clear ev))
          obtain ⟨wf, hwf⟩ : ∃ wf, set7 w3 w.heap.size (.int .u32 (g : Int)) (.int .u32 (e : Int)) (.int .i64 a) (.int .u32 (b : Int)) (.int .u32 (c : Int)) (.int .u32 (d : Int)) (.int .u32 (f : Int)) = wf := ⟨_, rfl⟩
          have hXF := HK5.out.set7 (.int .u32 (g : Int)) (.int .u32 (e : Int)) (.int .i64 a) (.int .u32 (b : Int)) (.int .u32 (c : Int)) (.int .u32 (d : Int)) (.int .u32 (f : Int))
          have hBF := below_set7 HB5.out (Nat.le_refl w.heap.size) (.int .u32 (g : Int)) (.int .u32 (e : Int)) (.int .i64 a) (.int .u32 (b : Int)) (.int .u32 (c : Int)) (.int .u32 (d : Int)) (.int .u32 (f : Int))
          rw [hwf] at hXF hBF
          simp only [set7] at hwf
          rw [hwf]
          clear hwf d0 d1 d2 d3 d4 d5 d6 fr
          have e0 := hXF.cell 0
          have e1 := hXF.cell 1
          have e2 := hXF.cell 2
          have e3 := hXF.cell 3
          have e4 := hXF.cell 4
          have e5 := hXF.cell 5
          have e6 := hXF.cell 6
          exact bodyPost_ret (v := .tuple #[lbV (g, e, a, b, c, d, f), .bool true]) (by simp [results, Tryz.f40, go_sem, e0, e1, e2, e3, e4, e5, e6]) rfl ⟨rfl, hBF⟩
        · have hO : none = R := by rw [HO.out, if_neg (fun h => heq h.2)]
          subst hO
          have ev : decide (s = BK) = false := decide_eq_false heq
          clear HO heq hmay
          go_wp2_with (first
            | (go_at_call 81
               refine HM.out.mono ?_
               rintro ev1 w2 ⟨rfl, b2⟩
               have HB4 := Lib.hid (HBx.out.trans (b2.mono HBx.out.size))
               have HK4 := Lib.hid (HKx.out.below b2 HKx.out.lt)
               have HP4 := Lib.hid (HPx.out.below b2 HPx.out.lt)
               have HS4 := Lib.hid (HS.out.step b2)
               obtain ⟨c0, c1, c2, c3, c4, c5, c6⟩ := HP4.out.seven
               clear b2)
            | (go_at_call 83
               refine (HBK.out w2 (HZ.out.step HB4.out)).mono ?_
               rintro ev2 w3 ⟨gb, rfl, zb, sb, b3⟩
               rw [HBE.out] at sb
               have HB5 := Lib.hid (HB4.out.trans (b3.mono HB4.out.size))
               have HK5 := Lib.hid (HK4.out.below b3 HK4.out.lt)
               have HP5 := Lib.hid (HP4.out.below b3 HP4.out.lt)
               have HQ := Lib.hid (lEqual_any A 256 cap s (some ⟨gb, 0, none⟩) 256 256 BK w3 (HS4.out.step b3) sb)
               clear b3 sb zb)
            | (go_at_call 82
               refine HQ.out.mono ?_
               rintro ev3 w4 ⟨rfl, rfl⟩
               rw [ev]
               obtain ⟨c0, c1, c2, c3, c4, c5, c6⟩ := HP5.out.seven
               have d0 : w3.cell? ⟨w.heap.size, 0, none⟩ = some (.int .u32 0) := HK5.out.cell 0
               have d1 : w3.cell? ⟨w.heap.size, 1, none⟩ = some (.int .u32 0) := HK5.out.cell 1
               have d2 : w3.cell? ⟨w.heap.size, 2, none⟩ = some (.int .i64 0) := HK5.out.cell 2
               have d3 : w3.cell? ⟨w.heap.size, 3, none⟩ = some (.int .u32 0) := HK5.out.cell 3
               have d4 : w3.cell? ⟨w.heap.size, 4, none⟩ = some (.int .u32 0) := HK5.out.cell 4
               have d5 : w3.cell? ⟨w.heap.size, 5, none⟩ = some (.int .u32 0) := HK5.out.cell 5
               have d6 : w3.cell? ⟨w.heap.size, 6, none⟩ = some (.int .u32 0) := HK5.out.cell 6
               have fr : ∀ i, w3.frozen? ⟨w.heap.size, i, none⟩ = false := fun i => HK5.out.frozen i
               clear ev))
          obtain ⟨wf, hwf⟩ : ∃ wf, set7 w3 w.heap.size (.int .u32 0) (.int .u32 0) (.int .i64 0) (.int .u32 0) (.int .u32 0) (.int .u32 0) (.int .u32 0) = wf := ⟨_, rfl⟩
          have hXF := HK5.out.set7 (.int .u32 0) (.int .u32 0) (.int .i64 0) (.int .u32 0) (.int .u32 0) (.int .u32 0) (.int .u32 0)
          have hBF := below_set7 HB5.out (Nat.le_refl w.heap.size) (.int .u32 0) (.int .u32 0) (.int .i64 0) (.int .u32 0) (.int .u32 0) (.int .u32 0) (.int .u32 0)
          rw [hwf] at hXF hBF
          simp only [set7] at hwf
          rw [hwf]
          clear hwf d0 d1 d2 d3 d4 d5 d6 fr
          have e0 := hXF.cell 0
          have e1 := hXF.cell 1
          have e2 := hXF.cell 2
          have e3 := hXF.cell 3
          have e4 := hXF.cell 4
          have e5 := hXF.cell 5
          have e6 := hXF.cell 6
          exact bodyPost_ret (v := .tuple #[lbV l0, .bool false]) (by simp [results, Tryz.f40, go_sem, e0, e1, e2, e3, e4, e5, e6]) rfl ⟨rfl, hBF⟩
      · have hO : none = R := by rw [HO.out, if_neg (fun h => hmay h.1)]
        subst hO
        rw [decide_eq_false hmay] at hml
        have HM := Lib.hid hml
        clear hml HO hmay hbs
        go_wp2_with (go_at_call 81
                     refine HM.out.mono ?_
                     rintro ev1 w2 ⟨rfl, b2⟩
                     have HB4 := Lib.hid (HBx.out.trans (b2.mono HBx.out.size))
                     have HK4 := Lib.hid (HKx.out.below b2 HKx.out.lt)
                     have d0 : w2.cell? ⟨w.heap.size, 0, none⟩ = some (.int .u32 0) := HK4.out.cell 0
                     have d1 : w2.cell? ⟨w.heap.size, 1, none⟩ = some (.int .u32 0) := HK4.out.cell 1
                     have d2 : w2.cell? ⟨w.heap.size, 2, none⟩ = some (.int .i64 0) := HK4.out.cell 2
                     have d3 : w2.cell? ⟨w.heap.size, 3, none⟩ = some (.int .u32 0) := HK4.out.cell 3
                     have d4 : w2.cell? ⟨w.heap.size, 4, none⟩ = some (.int .u32 0) := HK4.out.cell 4
                     have d5 : w2.cell? ⟨w.heap.size, 5, none⟩ = some (.int .u32 0) := HK4.out.cell 5
                     have d6 : w2.cell? ⟨w.heap.size, 6, none⟩ = some (.int .u32 0) := HK4.out.cell 6
                     have fr : ∀ i, w2.frozen? ⟨w.heap.size, i, none⟩ = false := fun i => HK4.out.frozen i
                     clear b2)
        obtain ⟨wf, hwf⟩ : ∃ wf, set7 w2 w.heap.size (.int .u32 0) (.int .u32 0) (.int .i64 0) (.int .u32 0) (.int .u32 0) (.int .u32 0) (.int .u32 0) = wf := ⟨_, rfl⟩
        have hXF := HK4.out.set7 (.int .u32 0) (.int .u32 0) (.int .i64 0) (.int .u32 0) (.int .u32 0) (.int .u32 0) (.int .u32 0)
        have hBF := below_set7 HB4.out (Nat.le_refl w.heap.size) (.int .u32 0) (.int .u32 0) (.int .i64 0) (.int .u32 0) (.int .u32 0) (.int .u32 0) (.int .u32 0)
        rw [hwf] at hXF hBF
        simp only [set7] at hwf
        rw [hwf]
        clear hwf d0 d1 d2 d3 d4 d5 d6 fr
        have e0 := hXF.cell 0
        have e1 := hXF.cell 1
        have e2 := hXF.cell 2
        have e3 := hXF.cell 3
        have e4 := hXF.cell 4
        have e5 := hXF.cell 5
        have e6 := hXF.cell 6
        exact bodyPost_ret (v := .tuple #[lbV l0, .bool false]) (by simp [results, Tryz.f40, go_sem, e0, e1, e2, e3, e4, e5, e6]) rfl ⟨rfl, hBF⟩
  · rw [if_neg hmp] at hrd
    rw [if_neg hmp] at HO
    obtain rfl := HO.out
    have HR := Lib.hid hrd
    clear hrd hmp
    go_enter Tryz.func40, Tryz.ntmps40
    go_wp2_with (go_at_call 79
                 refine HR.out.mono ?_
                 rintro ev w1 ⟨rfl, b1⟩
                 have HB2 := Lib.hid (HB1.out.trans (b1.mono (by simp)))
                 have HK2 := Lib.hid (HK.out.below b1 HK.out.lt)
                 have HB3 := Lib.hid (HB2.out.alloc HB2.out.size (.cells #[.int .i64 0, .int .u32 0, .int .u32 0, .int .u32 0, .int .u32 0] 31))
                 have HK3 := Lib.hid (HK2.out.alloc (.cells #[.int .i64 0, .int .u32 0, .int .u32 0, .int .u32 0, .int .u32 0] 31))
                 have d0 : (w1.alloc (.cells #[.int .i64 0, .int .u32 0, .int .u32 0, .int .u32 0, .int .u32 0] 31)).cell? ⟨w.heap.size, 0, none⟩ = some (.int .u32 0) := HK3.out.cell 0
                 have d1 : (w1.alloc (.cells #[.int .i64 0, .int .u32 0, .int .u32 0, .int .u32 0, .int .u32 0] 31)).cell? ⟨w.heap.size, 1, none⟩ = some (.int .u32 0) := HK3.out.cell 1
                 have d2 : (w1.alloc (.cells #[.int .i64 0, .int .u32 0, .int .u32 0, .int .u32 0, .int .u32 0] 31)).cell? ⟨w.heap.size, 2, none⟩ = some (.int .i64 0) := HK3.out.cell 2
                 have d3 : (w1.alloc (.cells #[.int .i64 0, .int .u32 0, .int .u32 0, .int .u32 0, .int .u32 0] 31)).cell? ⟨w.heap.size, 3, none⟩ = some (.int .u32 0) := HK3.out.cell 3
                 have d4 : (w1.alloc (.cells #[.int .i64 0, .int .u32 0, .int .u32 0, .int .u32 0, .int .u32 0] 31)).cell? ⟨w.heap.size, 4, none⟩ = some (.int .u32 0) := HK3.out.cell 4
                 have d5 : (w1.alloc (.cells #[.int .i64 0, .int .u32 0, .int .u32 0, .int .u32 0, .int .u32 0] 31)).cell? ⟨w.heap.size, 5, none⟩ = some (.int .u32 0) := HK3.out.cell 5
                 have d6 : (w1.alloc (.cells #[.int .i64 0, .int .u32 0, .int .u32 0, .int .u32 0, .int .u32 0] 31)).cell? ⟨w.heap.size, 6, none⟩ = some (.int .u32 0) := HK3.out.cell 6
                 have fr : ∀ i, (w1.alloc (.cells #[.int .i64 0, .int .u32 0, .int .u32 0, .int .u32 0, .int .u32 0] 31)).frozen? ⟨w.heap.size, i, none⟩ = false := fun i => HK3.out.frozen i
                 clear b1)
    obtain ⟨wf, hwf⟩ : ∃ wf, set7 (w1.alloc (.cells #[.int .i64 0, .int .u32 0, .int .u32 0, .int .u32 0, .int .u32 0] 31)) w.heap.size (.int .u32 0) (.int .u32 0) (.int .i64 0) (.int .u32 0) (.int .u32 0) (.int .u32 0) (.int .u32 0) = wf := ⟨_, rfl⟩
    have hXF := HK3.out.set7 (.int .u32 0) (.int .u32 0) (.int .i64 0) (.int .u32 0) (.int .u32 0) (.int .u32 0) (.int .u32 0)
    have hBF := below_set7 HB3.out (Nat.le_refl w.heap.size) (.int .u32 0) (.int .u32 0) (.int .i64 0) (.int .u32 0) (.int .u32 0) (.int .u32 0) (.int .u32 0)
    rw [hwf] at hXF hBF
    simp only [set7] at hwf
    rw [hwf]
    clear hwf d0 d1 d2 d3 d4 d5 d6 fr
    have e0 := hXF.cell 0
    have e1 := hXF.cell 1
    have e2 := hXF.cell 2
    have e3 := hXF.cell 3
    have e4 := hXF.cell 4
    have e5 := hXF.cell 5
    have e6 := hXF.cell 6
    exact bodyPost_ret (v := .tuple #[lbV l0, .bool false]) (by simp [results, Tryz.f40, go_sem, e0, e1, e2, e3, e4, e5, e6]) rfl ⟨rfl, hBF⟩
end Go.Proofs.YtafbidhbmfdlkaaGreatDoor
/-
  Layer 9's own words of the law: a block of one byte; the first byte of a block that is written twice; alive.
-/
namespace Go.Proofs.YtafbidhbmfdlkaaGreatDoor
open Go.RowKit Go.Shelf
set_option maxRecDepth 100000

theorem read_ok {D : DkL} {p : Nat} (hm : MayD D) (hp : p < 256) : readO D p = (leftD D (fun _ => true) p, 0) := by
  rw [readO, if_pos hm, if_pos (by omega), Int.toNat_natCast]
theorem OutD.far {w : World} {lo g : Nat} {x : DAt} {D : DkL} (h : OutD w lo x D) (hg : g < lo) (u v : Value) : OutD ((w.setCell ⟨g, 0, none⟩ u).setCell ⟨g, 1, none⟩ v) lo x D := by
  rcases h with h | h
  · exact .inl h
  · exact .inr (laid_far h hg (Nat.le_refl _) u v)
end Go.Proofs.YtafbidhbmfdlkaaGreatDoor
/-
  label.Put, whatever disk and label it is handed, answers the disk on which the label's block waits, or why not; nothing that was there is written.
-/
namespace Go.Proofs.YtafbidhbmfdlkaaGreatDoor
open Go.RowKit Go.Shelf
set_option maxRecDepth 100000

theorem put_boxes (w : World) (u v : Value) (l : Lb) : ∃ w0, ((w.alloc (.cells #[u, v] 25)).alloc (.cells (lbC l).toArray 67)).alloc (.cells #[.slice none 0 0, .slice none 0 0] 25) = w0 ∧ Below w.heap.size w w0 ∧ w0.heap.size = w.heap.size + 3 ∧ Blk w0 w.heap.size 25 #[u, v] ∧ Blk w0 (w.heap.size + 1) 67 (lbC l).toArray ∧ Blk w0 (w.heap.size + 2) 25 #[.slice none 0 0, .slice none 0 0] := by
  refine ⟨_, rfl, below_alloc3' w _ _ _, by simp, ((Blk.new w _ _).alloc _).alloc _, ?_, ?_⟩
  · have := (Blk.new (w.alloc (.cells #[u, v] 25)) 67 (lbC l).toArray).alloc (.cells #[.slice none 0 0, .slice none 0 0] 25)
    rwa [World.size_alloc] at this
  · have := Blk.new ((w.alloc (.cells #[u, v] 25)).alloc (.cells (lbC l).toArray 67)) 25 #[.slice none 0 0, .slice none 0 0]
    rwa [World.size_alloc, World.size_alloc] at this
set_option maxHeartbeats 4000000 in
theorem lPut_any (x : DAt) (D : DkL) (l : Lb) (w : World) (h : Dsk w w.heap.size x D) (hw : WfL l) (hz : Szs w) : Calls Tryz.prog 74 #[dval x D, lbV l] w (ToldD (putO D l) w) := by
  have hmx : Tryz.prog.follows Departure.mixedOrders = true := by kernel_rfl
  obtain ⟨w0, hw0, b0, z0, x0, xl, x1⟩ := put_boxes w (.slice x.ba D.1.length x.bc) (.slice x.wa D.2.length x.wc) l
  have h0 := h.step b0
  have hc := dCheck_any x D w0 h0
  have c0 := x0.cell 0
  have c1 := x0.cell 1
  have HX0 := Lib.hid x0
  have HXL := Lib.hid xl
  have HX1 := Lib.hid x1
  have HB := Lib.hid b0
  have HZ0 := Lib.hid z0
  have HD := Lib.hid h0
  have HZ := Lib.hid (hz.step b0)
  have HML : Hid (∀ W, Calls Tryz.prog 81 #[lbV l] W fun e w' => e = .returned (.bool (decide (MayL l))) ∧ Below W.heap.size W w') := Lib.hid fun W => lMay_any l W
  have HBK : Hid (MayL l → ∀ W, Szs W → Calls Tryz.prog 83 #[lbV l] W (BlockPost l W)) := Lib.hid fun hm W hz => lBlock_any l hw hm W hz
  have HSL : Hid (∀ W, Calls Tryz.prog 41 #[.int .u32 (l.1 : Int)] W fun e w' => e = .returned (.int .i64 ((l.1 % 4 : Nat) : Int)) ∧ W = w') := Lib.hid fun W => lSlot_any l.1 hw.1 W
  have HWR : Hid (∀ W a c, Dsk W W.heap.size x D → Bsl W W.heap.size a 256 c (blockL l) → Calls Tryz.prog 131 #[dval x D, .int .i64 ((l.1 % 4 : Nat) : Int), .slice a 256 c] W (ToldD (writeO D ((l.1 % 4 : Nat) : Int) (blockL l)) W)) := Lib.hid fun W a c h1 h2 => dWrite_any x D _ a 256 c _ W h1 h2
  have HO := Lib.hid (show putO D l = if MayD D then (if MayL l then writeO D ((l.1 % 4 : Nat) : Int) (blockL l) else (([], []), 8)) else (([], []), 8) from rfl)
  obtain ⟨R, hR⟩ : ∃ R, putO D l = R := ⟨_, rfl⟩
  rw [hR] at HO ⊢
  obtain ⟨BK, hBK⟩ : ∃ BK, blockL l = BK := ⟨_, rfl⟩
  rw [hBK] at HO HWR
  have HBE := Lib.hid hBK
  obtain ⟨sl, hsl⟩ : ∃ sl, ((l.1 % 4 : Nat) : Int) = sl := ⟨_, rfl⟩
  rw [hsl] at HO HWR HSL
  obtain ⟨g, e, a, b, c, d, f⟩ := l
  simp only [lbC] at hw0
  simp only at HSL
  clear b0 z0 x0 xl x1 h0 h hw hz hR hBK hsl
  rw [checkO] at hc
  by_cases hm : MayD D
  · rw [if_pos hm] at hc HO
    by_cases hl : MayL (g, e, a, b, c, d, f)
    · rw [if_pos hl] at HO
      rw [decide_eq_true hl] at HML
      have HBK2 := Lib.hid (HBK.out hl)
      have HC := Lib.hid hc
      simp only [dval] at HC HWR ⊢
      clear hc hm hl HBK
      go_enter Tryz.func74, Tryz.ntmps74
      go_wp2_with (first
        | (go_at_call 9
           refine HC.out.mono ?_
           rintro ev1 w1 ⟨rfl, b1⟩
           have HB1 := Lib.hid (HB.out.trans (b1.mono HB.out.size))
           have HY0 := Lib.hid (HX0.out.below b1 HX0.out.lt)
           have HYL := Lib.hid (HXL.out.below b1 HXL.out.lt)
           have HY1 := Lib.hid (HX1.out.below b1 HX1.out.lt)
           have HD1 := Lib.hid (HD.out.step b1)
           have HZ1 := Lib.hid (HZ.out.step b1)
           obtain ⟨e0, e1, e2, e3, e4, e5, e6⟩ := HYL.out.seven
           clear b1)
        | (go_at_call 81
           refine (HML.out w1).mono ?_
           rintro ev2 w2 ⟨rfl, b2⟩
           have HB2 := Lib.hid (HB1.out.trans (b2.mono HB1.out.size))
           have HU0 := Lib.hid (HY0.out.below b2 HY0.out.lt)
           have HUL := Lib.hid (HYL.out.below b2 HYL.out.lt)
           have HU1 := Lib.hid (HY1.out.below b2 HY1.out.lt)
           have HD2 := Lib.hid (HD1.out.step b2)
           have HZ2 := Lib.hid (HZ1.out.step b2)
           clear b2))
      clear c0 c1 e0 e1 e2 e3 e4 e5 e6
      obtain ⟨wd, hwd⟩ : ∃ wd, w2.drew = wd := ⟨_, rfl⟩
      have bd : Below w2.heap.size w2 wd := by rw [← hwd]; exact (Below.refl _ _).drew
      have HBd := Lib.hid (HB2.out.trans (bd.mono HB2.out.size))
      have x0 := HU0.out.below bd HU0.out.lt
      have xl := HUL.out.below bd HUL.out.lt
      have HX1d := Lib.hid (HU1.out.below bd HU1.out.lt)
      have HDd := Lib.hid (HD2.out.step bd)
      have HZd := Lib.hid (HZ2.out.step bd)
      have hle : w.heap.size + 2 ≤ wd.heap.size := Nat.le_of_lt HX1d.out.lt
      have C0 := fun X (hX : Below (w.heap.size + 2) wd X) => (x0.below hX (by omega)).cell 0
      have C1 := fun X (hX : Below (w.heap.size + 2) wd X) => (x0.below hX (by omega)).cell 1
      have E := fun X (hX : Below (w.heap.size + 2) wd X) => (xl.below hX (by omega)).seven
      have hbwd : Below (w.heap.size + 2) wd wd := Below.refl _ _
      clear x0 xl bd
      refine wpI_start (Below (w.heap.size + 2) wd) [0, 1, 2, 4, 3, 5, 6, 7, 8, 9, 10] hmx rfl hwd ?_
      clear hwd
      iterate 4 (
        refine wpI_read (v := ?_) hbwd rfl (by kernel_rfl) (by kernel_rfl) (by kernel_rfl) (fun _ _ _ h => h) (.inl ⟨by rfl, ?_⟩) ?_
        rotate_left
        · intro X hX
          have p0 := C0 X hX
          have p1 := C1 X hX
          obtain ⟨q0, q1, q2, q3, q4, q5, q6⟩ := E X hX
          clear hX
          go_simp
          with_reducible rfl
        try simp only [Act.put, List.setIfInBounds_toArray, List.set_cons_zero, List.set_cons_succ])
      clear C0 C1 E
      refine wpI_lone rfl (by kernel_rfl) (fun K hK => ?_)
      go_simp
      refine (HSL.out wd).mono ?_
      rintro ev3 w3 ⟨rfl, rfl⟩
      refine hK _ _ hbwd ?_
      clear hK K
      try simp only [Act.put, List.setIfInBounds_toArray, List.set_cons_zero, List.set_cons_succ]
      refine wpI_lone rfl (by kernel_rfl) (fun K hK => ?_)
      go_simp
      refine (HBK2.out wd HZd.out).mono ?_
      rintro ev4 w4 ⟨gb, rfl, zb, sb, b4⟩
      rw [HBE.out] at sb
      have hb4 := b4.mono hle
      refine hK _ _ hb4 ?_
      clear hK K zb
      try simp only [Act.put, List.setIfInBounds_toArray, List.set_cons_zero, List.set_cons_succ]
      refine wpI_lone rfl (by kernel_rfl) (fun K hK => ?_)
      go_simp
      refine (HWR.out w4 _ _ (HDd.out.step b4) sb).mono ?_
      rintro ev5 w5 ⟨x5, rfl, o5, b5⟩
      have hb5 := b4.trans (b5.mono b4.size)
      have HU5 := Lib.hid (HX1d.out.below hb5 HX1d.out.lt)
      have hlo : w.heap.size + 2 < w4.heap.size := Nat.lt_of_lt_of_le HX1d.out.lt b4.size
      rw [← HO.out] at o5 ⊢
      have hb5' := hb5.mono hle
      refine hK _ _ hb5' ?_
      clear hK K
      try simp only [Act.put, List.setIfInBounds_toArray, List.set_cons_zero, List.set_cons_succ]
      simp only [dval]
      obtain ⟨F, c'⟩ := R
      obtain ⟨n1, hn1⟩ : ∃ n, F.1.length = n := ⟨_, rfl⟩
      obtain ⟨n2, hn2⟩ : ∃ n, F.2.length = n := ⟨_, rfl⟩
      simp only [hn1, hn2]
      iterate 2 (
        refine wpI_read (v := ?_) hb5' rfl (by kernel_rfl) (by kernel_rfl) (by kernel_rfl) (fun _ _ _ h => h) (.inl ⟨by rfl, ?_⟩) ?_
        rotate_left
        · intro X hX
          clear hX
          go_simp
          with_reducible rfl
        try simp only [Act.put, List.setIfInBounds_toArray, List.set_cons_zero, List.set_cons_succ])
      refine wpI_lone rfl (by kernel_rfl) (fun K hK => ?_)
      have d0 := HU5.out.cell 0
      have d1 := HU5.out.cell 1
      have hf := fun i => HU5.out.frozen i
      go_simp
      have HKD := Lib.hid ((o5.far hlo (.slice x5.ba n1 x5.bc) (.slice x5.wa n2 x5.wc)).lower (lo' := w.heap.size) (by omega))
      have hbs := (hb5'.setCell (p := ⟨w.heap.size + 2, 0, none⟩) (Nat.le_refl _) (.slice x5.ba n1 x5.bc)).setCell (p := ⟨w.heap.size + 2, 1, none⟩) (Nat.le_refl _) (.slice x5.wa n2 x5.wc)
      have HBF := Lib.hid (((HBd.out.trans (hb5.mono HBd.out.size)).setCell (p := ⟨w.heap.size + 2, 0, none⟩) (Nat.le_add_right _ _) (.slice x5.ba n1 x5.bc)).setCell (p := ⟨w.heap.size + 2, 1, none⟩) (Nat.le_add_right _ _) (.slice x5.wa n2 x5.wc))
      have HXF := Lib.hid ((HU5.out.set_ 0 (.slice x5.ba n1 x5.bc)).set_ 1 (.slice x5.wa n2 x5.wc))
      obtain ⟨wf, hwf⟩ : ∃ wf, ((w5.setCell ⟨w.heap.size + 2, 0, none⟩ (.slice x5.ba n1 x5.bc)).setCell ⟨w.heap.size + 2, 1, none⟩ (.slice x5.wa n2 x5.wc)) = wf := ⟨_, rfl⟩
      rw [hwf] at HKD hbs HBF HXF ⊢
      refine hK _ _ hbs ?_
      clear hK K d0 d1 hf hwf o5
      try simp only [Act.put, List.setIfInBounds_toArray, List.set_cons_zero, List.set_cons_succ]
      iterate 1 (
        refine wpI_read (v := ?_) hbs rfl (by kernel_rfl) (by kernel_rfl) (by kernel_rfl) (fun _ _ _ h => h) (.inl ⟨by rfl, ?_⟩) ?_
        rotate_left
        · intro X hX
          clear hX
          go_simp
          with_reducible rfl
        try simp only [Act.put, List.setIfInBounds_toArray, List.set_cons_zero, List.set_cons_succ])
      clear hbs
      refine wpI_done (by kernel_rfl) ?_
      go_wp2_with fail
      have e0 := HXF.out.cell 0
      have e1 := HXF.out.cell 1
      refine bodyPost_ret (v := .tuple #[.agg #[.slice x5.ba n1 x5.bc, .slice x5.wa n2 x5.wc], .int .i64 c']) (by simp [results, Tryz.f74, go_sem, e0, e1]) rfl ?_
      exact ⟨x5, by simp only [dval, hn1, hn2], HKD.out, HBF.out⟩
    · rw [if_neg hl] at HO
      rw [decide_eq_false hl] at HML
      obtain rfl := HO.out
      have HC := Lib.hid hc
      simp only [dval] at HC ⊢
      clear hc hm hl HBK HWR
      go_enter Tryz.func74, Tryz.ntmps74
      go_wp2_with (first
        | (go_at_call 9
           refine HC.out.mono ?_
           rintro ev1 w1 ⟨rfl, b1⟩
           have HB1 := Lib.hid (HB.out.trans (b1.mono HB.out.size))
           have HYL := Lib.hid (HXL.out.below b1 HXL.out.lt)
           have HY1 := Lib.hid (HX1.out.below b1 HX1.out.lt)
           obtain ⟨e0, e1, e2, e3, e4, e5, e6⟩ := HYL.out.seven
           clear b1)
        | (go_at_call 81
           refine (HML.out w1).mono ?_
           rintro ev2 w2 ⟨rfl, b2⟩
           have HB2 := Lib.hid (HB1.out.trans (b2.mono HB1.out.size))
           have HU1 := Lib.hid (HY1.out.below b2 HY1.out.lt)
           have d0 := HU1.out.cell 0
           have d1 := HU1.out.cell 1
           have hf := fun i => HU1.out.frozen i
           clear b2))
      clear c0 c1 e0 e1 e2 e3 e4 e5 e6
      have hBF := (HB2.out.setCell (p := ⟨w.heap.size + 2, 0, none⟩) (Nat.le_add_right _ _) (.slice none 0 0)).setCell (p := ⟨w.heap.size + 2, 1, none⟩) (Nat.le_add_right _ _) (.slice none 0 0)
      have hXF := (HU1.out.set_ 0 (.slice none 0 0)).set_ 1 (.slice none 0 0)
      obtain ⟨wf, hwf⟩ : ∃ wf, ((w2.setCell ⟨w.heap.size + 2, 0, none⟩ (.slice none 0 0)).setCell ⟨w.heap.size + 2, 1, none⟩ (.slice none 0 0)) = wf := ⟨_, rfl⟩
      rw [hwf] at hBF hXF ⊢
      clear hwf d0 d1 hf
      have e0 := hXF.cell 0
      have e1 := hXF.cell 1
      exact bodyPost_ret (v := .tuple #[.agg #[.slice none 0 0, .slice none 0 0], .int .i64 8]) (by simp [results, Tryz.f74, go_sem, e0, e1]) rfl (toldD_no rfl hBF)
  · rw [if_neg hm] at hc HO
    obtain rfl := HO.out
    have HC := Lib.hid hc
    simp only [dval] at HC ⊢
    clear hc hm HBK HWR HML
    go_enter Tryz.func74, Tryz.ntmps74
    go_wp2_with (go_at_call 9
                 refine HC.out.mono ?_
                 rintro ev1 w1 ⟨rfl, b1⟩
                 have HB1 := Lib.hid (HB.out.trans (b1.mono HB.out.size))
                 have HY1 := Lib.hid (HX1.out.below b1 HX1.out.lt)
                 have d0 := HY1.out.cell 0
                 have d1 := HY1.out.cell 1
                 have hf := fun i => HY1.out.frozen i
                 clear b1)
    clear c0 c1
    have hBF := (HB1.out.setCell (p := ⟨w.heap.size + 2, 0, none⟩) (Nat.le_add_right _ _) (.slice none 0 0)).setCell (p := ⟨w.heap.size + 2, 1, none⟩) (Nat.le_add_right _ _) (.slice none 0 0)
    have hXF := (HY1.out.set_ 0 (.slice none 0 0)).set_ 1 (.slice none 0 0)
    obtain ⟨wf, hwf⟩ : ∃ wf, ((w1.setCell ⟨w.heap.size + 2, 0, none⟩ (.slice none 0 0)).setCell ⟨w.heap.size + 2, 1, none⟩ (.slice none 0 0)) = wf := ⟨_, rfl⟩
    rw [hwf] at hBF hXF ⊢
    clear hwf d0 d1 hf
    have e0 := hXF.cell 0
    have e1 := hXF.cell 1
    exact bodyPost_ret (v := .tuple #[.agg #[.slice none 0 0, .slice none 0 0], .int .i64 8]) (by simp [results, Tryz.f74, go_sem, e0, e1]) rfl (toldD_no rfl hBF)
end Go.Proofs.YtafbidhbmfdlkaaGreatDoor
/-
  Store's own: Give, Twin; what they answer is new memory, and nothing that was there is written.
-/
namespace Go.Proofs.YtafbidhbmfdlkaaGreatDoor
open Go.RowKit Go.Shelf
set_option maxRecDepth 100000

set_option maxHeartbeats 4000000 in
theorem stTwin_any (L : Nat) (x : SAt) (S : StL) (w : World) (h : StP L w x S) (ho : OkS S) (_hL : L ≤ w.heap.size) : Calls Tryz.prog 54 #[stV x S] w (NewS S w) := by
  have hmx : Tryz.prog.follows Departure.mixedOrders = true := by kernel_rfl
  obtain ⟨w0, hw0, b0, z0, x0, y0⟩ := two_al w (stC x S) stZ 29 29
  obtain ⟨g, hg⟩ : ∃ g, w.heap.size = g := ⟨_, rfl⟩
  obtain ⟨g2, hg2⟩ : ∃ g2, g + 1 = g2 := ⟨_, rfl⟩
  have h0 := h.bel b0
  rw [hg] at x0 y0 z0 b0
  rw [hg2] at y0
  have HI := Lib.hid (show g ≤ g2 ∧ g2 ≠ g ∧ g ≠ g2 by omega)
  have HX := Lib.hid x0
  have HY := Lib.hid y0
  have HB := Lib.hid b0
  have HS := Lib.hid h0
  have HG := Lib.hid hg
  have HW := Lib.hid (show g ≤ w0.heap.size by omega)
  have HF := Lib.hid ho.1
  have HN := Lib.hid ho.2.1
  simp only [stC, stZ] at hw0
  clear h h0 x0 y0 b0 z0 ho
  go_enter Tryz.func54, Tryz.ntmps54
  go_wp2_with fail
  try rw [hw0]
  try rw [hg]
  try rw [hg2]
  obtain ⟨wd, hwd⟩ : ∃ wd, w0.drew = wd := ⟨_, rfl⟩
  have bb : Below w0.heap.size w0 wd := by rw [← hwd]; exact (Below.refl _ w0).drew
  replace HX := Lib.hid (HX.out.below bb HX.out.lt)
  replace HY := Lib.hid (HY.out.below bb HY.out.lt)
  replace HS := Lib.hid (HS.out.bel bb)
  replace HB := Lib.hid (HB.out.trans (bb.mono HW.out))
  replace HW := Lib.hid (Nat.le_trans HW.out bb.size)
  clear bb hw0
  have hcs := And.intro (stC0 HX.out) (And.intro (stC1 HX.out) (And.intro (stC2 HX.out) (And.intro (stC3 HX.out) (stC4 HX.out))))
  refine wpI_start (fun X => X.cell? ⟨g, 0, none⟩ = some (.slice x.d.ba S.1.1.length x.d.bc) ∧ X.cell? ⟨g, 1, none⟩ = some (.slice x.d.wa S.1.2.length x.d.wc) ∧ X.cell? ⟨g, 2, none⟩ = some (.slice x.a S.2.1.length x.c) ∧ X.cell? ⟨g, 3, none⟩ = some (.int .u32 (S.2.2.1 : Int)) ∧ X.cell? ⟨g, 4, none⟩ = some (.int .u32 (S.2.2.2 : Int))) [0, 1, 2, 4, 5, 3, 6, 7, 8] hmx rfl hwd ?_
  clear hwd
  have HTW := Lib.hid (dTwin_any x.d S.1 wd HS.out.now.1 HF.out)
  have HTW2 := HTW.out
  simp only [dval] at HTW2
  replace HTW := Lib.hid HTW2
  clear HTW2
  iterate 5 (
    refine wpI_read (v := ?_) hcs rfl (by kernel_rfl) (by kernel_rfl) (by kernel_rfl) (fun _ _ _ h => h) (.inl ⟨by rfl, ?_⟩) ?_
    rotate_left
    · intro X hX
      obtain ⟨j0, j1, j2, j3, j4⟩ := hX
      go_simp
      with_reducible rfl
    try simp only [Act.put, List.setIfInBounds_toArray, List.set_cons_zero, List.set_cons_succ])
  refine wpI_lone rfl (by kernel_rfl) (fun K hK => ?_)
  go_simp
  refine HTW.out.mono ?_
  rintro ev w3 ⟨y, rfl, hy, b3⟩
  have HD := Lib.hid (show OutD w3 wd.heap.size y S.1 from .inr hy)
  have HW2 := Lib.hid HW.out
  replace HX := Lib.hid (HX.out.below b3 HX.out.lt)
  replace HY := Lib.hid (HY.out.below b3 HY.out.lt)
  replace HS := Lib.hid (HS.out.bel b3)
  replace HB := Lib.hid (HB.out.trans (b3.mono HW.out))
  replace HW := Lib.hid (Nat.le_trans HW.out b3.size)
  have hcs3 := And.intro (stC0 HX.out) (And.intro (stC1 HX.out) (And.intro (stC2 HX.out) (And.intro (stC3 HX.out) (stC4 HX.out))))
  refine hK _ _ hcs3 ?_
  clear hK K hcs hy b3 HTW
  simp only [dval]
  try simp only [Act.put, List.setIfInBounds_toArray, List.set_cons_zero, List.set_cons_succ]
  have HCL := Lib.hid (dClone_any w3.heap.size x.a S.2.1.length x.c S.2.1 w3 (Nat.le_refl _) HS.out.now.2 (by have := HN.out; omega))
  refine wpI_lone rfl (by kernel_rfl) (fun K hK => ?_)
  go_simp
  refine HCL.out.mono ?_
  rintro ev w3' ⟨v, rfl, hv, b3⟩
  obtain ⟨sa, sc, rfl⟩ := own_slice hv
  have HO := Lib.hid (own_mono hv HW.out)
  replace HD := Lib.hid (HD.out.below b3)
  replace HX := Lib.hid (HX.out.below b3 HX.out.lt)
  replace HY := Lib.hid (HY.out.below b3 HY.out.lt)
  replace HS := Lib.hid (HS.out.bel b3)
  replace HB := Lib.hid (HB.out.trans (b3.mono HW.out))
  replace HW := Lib.hid (Nat.le_trans HW.out b3.size)
  have hcs3' := And.intro (stC0 HX.out) (And.intro (stC1 HX.out) (And.intro (stC2 HX.out) (And.intro (stC3 HX.out) (stC4 HX.out))))
  refine hK _ _ hcs3' ?_
  clear hK K hcs3 hv b3 HCL
  try simp only [Act.put, List.setIfInBounds_toArray, List.set_cons_zero, List.set_cons_succ]
  have hwi := stWith_any x S y S.1 sa S.2.1.length sc w3'
  simp only [dval, stV] at hwi
  have HWI := Lib.hid hwi
  clear hwi
  refine wpI_lone rfl (by kernel_rfl) (fun K hK => ?_)
  go_simp
  refine HWI.out.mono ?_
  rintro ev w4 ⟨rfl, b4⟩
  replace HO := Lib.hid (own_below HO.out b4)
  replace HD := Lib.hid (HD.out.below b4)
  replace HX := Lib.hid (HX.out.below b4 HX.out.lt)
  replace HY := Lib.hid (HY.out.below b4 HY.out.lt)
  replace HS := Lib.hid (HS.out.bel b4)
  replace HB := Lib.hid (HB.out.trans (b4.mono HW.out))
  replace HW := Lib.hid (Nat.le_trans HW.out b4.size)
  have hcs4 := And.intro (stC0 HX.out) (And.intro (stC1 HX.out) (And.intro (stC2 HX.out) (And.intro (stC3 HX.out) (stC4 HX.out))))
  refine hK _ _ hcs4 ?_
  clear hK K hcs3' b4 HWI
  try simp only [Act.put, List.setIfInBounds_toArray, List.set_cons_zero, List.set_cons_succ]
  refine wpI_lone rfl (by kernel_rfl) (fun K hK => ?_)
  go_simp
  obtain ⟨ya, ka, ba⟩ := box_five (L := 0) HY.out (by decide) (Nat.zero_le _) HB.out HI.out.1 (.slice y.ba S.1.1.length y.bc) (.slice y.wa S.1.2.length y.wc) (.slice sa S.2.1.length sc) (.int .u32 (S.2.2.1 : Int)) (.int .u32 (S.2.2.2 : Int))
  have m0 := stZ0 HY.out
  have m1 := stZ1 HY.out
  have m2 := stZ2 HY.out
  have m3 := stZ3 HY.out
  have m4 := stZ4 HY.out
  have hfy := fun i => HY.out.frozen i
  obtain ⟨wa, hwa⟩ : ∃ wa, set5 w4 g2 (.slice y.ba S.1.1.length y.bc) (.slice y.wa S.1.2.length y.wc) (.slice sa S.2.1.length sc) (.int .u32 (S.2.2.1 : Int)) (.int .u32 (S.2.2.2 : Int)) = wa := ⟨_, rfl⟩
  rw [hwa] at ya ka ba
  have HK := Lib.hid ka
  have HBF := Lib.hid ba
  have HYF := Lib.hid ya
  simp only [set5] at hwa
  clear ya ka ba
  have x5 := far5_bl HX.out HI.out.2.2 (.slice y.ba S.1.1.length y.bc) (.slice y.wa S.1.2.length y.wc) (.slice sa S.2.1.length sc) (.int .u32 (S.2.2.1 : Int)) (.int .u32 (S.2.2.2 : Int))
  rw [show set5 w4 g2 (.slice y.ba S.1.1.length y.bc) (.slice y.wa S.1.2.length y.wc) (.slice sa S.2.1.length sc) (.int .u32 (S.2.2.1 : Int)) (.int .u32 (S.2.2.2 : Int)) = wa by simp only [set5]; exact hwa] at x5
  have hcs5 := And.intro (stC0 x5) (And.intro (stC1 x5) (And.intro (stC2 x5) (And.intro (stC3 x5) (stC4 x5))))
  clear x5
  go_simp
  refine hK _ _ hcs5 ?_
  clear hK K hcs4 hcs5
  try simp only [Act.put, List.setIfInBounds_toArray, List.set_cons_zero, List.set_cons_succ]
  refine wpI_done (by kernel_rfl) ?_
  go_wp2_with fail
  clear m0 m1 m2 m3 m4 hfy hwa
  have e0 := bx0 HYF.out
  have e1 := bx1 HYF.out
  have e2 := bx2 HYF.out
  have e3 := bx3 HYF.out
  have e4 := bx4 HYF.out
  refine bodyPost_ret (v := .agg #[(.slice y.ba S.1.1.length y.bc), (.slice y.wa S.1.2.length y.wc), (.slice sa S.2.1.length sc), (.int .u32 (S.2.2.1 : Int)), (.int .u32 (S.2.2.2 : Int))]) (by simp [results, Tryz.f54, go_sem, e0, e1, e2, e3, e4]) rfl ?_
  have hn := newS_of (B'' := w.heap.size) HD.out HO.out HS.out.now.2.1 (HK.out) (HK.out) (by rw [HG.out]; exact HW2.out) (by rw [HG.out]; exact Nat.le_refl _) S.2.2.1 S.2.2.2
  exact ⟨⟨y, sa, sc⟩, rfl, hn.1, hn.2, by rw [HG.out]; exact HBF.out⟩
end Go.Proofs.YtafbidhbmfdlkaaGreatDoor
/-
  txg's work: flush, putLabel, settle, giveMeta, where nothing is refused.
-/
namespace Go.Proofs.YtafbidhbmfdlkaaGreatDoor
open Go.RowKit Go.Shelf
set_option maxRecDepth 100000

/-- The sizes of a pointer's numbers lie in no box of this kind. -/
theorem box_ne0 {w : World} {g : Nat} {k : Wk} (h : Box w g k) (hz : Szs w) : g ≠ 0 := fun e => by
  subst e
  have := h.c0
  rw [hz.2.1] at this
  cases this
theorem Szs.fz {N : Nat} {X : Nat → Prop} {w w' : World} (h : Szs w) (fz : Fz N X w w') (hN : 0 < N) (hx : ¬ X 0) : Szs w' := by
  obtain ⟨h0, h1⟩ := h
  have e : ∀ i, w'.cell? ⟨0, i, none⟩ = w.cell? ⟨0, i, none⟩ := fun i => by
    unfold World.cell?
    rw [show (⟨0, i, none⟩ : Addr).block = 0 from rfl, fz.same 0 hN hx]
  exact ⟨Nat.lt_of_lt_of_le h0 fz.size, by rw [e, e, e, e, e]; exact h1⟩
theorem Szs.only {w w' : World} {g : Nat} (h : Szs w) (hg : w.grownBy w' (some g)) (hne : g ≠ 0) : Szs w' :=
  h.fz (N := w.heap.size) (X := fun i => i = g) (Fz.of_grown hg (Nat.le_refl _) (fun _ e => .inl (Option.some.inj e).symm)) h.1 (fun e => hne e.symm)
theorem Box.keeps {w w' : World} {g L : Nat} {k : Wk} (h : Box w g k) (hg : w.grownBy w' (some g)) (hL : L ≤ g) : Keeps L w w' := Keeps.of_box hg h (by decide) hL
/-- A store whose disk is another one. -/
theorem StP.disk {L : Nat} {w : World} {x : SAt} {S : StL} {y : DAt} {E : DkL} (h : StP L w x S) (hd : Lasts L w fun W => Dsk W W.heap.size y E) : StP L w { x with d := y } (E, S.2) := hd.and fun W k => (h W k).2
/-- A store whose table is another one. -/
theorem StP.table {L : Nat} {w : World} {x : SAt} {S : StL} {B c : Nat} {a : Option Addr} {T : List UInt8} (h : StP L w x S) (ht : w.ownsRow B 5 1 (.slice a T.length c) T.length (vals T)) : StP L w { x with a := a, c := c } (S.1, T, S.2.2) := fun W k => ⟨(h W k).1, own_lasts ht W k⟩
theorem Box.setH0 {w : World} {g : Nat} {k : Wk} (h : Box w g k) (u v : Value) : Box ((w.setCell ⟨g, 20, none⟩ u).setCell ⟨g, 21, none⟩ v) g { k with h0 := u, h1 := v } := Blk.set_ (Blk.set_ h 20 _) 21 _
theorem Box.setH1 {w : World} {g : Nat} {k : Wk} (h : Box w g k) (u v : Value) : Box ((w.setCell ⟨g, 22, none⟩ u).setCell ⟨g, 23, none⟩ v) g { k with h2 := u, h3 := v } := Blk.set_ (Blk.set_ h 22 _) 23 _
theorem Wk.stay2 {g : Nat} (w : World) (i j : Nat) (u v : Value) : w.grownBy ((w.setCell ⟨g, i, none⟩ u).setCell ⟨g, j, none⟩ v) (some g) := only_trans (Wk.stay w i u) (Wk.stay _ j v)
theorem Box.setT {w : World} {g : Nat} {k : Wk} (h : Box w g k) (a : Option Addr) (T : List UInt8) (c : Nat) : Box (w.setCell ⟨g, 2, none⟩ (.slice a T.length c)) g { k with x := { k.x with a := a, c := c }, S := (k.S.1, T, k.S.2.2) } := Blk.set_ h 2 _
set_option maxHeartbeats 2000000 in
theorem txFlush0_ok (L g : Nat) (k : Wk) (E : DkL) (w : World) (h : Box w g k) (hn : k.e = 0) (hT : StP L w k.x k.S) (hL : L ≤ g) (hE : flushO k.S.1 = (E, 0)) :
    Calls Tryz.prog 36 #[.pointer (some ⟨g, 0, none⟩), .int .i64 0] w fun r w' => r = .returned (.tuple #[]) ∧ ∃ y, Box w' g { k with h0 := .slice k.x.d.ba k.S.1.1.length k.x.d.bc, h1 := .slice k.x.d.wa k.S.1.2.length k.x.d.wc, x := { k.x with d := y }, S := (E, k.S.2) } ∧ StP L w' { k.x with d := y } (E, k.S.2) ∧ w.grownBy w' (some g) := by
  have hmx : Tryz.prog.follows Departure.mixedOrders = true := by kernel_rfl
  have H0 := Lib.hid h
  have HT0 := Lib.hid hT
  have HE := Lib.hid hE
  have HN := Lib.hid hn
  have HLG := Lib.hid hL
  have c24 := h.c24
  rw [hn] at c24
  clear h hT hL hE hn
  go_enter Tryz.func36, Tryz.ntmps36
  go_wp2_with fail
  obtain ⟨wd, hwd⟩ : ∃ wd, w.drew = wd := ⟨_, rfl⟩
  have bq : Below w.heap.size w wd := by rw [← hwd]; exact (Below.refl _ w).drew
  have HX := Lib.hid (H0.out.bel bq)
  have HT := Lib.hid (HT0.out.bel bq)
  have HG := Lib.hid (Below.only (g := g) bq)
  clear bq
  have hcs : wd.cell? ⟨g, 0, none⟩ = some (.slice k.x.d.ba k.S.1.1.length k.x.d.bc) ∧ wd.cell? ⟨g, 1, none⟩ = some (.slice k.x.d.wa k.S.1.2.length k.x.d.wc) := ⟨HX.out.c0, HX.out.c1⟩
  refine wpJ_start (fun X => X.cell? ⟨g, 0, none⟩ = some (.slice k.x.d.ba k.S.1.1.length k.x.d.bc) ∧ X.cell? ⟨g, 1, none⟩ = some (.slice k.x.d.wa k.S.1.2.length k.x.d.wc)) [0, 1, 2, 3, 4, 5, 6, 7, 8, 9, 10, 11] hmx rfl hwd ?_
  clear hwd c24
  iterate 11 (
    refine wpJ_read (v := ?_) hcs rfl (by kernel_rfl) (by kernel_rfl) (by kernel_rfl) (fun _ _ _ h => h) (.inl ⟨by rfl, ?_⟩) ?_
    rotate_left
    · intro X hX
      obtain ⟨j0, j1⟩ := hX
      go_simp
      with_reducible rfl
    try simp only [Act.put, List.setIfInBounds_toArray, List.set_cons_zero, List.set_cons_succ])
  have ca := HX.out.c20
  have cb := HX.out.c21
  have hfx := fun i => HX.out.frozen i
  have HX1 := Lib.hid (HX.out.setH0 (.slice k.x.d.ba k.S.1.1.length k.x.d.bc) (.slice k.x.d.wa k.S.1.2.length k.x.d.wc))
  have hg1 := Wk.stay2 (g := g) wd 20 21 (.slice k.x.d.ba k.S.1.1.length k.x.d.bc) (.slice k.x.d.wa k.S.1.2.length k.x.d.wc)
  have HT1 := Lib.hid (HT.out.step (HX.out.keeps hg1 HLG.out))
  have HG1 := Lib.hid (only_trans HG.out hg1)
  obtain ⟨w1, hw1⟩ : ∃ X, (wd.setCell ⟨g, 20, none⟩ (.slice k.x.d.ba k.S.1.1.length k.x.d.bc)).setCell ⟨g, 21, none⟩ (.slice k.x.d.wa k.S.1.2.length k.x.d.wc) = X := ⟨_, rfl⟩
  rw [hw1] at HX1 HT1 HG1 hg1
  refine wpJ_last rfl (by kernel_rfl) (by kernel_rfl) (fun K hK => ?_)
  go_simp
  try rw [hw1]
  refine hK _ _ ?_
  clear hK K hcs ca cb hfx hg1 hw1
  try simp only [Act.put, List.setIfInBounds_toArray, List.set_cons_zero, List.set_cons_succ]
  refine wpJ_done (by kernel_rfl) ?_
  have d0 := HX1.out.c0
  have d1 := HX1.out.c1
  have hfl := dFlush_any k.x.d k.S.1 w1 HT1.out.now.1
  rw [HE.out] at hfl
  simp only [dval] at hfl
  have HFL := Lib.hid hfl
  clear hfl
  go_wp2_with fail
  refine HFL.out.mono ?_
  rintro e w2 ⟨y, rfl, hy, b2⟩
  have HX2 := Lib.hid (HX1.out.bel b2)
  have HT2 := Lib.hid (StP.disk (HT1.out.bel b2) (outD_lasts hy L))
  have HG2 := Lib.hid (only_trans HG1.out (Below.only b2))
  have HWR := txWrite_ok g _ y E w2 HX2.out HN.out
  simp only [dval] at HWR
  have HW := Lib.hid HWR
  clear hy b2 HWR d0 d1
  go_wp2_with fail
  refine HW.out.mono ?_
  rintro e w3 ⟨rfl, hx3, hg3⟩
  have HX3 := Lib.hid hx3
  have HT3 := Lib.hid (HT2.out.step (HX2.out.keeps hg3 HLG.out))
  have HG3 := Lib.hid (only_trans HG2.out hg3)
  clear hx3 hg3
  go_wp2_with fail
  go_end0
  exact ⟨rfl, y, HX3.out, HT3.out, HG3.out⟩
set_option maxHeartbeats 2000000 in
theorem txFlush1_ok (L g : Nat) (k : Wk) (E : DkL) (w : World) (h : Box w g k) (hn : k.e = 0) (hT : StP L w k.x k.S) (hL : L ≤ g) (hE : flushO k.S.1 = (E, 0)) :
    Calls Tryz.prog 36 #[.pointer (some ⟨g, 0, none⟩), .int .i64 1] w fun r w' => r = .returned (.tuple #[]) ∧ ∃ y, Box w' g { k with h2 := .slice k.x.d.ba k.S.1.1.length k.x.d.bc, h3 := .slice k.x.d.wa k.S.1.2.length k.x.d.wc, x := { k.x with d := y }, S := (E, k.S.2) } ∧ StP L w' { k.x with d := y } (E, k.S.2) ∧ w.grownBy w' (some g) := by
  have hmx : Tryz.prog.follows Departure.mixedOrders = true := by kernel_rfl
  have H0 := Lib.hid h
  have HT0 := Lib.hid hT
  have HE := Lib.hid hE
  have HN := Lib.hid hn
  have HLG := Lib.hid hL
  have c24 := h.c24
  rw [hn] at c24
  clear h hT hL hE hn
  go_enter Tryz.func36, Tryz.ntmps36
  go_wp2_with fail
  obtain ⟨wd, hwd⟩ : ∃ wd, w.drew = wd := ⟨_, rfl⟩
  have bq : Below w.heap.size w wd := by rw [← hwd]; exact (Below.refl _ w).drew
  have HX := Lib.hid (H0.out.bel bq)
  have HT := Lib.hid (HT0.out.bel bq)
  have HG := Lib.hid (Below.only (g := g) bq)
  clear bq
  have hcs : wd.cell? ⟨g, 0, none⟩ = some (.slice k.x.d.ba k.S.1.1.length k.x.d.bc) ∧ wd.cell? ⟨g, 1, none⟩ = some (.slice k.x.d.wa k.S.1.2.length k.x.d.wc) := ⟨HX.out.c0, HX.out.c1⟩
  refine wpJ_start (fun X => X.cell? ⟨g, 0, none⟩ = some (.slice k.x.d.ba k.S.1.1.length k.x.d.bc) ∧ X.cell? ⟨g, 1, none⟩ = some (.slice k.x.d.wa k.S.1.2.length k.x.d.wc)) [0, 1, 2, 3, 4, 5, 6, 7, 8, 9, 10, 11] hmx rfl hwd ?_
  clear hwd c24
  iterate 11 (
    refine wpJ_read (v := ?_) hcs rfl (by kernel_rfl) (by kernel_rfl) (by kernel_rfl) (fun _ _ _ h => h) (.inl ⟨by rfl, ?_⟩) ?_
    rotate_left
    · intro X hX
      obtain ⟨j0, j1⟩ := hX
      go_simp
      with_reducible rfl
    try simp only [Act.put, List.setIfInBounds_toArray, List.set_cons_zero, List.set_cons_succ])
  have ca := HX.out.c22
  have cb := HX.out.c23
  have hfx := fun i => HX.out.frozen i
  have HX1 := Lib.hid (HX.out.setH1 (.slice k.x.d.ba k.S.1.1.length k.x.d.bc) (.slice k.x.d.wa k.S.1.2.length k.x.d.wc))
  have hg1 := Wk.stay2 (g := g) wd 22 23 (.slice k.x.d.ba k.S.1.1.length k.x.d.bc) (.slice k.x.d.wa k.S.1.2.length k.x.d.wc)
  have HT1 := Lib.hid (HT.out.step (HX.out.keeps hg1 HLG.out))
  have HG1 := Lib.hid (only_trans HG.out hg1)
  obtain ⟨w1, hw1⟩ : ∃ X, (wd.setCell ⟨g, 22, none⟩ (.slice k.x.d.ba k.S.1.1.length k.x.d.bc)).setCell ⟨g, 23, none⟩ (.slice k.x.d.wa k.S.1.2.length k.x.d.wc) = X := ⟨_, rfl⟩
  rw [hw1] at HX1 HT1 HG1 hg1
  refine wpJ_last rfl (by kernel_rfl) (by kernel_rfl) (fun K hK => ?_)
  go_simp
  try rw [hw1]
  refine hK _ _ ?_
  clear hK K hcs ca cb hfx hg1 hw1
  try simp only [Act.put, List.setIfInBounds_toArray, List.set_cons_zero, List.set_cons_succ]
  refine wpJ_done (by kernel_rfl) ?_
  have d0 := HX1.out.c0
  have d1 := HX1.out.c1
  have hfl := dFlush_any k.x.d k.S.1 w1 HT1.out.now.1
  rw [HE.out] at hfl
  simp only [dval] at hfl
  have HFL := Lib.hid hfl
  clear hfl
  go_wp2_with fail
  refine HFL.out.mono ?_
  rintro e w2 ⟨y, rfl, hy, b2⟩
  have HX2 := Lib.hid (HX1.out.bel b2)
  have HT2 := Lib.hid (StP.disk (HT1.out.bel b2) (outD_lasts hy L))
  have HG2 := Lib.hid (only_trans HG1.out (Below.only b2))
  have HWR := txWrite_ok g _ y E w2 HX2.out HN.out
  simp only [dval] at HWR
  have HW := Lib.hid HWR
  clear hy b2 HWR d0 d1
  go_wp2_with fail
  refine HW.out.mono ?_
  rintro e w3 ⟨rfl, hx3, hg3⟩
  have HX3 := Lib.hid hx3
  have HT3 := Lib.hid (HT2.out.step (HX2.out.keeps hg3 HLG.out))
  have HG3 := Lib.hid (only_trans HG2.out hg3)
  clear hx3 hg3
  go_wp2_with fail
  go_end0
  exact ⟨rfl, y, HX3.out, HT3.out, HG3.out⟩
set_option maxHeartbeats 2000000 in
theorem txPutLabel_ok (L g : Nat) (k : Wk) (E : DkL) (w : World) (h : Box w g k) (hn : k.e = 0) (hT : StP L w k.x k.S) (hL : L ≤ g) (hz : Szs w) (hw : WfL (k.birth, k.S.2.2.1, k.root)) (hE : putO k.S.1 (k.birth, k.S.2.2.1, k.root) = (E, 0)) :
    Calls Tryz.prog 37 #[.pointer (some ⟨g, 0, none⟩)] w fun r w' => r = .returned (.tuple #[]) ∧ ∃ y, Box w' g { k with x := { k.x with d := y }, S := (E, k.S.2) } ∧ StP L w' { k.x with d := y } (E, k.S.2) ∧ w.grownBy w' (some g) := by
  have hmx : Tryz.prog.follows Departure.mixedOrders = true := by kernel_rfl
  have H0 := Lib.hid h
  have HT0 := Lib.hid hT
  have HE := Lib.hid hE
  have HN := Lib.hid hn
  have HLG := Lib.hid hL
  have HWF := Lib.hid hw
  have HZ0 := Lib.hid hz
  have c24 := h.c24
  rw [hn] at c24
  clear h hT hL hE hz hw hn
  go_enter Tryz.func37, Tryz.ntmps37
  go_wp2_with fail
  obtain ⟨wd, hwd⟩ : ∃ wd, w.drew = wd := ⟨_, rfl⟩
  have bq : Below w.heap.size w wd := by rw [← hwd]; exact (Below.refl _ w).drew
  have HX := Lib.hid (H0.out.bel bq)
  have HT := Lib.hid (HT0.out.bel bq)
  have HG := Lib.hid (Below.only (g := g) bq)
  have HZ := Lib.hid (HZ0.out.step bq)
  clear bq
  refine wpJ_start (fun X => Box X g k) [0, 1, 2, 3, 4, 5, 6, 7, 8, 9, 10, 11, 12, 13, 14, 15, 16, 17, 18, 19, 20, 21, 22, 23, 24, 25, 26] hmx rfl hwd ?_
  clear hwd c24
  iterate 23 (
    refine wpJ_read (v := ?_) HX.out rfl (by kernel_rfl) (by kernel_rfl) (by kernel_rfl) (fun _ _ _ h => h) (.inl ⟨by rfl, ?_⟩) ?_
    rotate_left
    · intro X hX
      have j0 := hX.c0
      have j1 := hX.c1
      have j3 := hX.c3
      have j6 := hX.c6
      have j7 := hX.c7
      have j8 := hX.c8
      have j9 := hX.c9
      have j10 := hX.c10
      have j19 := hX.c19
      clear hX
      go_simp
      with_reducible rfl
    try simp only [Act.put, List.setIfInBounds_toArray, List.set_cons_zero, List.set_cons_succ])
  have hpu := lPut_any k.x.d k.S.1 (k.birth, k.S.2.2.1, k.root) wd HT.out.now.1 HWF.out HZ.out
  rw [HE.out] at hpu
  simp only [dval, lbV] at hpu
  have HPU := Lib.hid hpu
  clear hpu
  refine wpJ_lone rfl (by kernel_rfl) (fun K hK => ?_)
  go_simp
  refine HPU.out.mono ?_
  rintro ev w2 ⟨y, rfl, hy, b2⟩
  have HX2 := Lib.hid (HX.out.bel b2)
  have HT2 := Lib.hid (StP.disk (HT.out.bel b2) (outD_lasts hy L))
  have HG2 := Lib.hid (only_trans HG.out (Below.only b2))
  refine hK _ _ HX2.out ?_
  clear hK K hy b2 HPU
  simp only [dval]
  try simp only [Act.put, List.setIfInBounds_toArray, List.set_cons_zero, List.set_cons_succ]
  iterate 2 (
    refine wpJ_read (v := ?_) HX2.out rfl (by kernel_rfl) (by kernel_rfl) (by kernel_rfl) (fun _ _ _ h => h) (.inl ⟨by rfl, ?_⟩) ?_
    rotate_left
    · intro X hX
      clear hX
      go_simp
      with_reducible rfl
    try simp only [Act.put, List.setIfInBounds_toArray, List.set_cons_zero, List.set_cons_succ])
  have HWR := txWrite_ok g _ y E w2 HX2.out HN.out
  simp only [dval] at HWR
  have HW := Lib.hid HWR
  clear HWR
  refine wpJ_last rfl (by kernel_rfl) (by kernel_rfl) (fun K hK => ?_)
  go_simp
  refine HW.out.mono ?_
  rintro ev w3 ⟨rfl, hx3, hg3⟩
  have HX3 := Lib.hid hx3
  have HT3 := Lib.hid (HT2.out.step (HX2.out.keeps hg3 HLG.out))
  have HG3 := Lib.hid (only_trans HG2.out hg3)
  refine hK _ _ ?_
  clear hK K hx3 hg3
  try simp only [Act.put, List.setIfInBounds_toArray, List.set_cons_zero, List.set_cons_succ]
  refine wpJ_done (by kernel_rfl) ?_
  go_wp2_with fail
  go_end0
  exact ⟨rfl, y, HX3.out, HT3.out, HG3.out⟩
set_option maxHeartbeats 2000000 in
theorem txSettle_ok (L g : Nat) (k : Wk) (w : World) (h : Box w g k) (hn : k.e = 0) (hT : StP L w k.x k.S) (hL : L ≤ g) (hm : MayT k.S.2.1) :
    Calls Tryz.prog 38 #[.pointer (some ⟨g, 0, none⟩)] w fun r w' => r = .returned (.tuple #[]) ∧ ∃ a c, Box w' g { k with x := { k.x with a := a, c := c }, S := (k.S.1, settleL k.S.2.1, k.S.2.2), gen := k.birth, changes := .slice none 0 0, logged := 0 } ∧ StP L w' { k.x with a := a, c := c } (k.S.1, settleL k.S.2.1, k.S.2.2) ∧ w.grownBy w' (some g) := by
  have HX0 := Lib.hid h
  have HT0 := Lib.hid hT
  have HN := Lib.hid hn
  have HLG := Lib.hid hL
  have HSE := Lib.hid (spSettle_ok k.x.a k.S.2.1.length k.x.c k.S.2.1 w hT.now.2 hm)
  have c24 := h.c24
  rw [hn] at c24
  have c2 := h.c2
  clear h hT hL hm hn
  go_enter Tryz.func38, Tryz.ntmps38
  go_wp2_with fail
  refine HSE.out.mono ?_
  rintro e w1 ⟨v, rfl, ho, b1⟩
  obtain ⟨a, c, rfl⟩ := nums_slice ho
  have HX1 := Lib.hid (HX0.out.bel b1)
  have HT1 := Lib.hid (StP.table (HT0.out.bel b1) ho)
  have HG1 := Lib.hid (Below.only (g := g) b1)
  have HRF := Lib.hid (txRefuse_0 g k w1 HX1.out HN.out)
  clear ho b1 c24 c2
  go_wp2_with fail
  refine HRF.out.mono ?_
  rintro e w2 ⟨rfl, rfl⟩
  have d2 := HX1.out.c2
  have d5 := HX1.out.c5
  have d15 := HX1.out.c15
  have d16 := HX1.out.c16
  have d19 := HX1.out.c19
  have hf := fun i => HX1.out.frozen i
  have HX2 := Lib.hid (HX1.out.setT a (settleL k.S.2.1) c)
  have hg2 := Wk.stay (g := g) w1 2 (.slice a (settleL k.S.2.1).length c)
  have HT2 := Lib.hid (HT1.out.step (HX1.out.keeps hg2 HLG.out))
  have HG2 := Lib.hid (only_trans HG1.out hg2)
  obtain ⟨w3, hw3⟩ : ∃ X, w1.setCell ⟨g, 2, none⟩ (.slice a (settleL k.S.2.1).length c) = X := ⟨_, rfl⟩
  rw [hw3] at HX2 HT2 HG2
  clear hg2
  have e19 := HX2.out.c19
  have e5 := HX2.out.c5
  have e15 := HX2.out.c15
  have e16 := HX2.out.c16
  have hf3 := fun i => HX2.out.frozen i
  have hb4 := Blk.set_ (Blk.set_ (Blk.set_ HX2.out 5 (.int .u32 (k.birth : Int))) 15 (.slice none 0 0)) 16 (.int .i64 0)
  have hg4 := only_trans (only_trans (Wk.stay (g := g) w3 5 (.int .u32 (k.birth : Int))) (Wk.stay _ 15 (.slice none 0 0))) (Wk.stay _ 16 (.int .i64 0))
  have HT4 := Lib.hid (HT2.out.step (HX2.out.keeps hg4 HLG.out))
  have HG4 := Lib.hid (only_trans HG2.out hg4)
  obtain ⟨w4, hw4⟩ : ∃ X, ((w3.setCell ⟨g, 5, none⟩ (.int .u32 (k.birth : Int))).setCell ⟨g, 15, none⟩ (.slice none 0 0)).setCell ⟨g, 16, none⟩ (.int .i64 0) = X := ⟨_, rfl⟩
  rw [hw4] at hb4 HT4 HG4
  have HX4 := Lib.hid (show Box w4 g { k with x := { k.x with a := a, c := c }, S := (k.S.1, settleL k.S.2.1, k.S.2.2), gen := k.birth, changes := .slice none 0 0, logged := 0 } from hb4)
  clear hb4 hg4
  go_wp2_with fail
  go_end0
  exact ⟨rfl, a, c, HX4.out, HT4.out, HG4.out⟩
end Go.Proofs.YtafbidhbmfdlkaaGreatDoor
/-
  txg's work: giveMeta, where all of the pool's own blocks are used.
-/
namespace Go.Proofs.YtafbidhbmfdlkaaGreatDoor
open Go.RowKit Go.Shelf
set_option maxRecDepth 100000

/-- A table in which the first j of these blocks are given up. -/
def giveN (T : List UInt8) (own : List Nat) (j : Nat) : List UInt8 := (own.take j).foldl (fun s k => s.set k 2) T
theorem giveN_step (T : List UInt8) (own : List Nat) (j : Nat) (hj : j < own.length) : giveN T own (j + 1) = (giveN T own j).set (own.getD j 0) 2 := by
  unfold giveN
  rw [List.take_add_one, List.getElem?_eq_getElem hj, List.foldl_append, List.getD_eq_getElem?_getD, List.getElem?_eq_getElem hj]
  rfl
/-- Which of a pool's own blocks may be. -/
structure MayOwn (T : List UInt8) (own : List Nat) : Prop where
  one : ∀ k ∈ own, 12 ≤ k ∧ k < 256 ∧ mkT T k = 1
  rise : own.Pairwise (· < ·)
theorem giveN_may {T : List UInt8} {own : List Nat} (hT : MayT T) (h : MayOwn T own) : ∀ j, j ≤ own.length → MayT (giveN T own j) ∧ ∀ i, i < 256 → (∀ t, t < j → own.getD t 0 ≠ i) → mkT (giveN T own j) i = mkT T i
  | 0, _ => ⟨hT, fun _ _ _ => rfl⟩
  | j + 1, hj => by
    obtain ⟨h1, h2⟩ := giveN_may hT h j (by omega)
    have hm : own.getD j 0 ∈ own := by
      rw [List.getD_eq_getElem?_getD, List.getElem?_eq_getElem (by omega)]
      exact List.getElem_mem _
    obtain ⟨k1, k2, k3⟩ := h.one _ hm
    rw [giveN_step T own j (by omega)]
    refine ⟨set_may h1 k1 k2 2 (by decide), fun i hi hne => ?_⟩
    rw [mkT_set _ _ _ _ (by rw [h1.1]; exact k2), if_neg (fun e => hne j (by omega) e.symm)]
    exact h2 i hi fun t ht => hne t (by omega)
theorem giveN_used {T : List UInt8} {own : List Nat} (hT : MayT T) (h : MayOwn T own) (j : Nat) (hj : j < own.length) : mkT (giveN T own j) (own.getD j 0) = 1 := by
  have e : own.getD j 0 = own[j] := by rw [List.getD_eq_getElem?_getD, List.getElem?_eq_getElem hj]; rfl
  obtain ⟨k1, k2, k3⟩ := h.one _ (List.getElem_mem hj)
  rw [e, (giveN_may hT h j (by omega)).2 _ k2 (fun t ht => ?_), k3]
  rw [List.getD_eq_getElem?_getD, List.getElem?_eq_getElem (by omega)]
  have := List.pairwise_iff_getElem.1 h.rise t j (by omega) hj ht
  simp only [Option.getD_some]
  omega
set_option maxHeartbeats 4000000 in
theorem txGiveMeta_ok (L g B : Nat) (k : Wk) (n : Nat) (own : List Nat) (w : World) (h : Box w g k) (hn : k.e = 0) (hT : StP L w k.x k.S) (hL : L ≤ g) (hm : MayT k.S.2.1) (ho : MayOwn k.S.2.1 own) (hM : w.ownsRow B 3 1 k.own n (valsN own)) (hnn : n ≤ 1000) :
    Calls Tryz.prog 34 #[.pointer (some ⟨g, 0, none⟩)] w fun r w' => r = .returned (.tuple #[]) ∧ ∃ a c, Box w' g { k with x := { k.x with a := a, c := c }, S := (k.S.1, giveN k.S.2.1 own own.length, k.S.2.2), own := .slice none 0 0 } ∧ StP L w' { k.x with a := a, c := c } (k.S.1, giveN k.S.2.1 own own.length, k.S.2.2) ∧ w.grownBy w' (some g) := by
  have HN := Lib.hid hn
  have HLG := Lib.hid hL
  have HMT := Lib.hid hm
  have HMO := Lib.hid ho
  have HLN := Lib.hid (show own.length = n by have := hM.1; simpa [valsN] using this)
  have HX0 := Lib.hid h
  have HT0 := Lib.hid hT
  have HNE := Lib.hid (own_ty hM h (show 3 ≠ 62 by decide))
  obtain ⟨ma, mc, hmv⟩ := nums_slice hM
  have HMV := Lib.hid hmv
  have HM := Lib.hid hM
  have n0 : (0 : Int) ≤ (n : Int) := by omega
  have n9 : (n : Int) ≤ 1000 := by omega
  have c11 := h.c11
  rw [hmv] at c11
  have HNN := Lib.hid hnn
  clear h hn hT hL hm ho hM hnn hmv
  go_enter Tryz.func34, Tryz.ntmps34
  go_wp2_with fail
  clear c11
  go_loopw [12] (fun i wr => ∃ (j : Nat) (a : Option Addr) (c : Nat), j ≤ n ∧ i = .int .i64 j ∧ Box wr g { k with x := { k.x with a := a, c := c }, S := (k.S.1, giveN k.S.2.1 own j, k.S.2.2) } ∧ StP L wr { k.x with a := a, c := c } (k.S.1, giveN k.S.2.1 own j, k.S.2.2) ∧ w.grownBy wr (some g)) (fun i _ => n - (intOf i).toNat)
  case atStart => exact ⟨0, k.x.a, k.x.c, Nat.zero_le _, rfl, HX0.out, HT0.out, World.grownBy.refl w _⟩
  case round =>
    obtain ⟨j, a, c, hj, rfl, hx, hst, hg⟩ := hrel
    have j0 : (0 : Int) ≤ j := by omega
    have HX := Lib.hid hx
    have HT := Lib.hid hst
    have HG := Lib.hid hg
    have hmr := own_other HM.out hg HNE.out
    by_cases hlt : j < n
    · have j1 : (j : Int) < n := by omega
      obtain ⟨gm, mcap, hv, _, _, hns⟩ := nsl_of_own hmr (by omega)
      rw [HMV.out] at hv
      cases hv
      have hcj := hns.cell0 j hlt
      obtain ⟨at_, hat⟩ : ∃ x, own.getD j 0 = x := ⟨_, rfl⟩
      rw [hat] at hcj
      have hjl : j < own.length := by rw [HLN.out]; exact hlt
      have hu := giveN_used HMT.out HMO.out j hjl
      rw [hat] at hu
      have hme : at_ ∈ own := by
        rw [← hat, List.getD_eq_getElem?_getD, List.getElem?_eq_getElem hjl]
        exact List.getElem_mem _
      obtain ⟨k1, k2, _⟩ := HMO.out.one _ hme
      have hmay := (giveN_may HMT.out HMO.out j (by omega)).1
      have hst2 := giveN_step k.S.2.1 own j hjl
      rw [hat] at hst2
      have hgv := spGive_ok a (giveN k.S.2.1 own j).length c (giveN k.S.2.1 own j) at_ k1 k2 wr hst.now.2 hmay hu
      rw [← hst2] at hgv
      have HGV := Lib.hid hgv
      have c24 := hx.c24
      rw [HN.out] at c24
      have c2 := hx.c2
      clear hgv hst2 hmay hme hu hjl hat hns hmr hx hst hg k1 k2
      go_wp2_with fail
      refine HGV.out.mono ?_
      rintro e w1 ⟨v, rfl, ho1, b1⟩
      obtain ⟨a2, cc2, rfl⟩ := nums_slice ho1
      have HX1 := Lib.hid (HX.out.bel b1)
      have HT1 := Lib.hid (StP.table (HT.out.bel b1) ho1)
      have HG1 := Lib.hid (only_trans HG.out (Below.only b1))
      have HRF := Lib.hid (txRefuse_0 g _ w1 HX1.out HN.out)
      clear ho1 b1 c24 c2 hcj
      go_wp2_with fail
      refine HRF.out.mono ?_
      rintro e w2 ⟨rfl, rfl⟩
      have d2 := HX1.out.c2
      have hf := fun i => HX1.out.frozen i
      have HX2 := Lib.hid (HX1.out.setT a2 (giveN k.S.2.1 own (j + 1)) cc2)
      have hg2 := Wk.stay (g := g) w1 2 (.slice a2 (giveN k.S.2.1 own (j + 1)).length cc2)
      have HT2 := Lib.hid (HT1.out.step (HX1.out.keeps hg2 HLG.out))
      have HG2 := Lib.hid (only_trans HG1.out hg2)
      obtain ⟨w3, hw3⟩ : ∃ X, w1.setCell ⟨g, 2, none⟩ (.slice a2 (giveN k.S.2.1 own (j + 1)).length cc2) = X := ⟨_, rfl⟩
      rw [hw3] at HX2 HT2 HG2
      clear hg2
      go_wp2_with fail
      go_roundw
      case rel => exact ⟨j + 1, a2, cc2, by omega, by go_num, HX2.out, HT2.out, HG2.out⟩
      case measure => simp [intOf]; omega
    · obtain rfl : j = n := by omega
      have d11 := HX.out.c11
      have hf := fun i => HX.out.frozen i
      have HX2 := Lib.hid (HX.out.set11 (.slice none 0 0))
      have hg2 := Wk.stay (g := g) wr 11 (.slice none 0 0)
      have HT2 := Lib.hid (HT.out.step (HX.out.keeps hg2 HLG.out))
      have HG2 := Lib.hid (only_trans HG.out hg2)
      obtain ⟨w3, hw3⟩ : ∃ X, wr.setCell ⟨g, 11, none⟩ (.slice none 0 0) = X := ⟨_, rfl⟩
      rw [hw3] at HX2 HT2 HG2
      clear hg2 hx hst hg hlt hj hmr
      go_wp2_with fail
      go_end0
      rw [HLN.out]
      exact ⟨rfl, a, c, HX2.out, HT2.out, HG2.out⟩
end Go.Proofs.YtafbidhbmfdlkaaGreatDoor
/-
  txg's own mayMeta (where the pool's own blocks may be), and what is asked of lines and changes where there are none.
-/
namespace Go.Proofs.YtafbidhbmfdlkaaGreatDoor
open Go.RowKit Go.Shelf
set_option maxRecDepth 100000

set_option maxHeartbeats 4000000 in
theorem txMayMeta_yes (ma : Option Addr) (n mc : Nat) (own : List Nat) (ta : Option Addr) (tc : Nat) (T : List UInt8) (w : World) (hM : Nsl w w.heap.size ma n mc own) (hT : Bsl w w.heap.size ta T.length tc T) (hm : MayT T) (ho : MayOwn T own) (hn : n ≤ 1000) :
    Calls Tryz.prog 102 #[.slice ma n mc, .slice ta T.length tc] w fun e w' => e = .returned (.bool true) ∧ w = w' := by
  have HN := Lib.hid hM.1
  have HM := Lib.hid hM
  have HT := Lib.hid hT
  have HL := Lib.hid hm.1
  have HO := Lib.hid ho
  have n0 : (0 : Int) ≤ (n : Int) := by omega
  have n9 : (n : Int) ≤ 1000 := by omega
  rw [hm.1]
  clear hM hT hm ho hn
  go_enter Tryz.func102, Tryz.ntmps102
  go_wp2_with fail
  go_loopw [9] (fun i wr => ∃ j : Nat, j ≤ n ∧ i = .int .i64 j ∧ w = wr) (fun i _ => n - (intOf i).toNat)
  case atStart => exact ⟨0, Nat.zero_le _, rfl, rfl⟩
  case round =>
    obtain ⟨j, hj, rfl, rfl⟩ := hrel
    have j0 : (0 : Int) ≤ j := by omega
    by_cases hlt : j < n
    · have j1 : (j : Int) < n := by omega
      obtain ⟨mb, mo, ea, _, hc⟩ := HM.out.2.2.2.2 (by omega)
      subst ea
      have hjl : j < own.length := by rw [HN.out]; exact hlt
      have hcj := hc j hjl
      obtain ⟨k1, k2, k3⟩ := HO.out.one _ (List.getElem_mem hjl)
      obtain ⟨x, hx⟩ : ∃ x, own[j] = x := ⟨_, rfl⟩
      rw [hx] at hcj k1 k2 k3
      obtain ⟨tb, to_, ea, _, ht⟩ := HT.out.2.2.2.2 (by rw [HL.out]; omega)
      subst ea
      have htx := ht x (by rw [HL.out]; exact k2)
      have e1 : (((T[x]'(by rw [HL.out]; exact k2)).toNat : Nat) : Int) = 1 := by
        have : mkT T x = (T[x]'(by rw [HL.out]; exact k2)).toNat := by unfold mkT; rw [List.getD_eq_getElem?_getD, List.getElem?_eq_getElem (by rw [HL.out]; exact k2)]; rfl
        omega
      rw [e1] at htx
      have x0 : (0 : Int) ≤ (x : Int) := by omega
      have x1 : (x : Int) < 256 := by omega
      have hw := txWithin_any (x : Int) 12 255 w
      rw [show decide ((12 : Int) ≤ (x : Int) ∧ (x : Int) ≤ 255) = true from decide_eq_true (by omega)] at hw
      have HW := Lib.hid hw
      clear hw ht e1 k3
      rcases Nat.eq_zero_or_pos j with rfl | hpos
      · clear hc hx hjl k1 k2
        rw [Nat.add_zero] at hcj
        go_wp2_with fail
        refine HW.out.mono ?_
        rintro e w1 ⟨rfl, rfl⟩
        go_wp2_with fail
        go_roundw
        case rel => exact ⟨1, by omega, by go_num, trivial⟩
        case measure => simp [intOf]; omega
      · obtain ⟨i, hi⟩ : ∃ i, j = i + 1 := ⟨j - 1, by omega⟩
        have hil : i < own.length := by omega
        have hci := hc i hil
        have hlt2 := List.pairwise_iff_getElem.1 HO.out.rise i j hil hjl (by omega)
        obtain ⟨y, hy⟩ : ∃ y, own[i] = y := ⟨_, rfl⟩
        rw [hx, hy] at hlt2
        rw [hy] at hci
        have i0 : (0 : Int) ≤ (i : Int) := by omega
        have jp : (j : Int) > 0 := by omega
        have jq : (0 : Int) < (j : Int) := by omega
        rw [show i = j - 1 by omega] at hci
        have ge : decide ((y : Int) ≥ (x : Int)) = false := decide_eq_false (by omega)
        have ge2 : decide ((x : Int) ≤ (y : Int)) = false := decide_eq_false (by omega)
        have ge3 : decide (x ≤ y) = false := decide_eq_false (by omega)
        have i1 : (j : Int) - 1 < (n : Int) := by omega
        have i2 : (0 : Int) ≤ (j : Int) - 1 := by omega
        clear hc hx hy hjl hil k1 k2 hlt2 hi
        go_wp2_with fail
        refine HW.out.mono ?_
        rintro e w1 ⟨rfl, rfl⟩
        go_wp2_with fail
        go_roundw
        case rel => exact ⟨j + 1, by omega, by go_num, trivial⟩
        case measure => simp [intOf]; omega
    · obtain rfl : j = n := by omega
      clear hlt hj
      go_wp2_with fail
      go_ret
      exact ⟨rfl, rfl⟩
theorem txMayLines_nil (a : Option Addr) (c : Nat) (w : World) : Calls Tryz.prog 103 #[.slice a 0 c] w fun e w' => e = .returned (.bool true) ∧ w = w' := by
  go_enter Tryz.func103, Tryz.ntmps103
  go_wp2_with fail
  go_loopw [10] (fun i wr => i = .int .i64 0 ∧ w = wr) (fun _ _ => 0)
  case atStart => exact ⟨rfl, rfl⟩
  case round =>
    obtain ⟨rfl, rfl⟩ := hrel
    go_wp2_with fail
    go_ret
    exact ⟨rfl, rfl⟩
theorem txMayChanges_nil (a : Option Addr) (c : Nat) (la : Option Addr) (n lc : Nat) (w : World) : Calls Tryz.prog 107 #[.slice a 0 c, .slice la n lc] w fun e w' => e = .returned (.bool true) ∧ w = w' := by
  go_enter Tryz.func107, Tryz.ntmps107
  go_wp2_with fail
  go_loopw [9] (fun i wr => i = .int .i64 0 ∧ w = wr) (fun _ _ => 0)
  case atStart => exact ⟨rfl, rfl⟩
  case round =>
    obtain ⟨rfl, rfl⟩ := hrel
    go_wp2_with fail
    go_ret
    exact ⟨rfl, rfl⟩
theorem txIndexL_nil (a : Option Addr) (c : Nat) (f : Value) (w : World) : Calls Tryz.prog 242 #[.slice a 0 c, f] w fun e w' => e = .returned (.int .i64 (-1)) ∧ w = w' := by
  go_enter Tryz.func242, Tryz.ntmps242
  go_wp2_with fail
  go_loopw [8] (fun i wr => i = .int .i64 0 ∧ w = wr) (fun _ _ => 0)
  case atStart => exact ⟨rfl, rfl⟩
  case round =>
    obtain ⟨rfl, rfl⟩ := hrel
    go_wp2_with fail
    go_ret
    exact ⟨rfl, rfl⟩
theorem txContainsL_nil (a : Option Addr) (c : Nat) (f : Value) (w : World) : Calls Tryz.prog 177 #[.slice a 0 c, f] w fun e w' => e = .returned (.bool false) ∧ w = w' := by
  have HX := Lib.hid (txIndexL_nil a c f w)
  go_enter Tryz.func177, Tryz.ntmps177
  go_wp2_with fail
  refine HX.out.mono ?_
  rintro e w1 ⟨rfl, rfl⟩
  go_wp2_with fail
  go_ret
  exact ⟨rfl, rfl⟩
end Go.Proofs.YtafbidhbmfdlkaaGreatDoor
/-
  Pools without lines and changes, by value: where their lists lie, and what they hold.
-/
namespace Go.Proofs.YtafbidhbmfdlkaaGreatDoor
open Go.RowKit Go.Shelf
set_option maxRecDepth 100000

/-- Where a pool's lists lie. -/
structure PoA where
  x : SAt
  ma : Option Addr
  mc : Nat
  la : Option Addr
  lc : Nat
  ka : Option Addr
  kc : Nat
  da : Option Addr
  dc : Nat
  ca : Option Addr
  cc : Nat
/-- A pool without lines and changes. -/
structure PoN where
  S : StL
  gen : Nat
  root : Pt
  own : List Nat
  keys : List (List UInt8)
  loaded : List (List UInt8)
  logged : Int
  nextId : Int
  nextGuid : Nat
@[reducible] def poC (x : PoA) (p : PoN) : Array Value := #[.slice x.x.d.ba p.S.1.1.length x.x.d.bc, .slice x.x.d.wa p.S.1.2.length x.x.d.wc, .slice x.x.a p.S.2.1.length x.x.c, .int .u32 (p.S.2.2.1 : Int), .int .u32 (p.S.2.2.2 : Int),
  .int .u32 (p.gen : Int), .int .i64 p.root.1, .int .u32 (p.root.2.1 : Int), .int .u32 (p.root.2.2.1 : Int), .int .u32 (p.root.2.2.2.1 : Int), .int .u32 (p.root.2.2.2.2 : Int),
  .slice x.ma p.own.length x.mc, .slice x.la 0 x.lc, .slice x.ka p.keys.length x.kc, .slice x.da p.loaded.length x.dc, .slice x.ca 0 x.cc, .int .i64 p.logged, .int .i64 p.nextId, .int .u32 (p.nextGuid : Int)]
@[reducible] def poV (x : PoA) (p : PoN) : Value := .agg (poC x p)
def PBox (w : World) (g : Nat) (x : PoA) (p : PoN) : Prop := Blk w g 36 (poC x p)
/-- A pool's lists read as they are said to, and its store lasts. -/
structure PoOk (L : Nat) (w : World) (x : PoA) (p : PoN) : Prop where
  st : StP L w x.x p.S
  own : Nsl w w.heap.size x.ma p.own.length x.mc p.own
  keys : Bls w w.heap.size x.ka p.keys.length x.kc p.keys
  loaded : Bls w w.heap.size x.da p.loaded.length x.dc p.loaded
/-- Which of these pools may be. -/
structure MayN (p : PoN) : Prop where
  st : MayS p.S
  gen : p.gen ≤ 16777215
  root : MayP p.root ∧ (p.root ≠ p0 ↔ 0 < p.gen)
  own : MayOwn p.S.2.1 p.own ∧ p.own.length ≤ 1000
  keys : p.keys.length = 8 ∧ (p.keys.all fun s => !badK wrapOk s) = true
  loaded : p.loaded.length = 8 ∧ (p.loaded.all fun s => !badK is16 s) = true
  logged : 0 ≤ p.logged ∧ p.logged ≤ 8
  next : 1 ≤ p.nextId ∧ p.nextId ≤ 256
section
variable {w w' : World} {g L : Nat} {x : PoA} {p : PoN}
theorem PoOk.step (h : PoOk L w x p) (hb : Below w.heap.size w w') : PoOk L w' x p := ⟨Lasts.bel h.st hb, h.own.step hb, h.keys.step hb, h.loaded.step hb⟩
theorem PBox.lt (h : PBox w g x p) : g < w.heap.size := Blk.lt h
theorem PBox.below {B : Nat} (h : PBox w g x p) (hb : Below B w w') (hg : g < B) : PBox w' g x p := Blk.below h hb hg
theorem PBox.frozen (h : PBox w g x p) (i : Nat) : w.frozen? ⟨g, i, none⟩ = false := Blk.frozen h i
theorem PBox.c0 (h : PBox w g x p) : w.cell? ⟨g, 0, none⟩ = some (.slice x.x.d.ba p.S.1.1.length x.x.d.bc) := Blk.cell h 0
theorem PBox.c1 (h : PBox w g x p) : w.cell? ⟨g, 1, none⟩ = some (.slice x.x.d.wa p.S.1.2.length x.x.d.wc) := Blk.cell h 1
theorem PBox.c2 (h : PBox w g x p) : w.cell? ⟨g, 2, none⟩ = some (.slice x.x.a p.S.2.1.length x.x.c) := Blk.cell h 2
theorem PBox.c3 (h : PBox w g x p) : w.cell? ⟨g, 3, none⟩ = some (.int .u32 (p.S.2.2.1 : Int)) := Blk.cell h 3
theorem PBox.c4 (h : PBox w g x p) : w.cell? ⟨g, 4, none⟩ = some (.int .u32 (p.S.2.2.2 : Int)) := Blk.cell h 4
theorem PBox.c5 (h : PBox w g x p) : w.cell? ⟨g, 5, none⟩ = some (.int .u32 (p.gen : Int)) := Blk.cell h 5
theorem PBox.c6 (h : PBox w g x p) : w.cell? ⟨g, 6, none⟩ = some (.int .i64 p.root.1) := Blk.cell h 6
theorem PBox.c7 (h : PBox w g x p) : w.cell? ⟨g, 7, none⟩ = some (.int .u32 (p.root.2.1 : Int)) := Blk.cell h 7
theorem PBox.c8 (h : PBox w g x p) : w.cell? ⟨g, 8, none⟩ = some (.int .u32 (p.root.2.2.1 : Int)) := Blk.cell h 8
theorem PBox.c9 (h : PBox w g x p) : w.cell? ⟨g, 9, none⟩ = some (.int .u32 (p.root.2.2.2.1 : Int)) := Blk.cell h 9
theorem PBox.c10 (h : PBox w g x p) : w.cell? ⟨g, 10, none⟩ = some (.int .u32 (p.root.2.2.2.2 : Int)) := Blk.cell h 10
theorem PBox.c11 (h : PBox w g x p) : w.cell? ⟨g, 11, none⟩ = some (.slice x.ma p.own.length x.mc) := Blk.cell h 11
theorem PBox.c12 (h : PBox w g x p) : w.cell? ⟨g, 12, none⟩ = some (.slice x.la 0 x.lc) := Blk.cell h 12
theorem PBox.c13 (h : PBox w g x p) : w.cell? ⟨g, 13, none⟩ = some (.slice x.ka p.keys.length x.kc) := Blk.cell h 13
theorem PBox.c14 (h : PBox w g x p) : w.cell? ⟨g, 14, none⟩ = some (.slice x.da p.loaded.length x.dc) := Blk.cell h 14
theorem PBox.c15 (h : PBox w g x p) : w.cell? ⟨g, 15, none⟩ = some (.slice x.ca 0 x.cc) := Blk.cell h 15
theorem PBox.c16 (h : PBox w g x p) : w.cell? ⟨g, 16, none⟩ = some (.int .i64 p.logged) := Blk.cell h 16
theorem PBox.c17 (h : PBox w g x p) : w.cell? ⟨g, 17, none⟩ = some (.int .i64 p.nextId) := Blk.cell h 17
theorem PBox.c18 (h : PBox w g x p) : w.cell? ⟨g, 18, none⟩ = some (.int .u32 (p.nextGuid : Int)) := Blk.cell h 18
end
theorem infoPo : (Tryz.prog.info? 36).map (·.size) = some 19 := by kernel_rfl
theorem loadPool_run (W : World) (g : Nat) (x : PoA) (p : PoN) (hb : PBox W g x p) : (loadVar 36 ⟨g, 0, none⟩).run Tryz.prog W = .ok (poV x p) W :=
  run_loadVar_row W g 36 36 (poC x p) (0, 0) _ hb Tryz.underlying36 rfl infoPo
theorem exec_loadPool {ev : Operand → Value} {o : Oper} {y : Operand} {X : World} {g : Nat} {x : PoA} {p : PoN} (ho : o.op = .load 36 y) (hx : ev y = .pointer (some ⟨g, 0, none⟩)) (hb : PBox X g x p) : (execOp ev o).run Tryz.prog X = .ok (.value (poV x p)) X := by
  unfold execOp
  simp only [ho, hx, Instr.loadAt, Instr.sureAddr, Sem.run_bind, Sem.run_pure, Result.andThen_ok, loadPool_run X g x p hb]
theorem wpList_load_pool {ops : Array Oper} {rest : List Oper} {o : Oper} {a : Act} {w : World} {Q : Exit → Act → World → Prop} (hgd : o.guard = none) (y : Operand) (ho : o.op = .load 36 y) (g : Nat) (x : PoA) (p : PoN) (hx : a.eval y = .pointer (some ⟨g, 0, none⟩)) (hb : PBox w g x p)
    (h : wpList Tryz.prog ops Q rest (a.put o.dst (poV x p)) w) : wpList Tryz.prog ops Q (o :: rest) a w :=
  wpList_load_row hgd 36 y ho g hx 36 (poC x p) (0, 0) _ hb Tryz.underlying36 rfl infoPo h
section
variable {P : Program} {ops : Array Oper} {Q : Exit → Act → World → Prop} {rest : List Oper} {a : Act} {w : World}
theorem tx_at_load {d : Option Tmp} {t ty : TypeId} {x : Operand} {pos : String} {af : Array Edge} (h : wpList P ops Q (⟨d, .load t x, ty, pos, af, none⟩ :: rest) a w) : wpList P ops Q (⟨d, .load t x, ty, pos, af, none⟩ :: rest) a w := h
theorem tx_at_store {d : Option Tmp} {t ty : TypeId} {x y : Operand} {pos : String} {af : Array Edge} (h : wpList P ops Q (⟨d, .store t x y, ty, pos, af, none⟩ :: rest) a w) : wpList P ops Q (⟨d, .store t x y, ty, pos, af, none⟩ :: rest) a w := h
end
section
variable {w : World} {g : Nat} {x : PoA} {p : PoN}
theorem PBox.setSt (h : PBox w g x p) (y : SAt) : PBox (set5 w g (.slice y.d.ba p.S.1.1.length y.d.bc) (.slice y.d.wa p.S.1.2.length y.d.wc) (.slice y.a p.S.2.1.length y.c) (.int .u32 (p.S.2.2.1 : Int)) (.int .u32 (p.S.2.2.2 : Int))) g { x with x := y } p :=
  Blk.set_ (Blk.set_ (Blk.set_ (Blk.set_ (Blk.set_ h 0 _) 1 _) 2 _) 3 _) 4 _
theorem PBox.setMa (h : PBox w g x p) (a : Option Addr) (c : Nat) : PBox (w.setCell ⟨g, 11, none⟩ (.slice a p.own.length c)) g { x with ma := a, mc := c } p := Blk.set_ h 11 _
theorem PBox.setLa (h : PBox w g x p) (a : Option Addr) (c : Nat) : PBox (w.setCell ⟨g, 12, none⟩ (.slice a 0 c)) g { x with la := a, lc := c } p := Blk.set_ h 12 _
theorem PBox.setKa (h : PBox w g x p) (a : Option Addr) (c : Nat) : PBox (w.setCell ⟨g, 13, none⟩ (.slice a p.keys.length c)) g { x with ka := a, kc := c } p := Blk.set_ h 13 _
theorem PBox.setDa (h : PBox w g x p) (a : Option Addr) (c : Nat) : PBox (w.setCell ⟨g, 14, none⟩ (.slice a p.loaded.length c)) g { x with da := a, dc := c } p := Blk.set_ h 14 _
theorem PBox.setCa (h : PBox w g x p) (a : Option Addr) (c : Nat) : PBox (w.setCell ⟨g, 15, none⟩ (.slice a 0 c)) g { x with ca := a, cc := c } p := Blk.set_ h 15 _
theorem PBox.bel {w' : World} (h : PBox w g x p) (hb : Below w.heap.size w w') : PBox w' g x p := Blk.below h hb (Blk.lt h)
theorem PBox.keeps {w' : World} (h : PBox w g x p) (hg : w.grownBy w' (some g)) : Keeps 0 w w' := Keeps.of_box hg h (by decide) (Nat.zero_le _)
end
/-- No pool's cells. -/
@[reducible] def poZ : Array Value := #[.slice none 0 0, .slice none 0 0, .slice none 0 0, .int .u32 0, .int .u32 0, .int .u32 0, .int .i64 0, .int .u32 0, .int .u32 0, .int .u32 0, .int .u32 0, .slice none 0 0, .slice none 0 0, .slice none 0 0, .slice none 0 0, .slice none 0 0, .int .i64 0, .int .i64 0, .int .u32 0]
/-- A pool in memory of the call's own, from B on. -/
structure PoNew (B : Nat) (w : World) (y : PoA) (p : PoN) : Prop where
  st : StP 0 w y.x p.S
  own : w.ownsRow B 3 1 (.slice y.ma p.own.length y.mc) p.own.length (valsN p.own)
  keys : BRowC w 0 B (.slice y.ka p.keys.length y.kc) p.keys
  loaded : BRowC w 0 B (.slice y.da p.loaded.length y.dc) p.loaded
  nil : y.la = none ∧ y.lc = 0 ∧ y.ca = none ∧ y.cc = 0
theorem nsl_own {w : World} {B n c : Nat} {a : Option Addr} {s : List Nat} (h : w.ownsRow B 3 1 (.slice a n c) n (valsN s)) : Nsl w w.heap.size a n c s := by
  rcases Nat.eq_zero_or_pos n with rfl | hn
  · have hl : s.length = 0 := by have := h.1; simpa [valsN] using this
    obtain ⟨_, ⟨e, _⟩ | ⟨g, cap, cur, e, _, _, h1, h2, _⟩⟩ := h
    · cases e
      exact ⟨hl, Nat.le_refl _, Nat.zero_le _, fun _ => rfl, fun h => absurd h (Nat.lt_irrefl _)⟩
    · cases e
      exact ⟨hl, h1, h2, fun e => (by cases e), fun h => absurd h (Nat.lt_irrefl _)⟩
  · obtain ⟨g, cap, e, _, _, h2⟩ := nsl_of_own h hn
    cases e
    exact h2
theorem brow_bls {w : World} {C B : Nat} {a : Option Addr} {c : Nat} {bl : List (List UInt8)} (h : BRowC w C B (.slice a bl.length c) bl) : Bls w w.heap.size a bl.length c bl := by
  obtain ⟨a', c', e, h'⟩ := h.bls
  cases e
  exact h'
theorem PoNew.ok {B L : Nat} {w : World} {y : PoA} {p : PoN} (h : PoNew B w y p) : PoOk L w y p := ⟨Lasts.less h.st (Nat.zero_le _), nsl_own h.own, brow_bls h.keys, brow_bls h.loaded⟩
theorem PoNew.bel {B : Nat} {w w' : World} {y : PoA} {p : PoN} (h : PoNew B w y p) (hb : Below w.heap.size w w') : PoNew B w' y p := ⟨Lasts.bel h.st hb, own_below h.own hb, h.keys.below hb, h.loaded.below hb, h.nil⟩
theorem setRow_only {g : Nat} (w : World) (cs : Array Value) : w.grownBy (w.setRow g cs) (some g) := ⟨rfl, rfl, rfl, by simp, fun k _ hk => setRow_other w g k _ (fun e => hk (by rw [e]))⟩
theorem wpList_store_pool {ops : Array Oper} {rest : List Oper} {o : Oper} {a : Act} {w : World} {Q : Exit → Act → World → Prop} (hgd : o.guard = none) (x y : Operand) (ho : o.op = .store 36 x y) (g : Nat) (X : PoA) (p : PoN) (hx : a.eval x = .pointer (some ⟨g, 0, none⟩)) (hy : a.eval y = poV X p) (old : Array Value) (hb : Blk w g 36 old) (hold : old.size = 19)
    (h : ∀ w', PBox w' g X p → w.grownBy w' (some g) → wpList Tryz.prog ops Q rest (a.put o.dst undef) w') : wpList Tryz.prog ops Q (o :: rest) a w :=
  wpList_store_row hgd 36 x y ho g (poC X p) hx hy 36 old hb infoPo (by rw [hold]; rfl) (by simp [poC, Value.oneCell']) (h _ hb.setRow (setRow_only w _))
/-- A pool by value, laid in a box of its own. -/
theorem new_pool (w : World) (x : PoA) (p : PoN) : ∃ V g, w.alloc (.cells (poC x p) 36) = V ∧ w.heap.size = g ∧ Below w.heap.size w V ∧ PBox V g x p := ⟨_, _, rfl, rfl, (Below.refl _ w).alloc (Nat.le_refl _) _, Blk.new w _ _⟩
end Go.Proofs.YtafbidhbmfdlkaaGreatDoor
/-
  Copies of lists of numbers and of lists of lists of bytes; txg's own twins.
-/
namespace Go.Proofs.YtafbidhbmfdlkaaGreatDoor
open Go.RowKit Go.Shelf
set_option maxRecDepth 100000

theorem own_empty_t (w : World) (t : TypeId) : (w.alloc (.cells #[] t)).ownsRow w.heap.size t 1 (.slice (some ⟨w.heap.size, 0, none⟩) 0 0) 0 [] :=
  ⟨rfl, .inr ⟨w.heap.size, 0, #[], rfl, Nat.le_refl _, heap_alloc_new w _, Nat.le_refl _, by unfold maxLen; omega, rfl, rfl⟩⟩
theorem txCloneI_any (a : Option Addr) (n c : Nat) (s : List Nat) (w : World) (h : Nsl w w.heap.size a n c s) (hn : n ≤ 50000) :
    Calls Tryz.prog 55 #[.slice a n c] w fun e w' => ∃ v, e = .returned v ∧ w'.ownsRow w.heap.size 3 1 v n (valsN s) ∧ Below w.heap.size w w' := by
  have q22 : ∀ (w : World) (a : Option Addr) (n c n' c' : Nat), (binOp .eql 32 (.slice a n c) (.slice none n' c')).run Tryz.prog w = .ok (.bool a.isNone) w := fun w a n c n' c' => Lib.run_eql_slice_nil w _ _ a n c n' c' Tryz.underlying32
  obtain ⟨h1, h2, h3, h4, h5⟩ := h
  cases a with
  | none =>
    have hc := h4 rfl
    have hl : n = 0 := by omega
    subst hl; subst hc
    obtain rfl : s = [] := List.eq_nil_of_length_eq_zero h1
    go_enter Tryz.func55, Tryz.ntmps55
    go_wp2_with fail
    go_ret
    exact ⟨_, rfl, World.ownsRow_nil _ _ _ _, Below.refl _ _⟩
  | some ad =>
    have hA : Nsl w w.heap.size (some ad) n c s := ⟨h1, h2, h3, h4, h5⟩
    have b1 : Below w.heap.size w (w.alloc (.cells #[] 3)) := (Below.refl _ w).alloc (Nat.le_refl _) _
    have HA1 := Lib.hid (hA.step b1); clear hA
    have HB1 := Lib.hid b1; clear b1
    have HO1 := Lib.hid (show (w.alloc (.cells #[] 3)).ownsRow w.heap.size 3 1 (.slice (some ⟨w.heap.size, 0, none⟩) 0 0) 0 (valsN []) from own_empty_t w _)
    clear h1 h2 h3 h4 h5
    go_enter Tryz.func55, Tryz.ntmps55
    go_wp2_with (at_builtin
                 refine wpList_append_nsl rfl (.tmp 5) (.tmp 6) rfl w.heap.size _ 0 _ rfl HO1.out _ (some ad) n c s rfl HA1.out (by omega) HB1.out.size ?_
                 intro v' W3 hown' hg'
                 have HB3 := Lib.hid (app_below HB1.out HO1.out hg' HB1.out.size); clear hg'
                 have HO3 := Lib.hid hown'; clear hown')
    go_ret
    refine ⟨_, rfl, ?_, HB3.out⟩
    have := HO3.out
    rwa [Nat.zero_add, List.nil_append] at this
/-- The slices of a list of lists, as values. -/
theorem Bls.values {w : World} {B n c : Nat} {a : Option Addr} {bl : List (List UInt8)} (h : Bls w B a n c bl) (hn : 0 < n) : ∃ (ad : Addr) (vs : List Value), a = some ad ∧ vs.length = n ∧ (∀ j u, vs[j]? = some u → w.cell? (ad.add j) = some u) ∧ (∀ u ∈ vs, u.oneCell' = true) ∧
    ∀ i, i < n → ∃ A cc, vs.getD i undef = .slice A (bl.getD i []).length cc ∧ Bsl w B A (bl.getD i []).length cc (bl.getD i []) := by
  obtain ⟨b, off, _, _, _, _, ea, _, _, _, _⟩ := h.at_ hn
  subst ea
  have hh : ∀ i, i < n → ∃ A m cc, w.cell? ⟨b, off + i, none⟩ = some (.slice A m cc) ∧ m = (bl.getD i []).length ∧ Bsl w B A m cc (bl.getD i []) := fun i hi => by
    obtain ⟨b', off', A, m, cc, s, e, _, hs, hc, hb⟩ := h.at_ hi
    cases e
    rw [hs]
    exact ⟨A, m, cc, hc, hb.1.symm, hb⟩
  have hadd : ∀ j, (⟨b, off, none⟩ : Addr).add j = ⟨b, off + j, none⟩ := fun j => by unfold Addr.add; split <;> simp_all
  have hvs : ∀ i, i < n → ((List.range n).map fun i => (w.cell? ⟨b, off + i, none⟩).getD undef)[i]? = w.cell? ⟨b, off + i, none⟩ := fun i hi => by
    obtain ⟨A, m, cc, hc, _⟩ := hh i hi
    rw [List.getElem?_map, List.getElem?_range hi]
    simp only [Option.map_some, hc, Option.getD_some]
  refine ⟨_, (List.range n).map fun i => (w.cell? ⟨b, off + i, none⟩).getD undef, rfl, by simp, fun j u hu => ?_, fun u hu => ?_, fun i hi => ?_⟩
  · have hj : j < n := by
      rcases Nat.lt_or_ge j n with h1 | h1
      · exact h1
      · rw [List.getElem?_eq_none (by simpa using h1)] at hu; cases hu
    rw [hadd, ← hvs j hj, hu]
  · obtain ⟨i, hi, rfl⟩ := List.mem_map.1 hu
    obtain ⟨A, m, cc, hc, _⟩ := hh i (List.mem_range.1 hi)
    rw [hc]
    rfl
  · obtain ⟨A, m, cc, hc, hm, hb⟩ := hh i hi
    subst hm
    refine ⟨A, cc, ?_, hb⟩
    rw [List.getD_eq_getElem?_getD, hvs i hi, hc]
    rfl
theorem txCloneB_any (a : Option Addr) (n c : Nat) (bl : List (List UInt8)) (w : World) (h : Bls w w.heap.size a n c bl) (hn : 0 < n) (h9 : n ≤ 50000) :
    Calls Tryz.prog 111 #[.slice a n c] w fun e w' => ∃ (g cap : Nat) (vs : List Value), e = .returned (.slice (some ⟨g, 0, none⟩) n cap) ∧ w'.ownsRow w.heap.size 26 1 (.slice (some ⟨g, 0, none⟩) n cap) n vs ∧ vs.length = n ∧
      (∀ i, i < n → ∃ A cc, vs.getD i undef = .slice A (bl.getD i []).length cc ∧ Bsl w w.heap.size A (bl.getD i []).length cc (bl.getD i [])) ∧ Below w.heap.size w w' := by
  have q22 : ∀ (w : World) (a : Option Addr) (n c n' c' : Nat), (binOp .eql 22 (.slice a n c) (.slice none n' c')).run Tryz.prog w = .ok (.bool a.isNone) w := fun w a n c n' c' => Lib.run_eql_slice_nil w _ _ a n c n' c' Tryz.underlying22
  have b1 : Below w.heap.size w (w.alloc (.cells #[] 26)) := (Below.refl _ w).alloc (Nat.le_refl _) _
  obtain ⟨ad, vs, rfl, hl, hcell, hone, hv⟩ := h.values hn
  have hcell1 : ∀ j u, vs[j]? = some u → (w.alloc (.cells #[] 26)).cell? (ad.add j) = some u := fun j u hu => by
    have h2 := hcell j u hu
    obtain ⟨b, off, _, _, _, _, ea, hb, _, _, _⟩ := h.at_ hn
    cases ea
    have hadd : (⟨b, off, none⟩ : Addr).add j = ⟨b, off + j, none⟩ := by unfold Addr.add; split <;> simp_all
    rw [hadd] at h2 ⊢
    exact (b1.cell (p := ⟨b, off + j, none⟩) hb).trans h2
  have HC := Lib.hid hcell1
  have HON := Lib.hid hone
  have HVS := Lib.hid hv
  have HLN := Lib.hid hl
  have HB1 := Lib.hid b1
  have HO1 := Lib.hid (own_empty_t w 26)
  clear h hl hcell hone hv b1 hcell1
  go_enter Tryz.func111, Tryz.ntmps111
  go_wp2_with (at_builtin
               obtain ⟨i0, hi, hz0, hz1, hz2⟩ := info_parts infoSlB
               refine wpList_append_own _ rfl (.tmp 5) (.tmp 6) 22 rfl w.heap.size 26 i0 (.slice none 0 0) 1 24 Tryz.underlying22 hi hz0 hz1 hz2 rfl (by decide) _ 0 [] rfl HO1.out ad n c vs rfl (by rw [HLN.out, Nat.mul_one]) HC.out HON.out (by unfold maxLen; omega) (by omega) HB1.out.size ?_
               intro v' W3 hown' hg' _
               have HB3 := Lib.hid (app_below HB1.out HO1.out hg' HB1.out.size); clear hg'
               have HO3 := Lib.hid hown'; clear hown')
  go_ret
  have h3 := HO3.out
  rw [Nat.zero_add, List.nil_append] at h3
  obtain ⟨_, ⟨rfl, h0⟩ | ⟨g, cap, cur, rfl, _⟩⟩ := id h3
  · omega
  · exact ⟨g, cap, vs, rfl, h3, HLN.out, HVS.out, HB3.out⟩
set_option maxHeartbeats 4000000 in
/-- What twins answers: lists of the call's own. -/
theorem txTwins_any (a : Option Addr) (n c : Nat) (bl : List (List UInt8)) (w : World) (h : Bls w w.heap.size a n c bl) (hn : 0 < n) (h9 : n ≤ 50000) (hb9 : ∀ s ∈ bl, s.length ≤ 1000000) :
    Calls Tryz.prog 58 #[.slice a n c] w fun e w' => ∃ v, e = .returned v ∧ BRowC w' 0 w.heap.size v bl ∧ Below w.heap.size w w' := by
  have HLN := Lib.hid h.1
  have HC := Lib.hid (txCloneB_any a n c bl w h hn h9)
  have n0 : (0 : Int) ≤ (n : Int) := by omega
  have n9 : (n : Int) ≤ 50000 := by omega
  have H9 := Lib.hid hb9
  have HNP := Lib.hid hn
  clear h h9 hb9
  go_enter Tryz.func58, Tryz.ntmps58
  go_wp2_with fail
  refine HC.out.mono ?_
  rintro e w1 ⟨g, cap, vs, rfl, hown, hvl, hv, b1⟩
  have HO := Lib.hid hown
  have HV := Lib.hid hv
  have HVL := Lib.hid hvl
  have HB := Lib.hid b1
  clear hown hv hvl b1
  go_wp2_with fail
  go_loopw [8] (fun i wr => ∃ (j : Nat) (us : List Value), j ≤ n ∧ i = .int .i64 j ∧ us.length = n ∧ wr.ownsRow w.heap.size 26 1 (.slice (some ⟨g, 0, none⟩) n cap) n us ∧
      (∀ i, i < j → ∃ A cc, us.getD i undef = .slice A (bl.getD i []).length cc ∧ BslO wr 0 A (bl.getD i []).length cc (bl.getD i [])) ∧ (∀ i, j ≤ i → i < n → us.getD i undef = vs.getD i undef) ∧ Below w.heap.size w wr) (fun i _ => n - (intOf i).toNat)
  case atStart => exact ⟨0, vs, Nat.zero_le _, rfl, HVL.out, HO.out, fun i hi => absurd hi (Nat.not_lt_zero _), fun _ _ _ => rfl, HB.out⟩
  case round =>
    obtain ⟨j, us, hj, rfl, hul, ho, hd, hr, hb⟩ := hrel
    have j0 : (0 : Int) ≤ j := by omega
    by_cases hlt : j < n
    · have j1 : (j : Int) < n := by omega
      obtain ⟨A, cc, hvj, hbs⟩ := HV.out j hlt
      have huj := hr j (Nat.le_refl _) hlt
      rw [hvj] at huj
      have hcj := ho.cellAt j (by omega)
      have hg3 : us[j]? = some (.slice A (bl.getD j []).length cc) := by
        rw [List.getD_eq_getElem?_getD, List.getElem?_eq_getElem (by omega)] at huj
        rw [List.getElem?_eq_getElem (by omega)]
        exact congrArg some huj
      rw [hg3] at hcj
      obtain ⟨s, hs⟩ : ∃ s, bl.getD j [] = s := ⟨_, rfl⟩
      have hsl : s.length ≤ 1000000 := by
        rw [← hs, List.getD_eq_getElem?_getD, List.getElem?_eq_getElem (by rw [HLN.out]; exact hlt)]
        exact H9.out _ (List.getElem_mem _)
      rw [hs] at hcj hbs
      have HCL := Lib.hid (dClone_any w.heap.size A s.length cc s wr hb.size (hbs.below hb) (by omega))
      have hgb : w.heap.size ≤ g ∧ ∃ t cs, Blk wr g t cs ∧ t ≠ 5 := by
        obtain ⟨_, ⟨e, _⟩ | ⟨g', cap', cur, e, q3, q4, _⟩⟩ := ho
        · cases e
        · cases e
          exact ⟨q3, _, _, q4, by decide⟩
      have HGB := Lib.hid hgb
      have HO1 := Lib.hid ho
      have HD := Lib.hid hd
      have HR := Lib.hid hr
      have HB1 := Lib.hid hb
      have HS := Lib.hid hs
      have HUL := Lib.hid hul
      clear hvj hbs huj hg3 hs hgb ho hd hr hb hul hsl
      go_wp2_with fail
      refine HCL.out.mono ?_
      rintro e w2 ⟨v, rfl, ho2, b2⟩
      obtain ⟨A2, c2, rfl⟩ := own_slice ho2
      have ho3 := own_below HO1.out b2
      have hst := ho3.stored j (.slice A2 s.length c2)
      have hfz := fun i => ho3.frozenAt i
      have hc2 := ho3.cellAt j (by omega)
      have hb2 := HB1.out.trans (b2.mono HB1.out.size)
      obtain ⟨t, cs, hbk, hbt⟩ := HGB.out.2
      have hbk2 := hbk.below b2 hbk.lt
      have hb4 := hb2.setCell (p := ⟨g, j, none⟩) HGB.out.1 (.slice A2 s.length c2)
      have HB4 := Lib.hid hb4
      have HO4 := Lib.hid hst.1
      have hmv : ∀ {A c s}, BslO w2 0 A s.length c s → BslO (w2.setCell ⟨g, j, none⟩ (.slice A2 (bl.getD j []).length c2)) 0 A s.length c s := fun hh => hh.row (row := some g) (by rw [HS.out]; exact hst.2) (fun k e => by
        cases e
        exact ⟨Nat.zero_le _, t, cs, hbk2, hbt⟩)
      rw [HS.out] at hmv
      have HD4 := Lib.hid (fun i (hi : i < j + 1) => show ∃ A cc, (us.set j (.slice A2 s.length c2)).getD i undef = .slice A (bl.getD i []).length cc ∧ BslO (w2.setCell ⟨g, j, none⟩ (.slice A2 s.length c2)) 0 A (bl.getD i []).length cc (bl.getD i []) by
        by_cases e : i = j
        · subst e
          rw [HS.out]
          refine ⟨A2, c2, ?_, hmv (BslO.own ho2 0)⟩
          rw [List.getD_eq_getElem?_getD, List.getElem?_set_self (by have := HUL.out; omega)]
          rfl
        · obtain ⟨A', c', e1, e2⟩ := HD.out i (by omega)
          refine ⟨A', c', ?_, hmv (e2.below b2)⟩
          rw [List.getD_eq_getElem?_getD, List.getElem?_set_ne (fun h => e h.symm), ← List.getD_eq_getElem?_getD]
          exact e1)
      have HR4 := Lib.hid (fun i (h1 : j + 1 ≤ i) (h2 : i < n) => show (us.set j (.slice A2 s.length c2)).getD i undef = vs.getD i undef by
        rw [List.getD_eq_getElem?_getD, List.getElem?_set_ne (by omega), ← List.getD_eq_getElem?_getD]
        exact HR.out i (by omega) h2)
      have hcx : w2.cell? ⟨g, j, none⟩ = some (.slice A s.length cc) := by
        rw [hc2]
        have h1 := HO1.out.cellAt j (by omega)
        rw [← h1]
        exact hcj
      obtain ⟨w3, hw3⟩ : ∃ X, w2.setCell ⟨g, j, none⟩ (.slice A2 s.length c2) = X := ⟨_, rfl⟩
      rw [hw3] at HB4 HO4 HD4
      clear hst hb4 hmv hb2 hbk hbk2 hbt ho2 ho3 b2 hc2 hcj
      go_wp2_with fail
      go_roundw
      case rel => exact ⟨j + 1, us.set j (.slice A2 s.length c2), by omega, by go_num, by rw [List.length_set]; exact HUL.out, HO4.out, HD4.out, HR4.out, HB4.out⟩
      case measure => simp [intOf]; omega
    · obtain rfl : j = n := by omega
      have HO1 := Lib.hid ho
      have HD := Lib.hid hd
      have HB1 := Lib.hid hb
      clear ho hd hb hr hlt hj hul
      go_wp2_with fail
      go_ret
      exact ⟨_, rfl, ⟨us, by rw [HLN.out]; exact HO1.out, fun i hi => HD.out i (by rw [← HLN.out]; exact hi)⟩, HB1.out⟩
end Go.Proofs.YtafbidhbmfdlkaaGreatDoor
/-
  txg's own Twin, of pools without lines and changes.
-/
namespace Go.Proofs.YtafbidhbmfdlkaaGreatDoor
open Go.RowKit Go.Shelf
set_option maxRecDepth 100000

theorem txCloneL_nil (w : World) : Calls Tryz.prog 56 #[.slice none 0 0] w fun e w' => e = .returned (.slice none 0 0) ∧ w = w' := by
  have q22 : ∀ (w : World) (a : Option Addr) (n c n' c' : Nat), (binOp .eql 33 (.slice a n c) (.slice none n' c')).run Tryz.prog w = .ok (.bool a.isNone) w := fun w a n c n' c' => Lib.run_eql_slice_nil w _ _ a n c n' c' Tryz.underlying33
  go_enter Tryz.func56, Tryz.ntmps56
  go_wp2_with fail
  go_ret
  exact ⟨rfl, rfl⟩
theorem txCloneC_nil (w : World) : Calls Tryz.prog 59 #[.slice none 0 0] w fun e w' => e = .returned (.slice none 0 0) ∧ w = w' := by
  have q22 : ∀ (w : World) (a : Option Addr) (n c n' c' : Nat), (binOp .eql 34 (.slice a n c) (.slice none n' c')).run Tryz.prog w = .ok (.bool a.isNone) w := fun w a n c n' c' => Lib.run_eql_slice_nil w _ _ a n c n' c' Tryz.underlying34
  go_enter Tryz.func59, Tryz.ntmps59
  go_wp2_with fail
  go_ret
  exact ⟨rfl, rfl⟩
theorem brow_lower {w : World} {C B B' : Nat} {v : Value} {bl : List (List UInt8)} (h : BRowC w C B v bl) (hB : B' ≤ B) : BRowC w C B' v bl := by
  obtain ⟨xs, h1, h2⟩ := h
  exact ⟨xs, own_mono h1 hB, h2⟩
/-- What Twin answers: the same pool, in memory of the call's own. -/
def NewPo (p : PoN) (w : World) (e : Ending) (w' : World) : Prop := ∃ y, e = .returned (poV y p) ∧ PoNew w.heap.size w' y p ∧ Below w.heap.size w w'
/-- How many a pool's lists hold, at most. -/
def FitN (p : PoN) : Prop := 0 < p.keys.length ∧ 0 < p.loaded.length ∧ True ∧ p.own.length ≤ 50000 ∧ p.keys.length ≤ 50000 ∧ p.loaded.length ≤ 50000 ∧ (∀ s ∈ p.keys, s.length ≤ 1000000) ∧ ∀ s ∈ p.loaded, s.length ≤ 1000000
set_option maxHeartbeats 8000000 in
theorem txTwin_any (L : Nat) (x : PoA) (p : PoN) (w : World) (hp : PoOk L w x p) (ho : OkS p.S) (hL : L ≤ w.heap.size) (h8 : FitN p) (hnil : x.la = none ∧ x.lc = 0 ∧ x.ca = none ∧ x.cc = 0) : Calls Tryz.prog 32 #[poV x p] w (NewPo p w) := by
  have hmx : Tryz.prog.follows Departure.mixedOrders = true := by kernel_rfl
  obtain ⟨w0, hw0, b0, z0, q0, q1⟩ := two_al w (poC x p) poZ 36 36
  obtain ⟨g, hg⟩ : ∃ g, w.heap.size = g := ⟨_, rfl⟩
  obtain ⟨gr, hgr⟩ : ∃ gr, g + 1 = gr := ⟨_, rfl⟩
  rw [hg] at q0 q1
  rw [hgr] at q1
  have HX := Lib.hid (show PBox w0 g x p from q0)
  have HR := Lib.hid q1
  have HB := Lib.hid b0
  have HNE := Lib.hid (show gr ≠ g by omega)
  have HGE := Lib.hid (show w.heap.size ≤ g by omega)
  have HGR := Lib.hid (show w.heap.size ≤ gr by omega)
  have HGW := Lib.hid hg
  have HP := Lib.hid hp
  have HOS := Lib.hid ho
  have HLW := Lib.hid hL
  have HK8 := Lib.hid h8
  obtain ⟨n1, n2, n3, n4⟩ := hnil
  have HLA := Lib.hid n1
  have HLC := Lib.hid n2
  have HCA := Lib.hid n3
  have HCC := Lib.hid n4
  simp only [poC, poZ] at hw0
  clear hp ho hL h8 b0 z0 q0 q1 n1 n2 n3 n4
  have c0 := HX.out.c0
  have c1 := HX.out.c1
  have c2 := HX.out.c2
  have c3 := HX.out.c3
  have c4 := HX.out.c4
  have hfz := fun i => HX.out.frozen i
  have HST := Lib.hid (stTwin_any L x.x p.S w0 (HP.out.step HB.out).st HOS.out (Nat.le_trans HLW.out HB.out.size))
  go_enter Tryz.func32, Tryz.ntmps32
  go_wp2_with fail
  try rw [hw0]
  try rw [hg]
  try rw [hgr]
  clear hw0 hgr
  clear c0 c1 c2 c3 c4 hfz
  refine HST.out.mono ?_
  rintro e w1 ⟨y, rfl, hst, _, b1⟩
  have HS := Lib.hid hst
  replace HX := Lib.hid (HX.out.bel b1)
  replace HR := Lib.hid (HR.out.below b1 HR.out.lt)
  replace HB := Lib.hid (HB.out.trans (b1.mono HB.out.size))
  clear hst b1 HST
  have c0 := HX.out.c0
  have c1 := HX.out.c1
  have c2 := HX.out.c2
  have c3 := HX.out.c3
  have c4 := HX.out.c4
  have hfz := fun i => HX.out.frozen i
  have hxn := HX.out.setSt y
  have hgn := only_set5 (World.grownBy.refl w1 (some g)) (.slice y.d.ba p.S.1.1.length y.d.bc) (.slice y.d.wa p.S.1.2.length y.d.wc) (.slice y.a p.S.2.1.length y.c) (.int .u32 (p.S.2.2.1 : Int)) (.int .u32 (p.S.2.2.2 : Int))
  obtain ⟨w2, hnv⟩ : ∃ X, set5 w1 g (.slice y.d.ba p.S.1.1.length y.d.bc) (.slice y.d.wa p.S.1.2.length y.d.wc) (.slice y.a p.S.2.1.length y.c) (.int .u32 (p.S.2.2.1 : Int)) (.int .u32 (p.S.2.2.2 : Int)) = X := ⟨_, rfl⟩
  rw [hnv] at hxn hgn
  simp only [set5] at hnv
  have hkp := HX.out.keeps hgn
  replace HR := Lib.hid (HR.out.grown hgn (fun e => HNE.out (Option.some.inj e)))
  replace HB := Lib.hid (below_only HB.out HGE.out hgn HB.out.size)
  replace HS := Lib.hid (HS.out.step hkp)
  replace HX := Lib.hid hxn
  clear hkp hgn
  clear hxn
  have d11 := HX.out.c11
  have HCI := Lib.hid (txCloneI_any x.ma p.own.length x.mc p.own w2 (HP.out.step HB.out).own HK8.out.2.2.2.1)
  go_wp2_with fail
  clear c0 c1 c2 c3 c4 hfz
  clear d11 hnv
  refine HCI.out.mono ?_
  rintro e w3 ⟨v, rfl, hov, b3⟩
  obtain ⟨ma, mc, rfl⟩ := nums_slice hov
  have HM := Lib.hid (own_mono hov HB.out.size)
  replace HX := Lib.hid (HX.out.bel b3)
  replace HR := Lib.hid (HR.out.below b3 HR.out.lt)
  replace HB := Lib.hid (HB.out.trans (b3.mono HB.out.size))
  replace HS := Lib.hid (HS.out.bel b3)
  clear hov b3 HCI
  have c11 := HX.out.c11
  have hfz := fun i => HX.out.frozen i
  have hxn := HX.out.setMa ma mc
  have hgn := Wk.stay (g := g) w3 11 (.slice ma p.own.length mc)
  obtain ⟨w4, hnv⟩ : ∃ X, w3.setCell ⟨g, 11, none⟩ (.slice ma p.own.length mc) = X := ⟨_, rfl⟩
  rw [hnv] at hxn hgn
  have hkp := HX.out.keeps hgn
  replace HR := Lib.hid (HR.out.grown hgn (fun e => HNE.out (Option.some.inj e)))
  replace HB := Lib.hid (below_only HB.out HGE.out hgn HB.out.size)
  replace HS := Lib.hid (HS.out.step hkp)
  replace HM := Lib.hid (own_other HM.out hgn (own_ty HM.out HX.out (by decide)))
  replace HX := Lib.hid hxn
  clear hkp hgn
  clear hxn
  have d12 := HX.out.c12
  rw [HLA.out, HLC.out] at d12
  have HCL := Lib.hid (txCloneL_nil w4)
  go_wp2_with fail
  clear c11 hfz
  clear hnv d12
  refine HCL.out.mono ?_
  rintro e w5 ⟨rfl, rfl⟩
  have c12 := HX.out.c12
  have hfz := fun i => HX.out.frozen i
  rw [HLA.out, HLC.out] at c12
  have hxn := HX.out.setLa none 0
  have hgn := Wk.stay (g := g) w4 12 (.slice none 0 0)
  obtain ⟨w5, hnv⟩ : ∃ X, w4.setCell ⟨g, 12, none⟩ (.slice none 0 0) = X := ⟨_, rfl⟩
  rw [hnv] at hxn hgn
  have hkp := HX.out.keeps hgn
  replace HR := Lib.hid (HR.out.grown hgn (fun e => HNE.out (Option.some.inj e)))
  replace HB := Lib.hid (below_only HB.out HGE.out hgn HB.out.size)
  replace HS := Lib.hid (HS.out.step hkp)
  replace HM := Lib.hid (own_other HM.out hgn (own_ty HM.out HX.out (by decide)))
  replace HX := Lib.hid hxn
  clear hkp hgn
  clear hxn
  have d12 := HX.out.c12
  go_wp2_with fail
  clear c12 hfz
  clear hnv d12
  go_loopw [20] (fun i wr => i = .int .i64 0 ∧ w5 = wr) (fun _ _ => 0)
  case atStart => exact ⟨rfl, rfl⟩
  case round =>
    obtain ⟨rfl, rfl⟩ := hrel
    go_wp2_with fail
    obtain ⟨wd, hwd⟩ : ∃ wd, w5.drew = wd := ⟨_, rfl⟩
    have bq : Below w5.heap.size w5 wd := by rw [← hwd]; exact (Below.refl _ w5).drew
    replace HX := Lib.hid (HX.out.bel bq)
    replace HR := Lib.hid (HR.out.below bq HR.out.lt)
    replace HB := Lib.hid (HB.out.trans (bq.mono HB.out.size))
    replace HS := Lib.hid (HS.out.bel bq)
    replace HM := Lib.hid (own_below HM.out bq)
    have hcs : wd.cell? ⟨g, 13, none⟩ = some (.slice x.ka p.keys.length x.kc) ∧ wd.cell? ⟨g, 14, none⟩ = some (.slice x.da p.loaded.length x.dc) := ⟨HX.out.c13, HX.out.c14⟩
    refine wpJ_start (fun X => X.cell? ⟨g, 13, none⟩ = some (.slice x.ka p.keys.length x.kc) ∧ X.cell? ⟨g, 14, none⟩ = some (.slice x.da p.loaded.length x.dc)) [0, 1, 3, 4, 2, 6, 5, 7, 8, 9] hmx rfl hwd ?_
    clear hwd bq
    iterate 4 (
      refine wpJ_read (v := ?_) hcs rfl (by kernel_rfl) (by kernel_rfl) (by kernel_rfl) (fun _ _ _ h => h) (.inl ⟨by rfl, ?_⟩) ?_
      rotate_left
      · intro X hX
        obtain ⟨j0, j1⟩ := hX
        go_simp
        with_reducible rfl
      try simp only [Act.put, List.setIfInBounds_toArray, List.set_cons_zero, List.set_cons_succ])
    have HTW := Lib.hid (txTwins_any x.ka p.keys.length x.kc p.keys wd (HP.out.step HB.out).keys HK8.out.1 HK8.out.2.2.2.2.1 HK8.out.2.2.2.2.2.2.1)
    refine wpJ_lone rfl (by kernel_rfl) (fun K hK => ?_)
    go_simp
    refine HTW.out.mono ?_
    rintro ev w6 ⟨v, rfl, hbr, bq⟩
    obtain ⟨ka, kc, hve, _⟩ := hbr.bls
    subst hve
    have HK := Lib.hid (brow_lower hbr HB.out.size)
    replace HX := Lib.hid (HX.out.bel bq)
    replace HR := Lib.hid (HR.out.below bq HR.out.lt)
    replace HB := Lib.hid (HB.out.trans (bq.mono HB.out.size))
    replace HS := Lib.hid (HS.out.bel bq)
    replace HM := Lib.hid (own_below HM.out bq)
    have hcs6 : w6.cell? ⟨g, 13, none⟩ = some (.slice x.ka p.keys.length x.kc) ∧ w6.cell? ⟨g, 14, none⟩ = some (.slice x.da p.loaded.length x.dc) := ⟨HX.out.c13, HX.out.c14⟩
    refine hK _ _ hcs6 ?_
    clear hK K hbr bq HTW hcs
    try simp only [Act.put, List.setIfInBounds_toArray, List.set_cons_zero, List.set_cons_succ]
    iterate 1 (
      refine wpJ_read (v := ?_) hcs6 rfl (by kernel_rfl) (by kernel_rfl) (by kernel_rfl) (fun _ _ _ h => h) (.inl ⟨by rfl, ?_⟩) ?_
      rotate_left
      · intro X hX
        obtain ⟨j0, j1⟩ := hX
        go_simp
        with_reducible rfl
      try simp only [Act.put, List.setIfInBounds_toArray, List.set_cons_zero, List.set_cons_succ])
    have HTW := Lib.hid (txTwins_any x.da p.loaded.length x.dc p.loaded w6 (HP.out.step HB.out).loaded HK8.out.2.1 HK8.out.2.2.2.2.2.1 HK8.out.2.2.2.2.2.2.2)
    refine wpJ_lone rfl (by kernel_rfl) (fun K hK => ?_)
    go_simp
    refine HTW.out.mono ?_
    rintro ev w7 ⟨v, rfl, hbr, bq⟩
    obtain ⟨da, dc, hve, _⟩ := hbr.bls
    subst hve
    have HD := Lib.hid (brow_lower hbr HB.out.size)
    replace HX := Lib.hid (HX.out.bel bq)
    replace HR := Lib.hid (HR.out.below bq HR.out.lt)
    replace HB := Lib.hid (HB.out.trans (bq.mono HB.out.size))
    replace HS := Lib.hid (HS.out.bel bq)
    replace HM := Lib.hid (own_below HM.out bq)
    replace HK := Lib.hid (HK.out.below bq)
    have hcs7 : w7.cell? ⟨g, 13, none⟩ = some (.slice x.ka p.keys.length x.kc) ∧ w7.cell? ⟨g, 14, none⟩ = some (.slice x.da p.loaded.length x.dc) := ⟨HX.out.c13, HX.out.c14⟩
    refine hK _ _ hcs7 ?_
    clear hK K hbr bq HTW hcs6
    try simp only [Act.put, List.setIfInBounds_toArray, List.set_cons_zero, List.set_cons_succ]
    have c13 := HX.out.c13
    have hfz := fun i => HX.out.frozen i
    have hxn := HX.out.setKa ka kc
    have hgn := Wk.stay (g := g) w7 13 (.slice ka p.keys.length kc)
    obtain ⟨w8, hnv⟩ : ∃ X, w7.setCell ⟨g, 13, none⟩ (.slice ka p.keys.length kc) = X := ⟨_, rfl⟩
    rw [hnv] at hxn hgn
    have hkp := HX.out.keeps hgn
    replace HR := Lib.hid (HR.out.grown hgn (fun e => HNE.out (Option.some.inj e)))
    replace HB := Lib.hid (below_only HB.out HGE.out hgn HB.out.size)
    replace HS := Lib.hid (HS.out.step hkp)
    replace HM := Lib.hid (own_other HM.out hgn (own_ty HM.out HX.out (by decide)))
    replace HK := Lib.hid (brow_keeps HK.out hkp.to3)
    replace HD := Lib.hid (brow_keeps HD.out hkp.to3)
    replace HX := Lib.hid hxn
    clear hkp hgn
    refine wpJ_last rfl (by kernel_rfl) (by kernel_rfl) (fun K hK => ?_)
    go_simp
    try rw [hnv]
    refine hK _ _ ?_
    clear hK K hnv hxn c13 hfz
    try simp only [Act.put, List.setIfInBounds_toArray, List.set_cons_zero, List.set_cons_succ]
    refine wpJ_last rfl (by kernel_rfl) (by kernel_rfl) (fun K hK => ?_)
    go_simp
    refine hK _ _ ?_
    clear hK K
    try simp only [Act.put, List.setIfInBounds_toArray, List.set_cons_zero, List.set_cons_succ]
    have c14 := HX.out.c14
    have hfz := fun i => HX.out.frozen i
    have hxn := HX.out.setDa da dc
    have hgn := Wk.stay (g := g) w8 14 (.slice da p.loaded.length dc)
    obtain ⟨w9, hnv⟩ : ∃ X, w8.setCell ⟨g, 14, none⟩ (.slice da p.loaded.length dc) = X := ⟨_, rfl⟩
    rw [hnv] at hxn hgn
    have hkp := HX.out.keeps hgn
    replace HR := Lib.hid (HR.out.grown hgn (fun e => HNE.out (Option.some.inj e)))
    replace HB := Lib.hid (below_only HB.out HGE.out hgn HB.out.size)
    replace HS := Lib.hid (HS.out.step hkp)
    replace HM := Lib.hid (own_other HM.out hgn (own_ty HM.out HX.out (by decide)))
    replace HK := Lib.hid (brow_keeps HK.out hkp.to3)
    replace HD := Lib.hid (brow_keeps HD.out hkp.to3)
    replace HX := Lib.hid hxn
    clear hkp hgn
    refine wpJ_last rfl (by kernel_rfl) (by kernel_rfl) (fun K hK => ?_)
    go_simp
    try rw [hnv]
    refine hK _ _ ?_
    clear hK K hnv hxn c14 hfz
    try simp only [Act.put, List.setIfInBounds_toArray, List.set_cons_zero, List.set_cons_succ]
    refine wpJ_done (by kernel_rfl) ?_
    have d15 := HX.out.c15
    rw [HCA.out, HCC.out] at d15
    have HCL := Lib.hid (txCloneC_nil w9)
    go_wp2_with fail
    clear d15
    refine HCL.out.mono ?_
    rintro e wa ⟨rfl, rfl⟩
    have c15 := HX.out.c15
    have hfz := fun i => HX.out.frozen i
    rw [HCA.out, HCC.out] at c15
    have hxn := HX.out.setCa none 0
    have hgn := Wk.stay (g := g) w9 15 (.slice none 0 0)
    obtain ⟨wb, hnv⟩ : ∃ X, w9.setCell ⟨g, 15, none⟩ (.slice none 0 0) = X := ⟨_, rfl⟩
    rw [hnv] at hxn hgn
    have hkp := HX.out.keeps hgn
    replace HR := Lib.hid (HR.out.grown hgn (fun e => HNE.out (Option.some.inj e)))
    replace HB := Lib.hid (below_only HB.out HGE.out hgn HB.out.size)
    replace HS := Lib.hid (HS.out.step hkp)
    replace HM := Lib.hid (own_other HM.out hgn (own_ty HM.out HX.out (by decide)))
    replace HK := Lib.hid (brow_keeps HK.out hkp.to3)
    replace HD := Lib.hid (brow_keeps HD.out hkp.to3)
    replace HX := Lib.hid hxn
    clear hkp hgn
    clear hxn
    have d15 := HX.out.c15
    go_wp2_with fail
    clear c15 hfz
    clear hnv d15
    go_loopw [51] (fun i wr => i = .int .i64 0 ∧ wb = wr) (fun _ _ => 0)
    case atStart => exact ⟨rfl, rfl⟩
    case round =>
      obtain ⟨rfl, rfl⟩ := hrel
      go_wp2_with (first
        | (with_reducible refine tx_at_load ?_
           refine wpList_load_pool rfl (.tmp 1) rfl g _ p rfl HX.out ?_)
        | (with_reducible refine tx_at_store ?_
           refine wpList_store_pool rfl (.tmp 2) (.tmp 67) rfl gr { x with x := y, ma := ma, mc := mc, la := none, lc := 0, ka := ka, kc := kc, da := da, dc := dc, ca := none, cc := 0 } p rfl rfl poZ HR.out rfl ?_
           intro wz hrr_ hgz_
           have HRR := Lib.hid hrr_
           have HGZ := Lib.hid hgz_
           clear hrr_ hgz_))
      have hgz := HGZ.out
      have hrr := HRR.out
      have hkp : Keeps 0 wb wz := Keeps.of_box hgz HR.out (by decide) (Nat.zero_le _)
      refine bodyPost_ret (results_cell_row rfl _ _ gr 36 (poC { x with x := y, ma := ma, mc := mc, la := none, lc := 0, ka := ka, kc := kc, da := da, dc := dc, ca := none, cc := 0 } p) (0, 0) _ rfl hrr Tryz.underlying36 rfl infoPo) rfl ?_
      exact ⟨_, rfl, ⟨HS.out.step hkp, own_other HM.out hgz (own_ty HM.out HR.out (by decide)), brow_keeps HK.out hkp.to3, brow_keeps HD.out hkp.to3, ⟨rfl, rfl, rfl, rfl⟩⟩, below_only HB.out HGR.out hgz HB.out.size⟩
end Go.Proofs.YtafbidhbmfdlkaaGreatDoor
