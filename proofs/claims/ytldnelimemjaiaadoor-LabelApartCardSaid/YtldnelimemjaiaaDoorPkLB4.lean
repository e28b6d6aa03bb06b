/-
  Texts of one seat, one behind the other.
-/
import Derived.Test.YtldnelimemjaiaaDoorPkLB3
/-
  The document's own Twin for layer 9.
-/
namespace Go.Proofs.YtldnelimemjaiaaDoor
open Go.RowKit Go.Shelf
set_option maxRecDepth 100000

/-- What Twin answers. -/
def TwinPost (D : DkL) (w : World) (e : Ending) (w' : World) : Prop := ∃ x', e = .returned (dval x' D) ∧ Tw w' w.heap.size x' D ∧ Below w.heap.size w w'
end Go.Proofs.YtldnelimemjaiaaDoor
/-
  The document's own New for layer 9: a new disk is 256 blocks of noughts.
-/
namespace Go.Proofs.YtldnelimemjaiaaDoor
open Go.RowKit Go.Shelf
set_option maxRecDepth 100000

/-- A disk is answered. -/
def DskPost (D : DkL) (w : World) (e : Ending) (w' : World) : Prop := ∃ x', e = .returned (dval x' D) ∧ DskT w' x' D ∧ Below w.heap.size w w'
theorem TwinPost.dsk {D : DkL} {w w' : World} {e : Ending} (h : TwinPost D w e w') : DskPost D w e w' := by
  obtain ⟨x', h1, h2, h3⟩ := h
  exact ⟨x', h1, h2.dskT, h3⟩
/-- Rows whose first k are blocks of noughts. -/
def NewI (hb : Nat) (Z : List UInt8) (k : Nat) (w : World) : Prop :=
  ∃ cb, Blk w hb 44 cb ∧ cb.size = 256 ∧ ∀ i, i < k → ∃ g, cb[i]? = some (.slice (some ⟨g, 0, none⟩) 256 256) ∧ Blk w g 5 (ar Z)
theorem NewI.next {hb k : Nat} {Z : List UInt8} {w : World} (h : NewI hb Z k w) (hk : k < 256) : NewI hb Z (k + 1) ((w.alloc (.cells (ar Z) 5)).setCell ⟨hb, k, none⟩ (.slice (some ⟨w.heap.size, 0, none⟩) 256 256)) := by
  obtain ⟨cb, h1, h2, h3⟩ := h
  have x1 := h1.alloc (.cells (ar Z) 5)
  have xn := Blk.new w 5 (ar Z)
  have hne : ∀ {g : Nat} {cs : Array Value}, Blk (w.alloc (.cells (ar Z) 5)) g 5 cs → g ≠ hb := fun hg => hg.ne x1 (by decide)
  refine ⟨_, x1.set_ k _, by simpa using h2, fun i hi => ?_⟩
  rw [Array.getElem?_setIfInBounds]
  by_cases e : k = i
  · subst e
    rw [if_pos rfl, if_pos (by omega)]
    exact ⟨_, rfl, xn.far (by simpa using hne xn) _⟩
  · rw [if_neg e]
    obtain ⟨g, h4, h5⟩ := h3 i (by omega)
    have h6 := h5.alloc (.cells (ar Z) 5)
    exact ⟨g, h4, h6.far (by simpa using hne h6) _⟩
theorem NewI.far {hb k g : Nat} {Z : List UInt8} {w : World} {cs : Array Value} (h : NewI hb Z k w) (hg : Blk w g 30 cs) (u v : Value) : NewI hb Z k ((w.setCell ⟨g, 0, none⟩ u).setCell ⟨g, 1, none⟩ v) := by
  obtain ⟨cb, h1, h2, h3⟩ := h
  have hn1 : hb ≠ g := h1.ne hg (by decide)
  refine ⟨cb, (h1.far (p := ⟨g, 0, none⟩) hn1 u).far (p := ⟨g, 1, none⟩) hn1 v, h2, fun i hi => ?_⟩
  obtain ⟨g', h4, h5⟩ := h3 i hi
  have hn2 : g' ≠ g := h5.ne hg (by decide)
  exact ⟨g', h4, (h5.far (p := ⟨g, 0, none⟩) hn2 u).far (p := ⟨g, 1, none⟩) hn2 v⟩
theorem NewI.dsk {hb : Nat} {Z : List UInt8} {w : World} (h : NewI hb Z 256 w) (hZ : List.replicate 256 0 = Z) : Dsk w w.heap.size ⟨some ⟨hb, 0, none⟩, 256, none, 0⟩ newD := by
  obtain ⟨cb, y1, h2, h3⟩ := h
  refine ⟨⟨newD_len, by rw [newD_len]; exact Nat.le_refl _, (show 256 ≤ maxLen by unfold maxLen; omega), fun _ => ⟨hb, 0, rfl, y1.lt, fun i hi => ?_⟩⟩, wts_nil _ _⟩
  rw [newD_len] at hi
  obtain ⟨g, h4, y2⟩ := h3 i hi
  have e : newD.1.getD i [] = Z := by rw [newD_get hi]; exact hZ
  have el : Z.length = 256 := by rw [← hZ]; exact List.length_replicate ..
  rw [e, el]
  refine ⟨some ⟨g, 0, none⟩, 256, ?_, el, Nat.le_refl _, by unfold maxLen; omega, fun e => (by cases e), fun _ => ⟨g, 0, rfl, y2.lt, fun i hi => ?_⟩⟩
  · rw [Nat.zero_add, y1.cell, h4]
  · rw [Nat.zero_add, y2.cell, ar_get Z i hi]
end Go.Proofs.YtldnelimemjaiaaDoor
/-
  The document's own answers for layer 9: which disks may be, which are great.
-/
namespace Go.Proofs.YtldnelimemjaiaaDoor
open Go.RowKit Go.Shelf
set_option maxRecDepth 100000

/-- So many odd ones among the first k; none just if all are as they should be. -/
def OddN (o k : Nat) (P : Nat → Prop) : Prop := o ≤ k ∧ (o = 0 ↔ ∀ i, i < k → P i)
theorem odd_zero (P : Nat → Prop) : OddN 0 0 P := ⟨Nat.le_refl _, ⟨fun _ _ h => absurd h (Nat.not_lt_zero _), fun _ => rfl⟩⟩
theorem OddN.good {o k : Nat} {P : Nat → Prop} (h : OddN o k P) (hp : P k) : OddN o (k + 1) P := by
  refine ⟨Nat.le_succ_of_le h.1, fun h0 i hi => ?_, fun ha => h.2.2 fun i hi => ha i (by omega)⟩
  rcases Nat.lt_or_ge i k with h1 | h1
  · exact h.2.1 h0 i h1
  · obtain rfl : i = k := by omega
    exact hp
theorem OddN.odd {o k : Nat} {P : Nat → Prop} (h : OddN o k P) (hp : ¬ P k) : OddN (o + 1) (k + 1) P := by
  refine ⟨Nat.succ_le_succ h.1, fun h0 => absurd h0 (Nat.succ_ne_zero _), fun ha => absurd (ha k (Nat.lt_succ_self _)) hp⟩
/-- The two counts and the two lengths tell whether a disk may be. -/
theorem may_iff {D : DkL} {o1 o2 k1 k2 : Nat} (h1 : OddN o1 k1 (fun i => (D.1.getD i []).length = 256)) (h2 : OddN o2 k2 (fun i => (0 ≤ (wr_ D.2 i).1 ∧ (wr_ D.2 i).1 < 256) ∧ (wr_ D.2 i).2.length = 256)) (e1 : k1 = D.1.length ∨ (k1 = 257 ∧ 257 < D.1.length)) (e2 : k2 = D.2.length ∨ (k2 = 4097 ∧ 4097 < D.2.length)) :
    (o1 + o2 = 0 ∧ D.1.length = 256 ∧ D.2.length ≤ 4096) ↔ MayD D := by
  constructor
  · rintro ⟨ho, hn, hm⟩
    have k1e : k1 = 256 := by omega
    have k2e : k2 = D.2.length := by omega
    subst k1e
    subst k2e
    exact ⟨⟨hn, h1.2.1 (by omega)⟩, hm, h2.2.1 (by omega)⟩
  · rintro ⟨⟨hn, h3⟩, hm, h4⟩
    have k1e : k1 = 256 := by omega
    have k2e : k2 = D.2.length := by omega
    subst k1e
    subst k2e
    have a1 := h1.2.2 h3
    have a2 := h2.2.2 h4
    exact ⟨by omega, hn, hm⟩
end Go.Proofs.YtldnelimemjaiaaDoor
/-
  The document's own ask, last, left, Seen for layer 9.
-/
namespace Go.Proofs.YtldnelimemjaiaaDoor
open Go.RowKit Go.Shelf
set_option maxRecDepth 100000

def askO (D : DkL) (b : Bool) : Int := if MayD D then (if b = true then 0 else 2) else 8
/-- Which writes count: all, where there are no marks. -/
def markF (ks : List Bool) (i : Nat) : Bool := ks.length == 0 || ks.getD i false
/-- The place of a block's last write; -1: there is none. -/
def lastN (ws : WrL) (mk : Nat → Bool) (p : Int) : Int := match lastTo ws mk p ws.length with
  | some i => (i : Nat)
  | none => -1
/-- A list of the call's own that reads as s. -/
def OwnS (s : List UInt8) (w : World) (e : Ending) (w' : World) : Prop := ∃ v, e = .returned v ∧ w'.ownsRow w.heap.size 5 1 v s.length (vals s) ∧ Below w.heap.size w w'
theorem mks_nil (w : World) (B : Nat) : Mks w B none 0 0 [] := ⟨rfl, Nat.le_refl _, Nat.zero_le _, fun h => absurd h (Nat.lt_irrefl _)⟩
theorem markF_nil : markF [] = fun _ => true := by
  funext i
  rfl
theorem markF_full {D : DkL} {ks : List Bool} (h : ks.length = D.2.length) (p : Nat) : leftD D (markF ks) p = leftD D (fun i => ks.getD i false) p := by
  have : lastTo D.2 (markF ks) (p : Int) D.2.length = lastTo D.2 (fun i => ks.getD i false) (p : Int) D.2.length := lastTo_congr fun i hi => by
    unfold markF
    have e : (ks.length == 0) = false := by simp; intro h0; rw [h0] at h; simp at h; omega
    rw [e]
    simp
  unfold leftD
  rw [this]
end Go.Proofs.YtldnelimemjaiaaDoor
/-
  The document's own Kept for layer 9: what those leave whose mark is true.
-/
namespace Go.Proofs.YtldnelimemjaiaaDoor
open Go.RowKit Go.Shelf
set_option maxRecDepth 100000

theorem take_kept {D : DkL} {mk : Nat → Bool} {k : Nat} (h : k < 256) : (keptD D mk).1.take (k + 1) = (keptD D mk).1.take k ++ [leftD D mk k] := by
  have hl := keptD_length D mk
  rw [List.take_add_one, ← keptD_get D mk k h, List.getD_eq_getElem?_getD, List.getElem?_eq_getElem (by omega)]
  rfl
section
variable {l : List Oper} {Q : Exit → Act → World → Prop} {md : Region.Mode} {i : Nat} {σ : List Nat} {o : Oper} {listed : Array Bool} {a : Act} {w : World}
/-- append(rows, s), at its own place in the order. -/
theorem wpS_append_brow (hi : nthOp l i = some o) (hr : Region.ready md l.toArray listed = [i]) (hl : lastB md l.toArray i = true) (hgd : o.guard = none) (x y : Operand) (ho : o.op = .call { callee := .builtin .append, args := #[x, y], argTypes := #[27, 27] })
    (base : Nat) {C : Nat} (hC : C ≤ base) (v : Value) (bl : List (List UInt8)) (hx : a.eval x = v) (hrw : BRowC w C base v bl) (A : Option Addr) (c : Nat) (s : List UInt8) (b : Nat) (hy : a.eval y = .slice (some ⟨b, 0, none⟩) 1 1) (hb : Blk w b 44 #[.slice A s.length c]) (hs : BslO w C A s.length c s)
    (hn : bl.length ≤ 1000000) (hbase : base ≤ w.heap.size)
    (h : ∀ v' w', BRowC w' C base v' (bl ++ [s]) → w.grownBy w' v.ownBlock → (∀ g, v.ownBlock = some g → base ≤ g ∧ ∃ t cs, Blk w g t cs ∧ t = 44) → wpS Tryd.prog md l Q σ (listed.setIfInBounds i true) (a.put o.dst v') w') : wpS Tryd.prog md l Q (i :: σ) listed a w :=
  wpS_last hi hr hl fun K hK => by
    rw [if_pos (by simp [Region.wanted, hgd])]
    have hty : ∀ g, v.ownBlock = some g → base ≤ g ∧ ∃ t cs, Blk w g t cs ∧ t = 44 := by
      obtain ⟨xs, h1, _⟩ := hrw
      intro g hg
      obtain ⟨_, ⟨rfl, _⟩ | ⟨g', cap, cur, rfl, h2, h3, _⟩⟩ := h1
      · cases hg
      · cases hg
        exact ⟨h2, _, _, h3, rfl⟩
    exact wp_append_browC x y ho base hC v bl hx hrw A c s b hy hb hs hn hbase fun v' w' h1 h2 _ => hK _ _ (h v' w' h1 h2 hty)
/-- append(writes, more...), at its own place in the order. -/
theorem wpS_append_wrow (hi : nthOp l i = some o) (hr : Region.ready md l.toArray listed = [i]) (hl : lastB md l.toArray i = true) (hgd : o.guard = none) (x y : Operand) (ho : o.op = .call { callee := .builtin .append, args := #[x, y], argTypes := #[28, 28] })
    (base : Nat) {C : Nat} (hC : C ≤ base) (v : Value) (ws : WrL) (hx : a.eval x = v) (hrw : WRowC w C base v ws) (ys : List Value) (ws' : WrL) (ad : Addr) (m c : Nat) (hy : a.eval y = .slice (some ad) m c) (hm : ws'.length = m) (hyl : ys.length = m * 2) (hcell : ∀ j u, ys[j]? = some u → w.cell? (ad.add j) = some u)
    (h3 : ∀ i, i < ws'.length → (Lit.int .i64 (wr_ ws' i).1).wf = true ∧ ys.getD (i * 2) undef = .int .i64 (wr_ ws' i).1 ∧ ∃ A c, ys.getD (i * 2 + 1) undef = .slice A (wr_ ws' i).2.length c ∧ BslO w C A (wr_ ws' i).2.length c (wr_ ws' i).2)
    (hn : ws.length + m ≤ 1000000) (hbase : base ≤ w.heap.size)
    (h : ∀ v' w', WRowC w' C base v' (ws ++ ws') → w.grownBy w' v.ownBlock → (∀ g, v.ownBlock = some g → base ≤ g ∧ ∃ t cs, Blk w g t cs ∧ t = 64) → wpS Tryd.prog md l Q σ (listed.setIfInBounds i true) (a.put o.dst v') w') : wpS Tryd.prog md l Q (i :: σ) listed a w :=
  wpS_last hi hr hl fun K hK => by
    rw [if_pos (by simp [Region.wanted, hgd])]
    have hty : ∀ g, v.ownBlock = some g → base ≤ g ∧ ∃ t cs, Blk w g t cs ∧ t = 64 := by
      obtain ⟨xs, h1, _⟩ := hrw
      intro g hg
      obtain ⟨_, ⟨rfl, _⟩ | ⟨g', cap, cur, rfl, h2, h3, _⟩⟩ := h1
      · cases hg
      · cases hg
        exact ⟨h2, _, _, h3, rfl⟩
    exact wp_append_wrowC x y ho base hC v ws hx hrw ys ws' ad m c hy hm hyl hcell h3 hn hbase fun v' w' h1 h2 _ => hK _ _ (h v' w' h1 h2 hty)
end
end Go.Proofs.YtldnelimemjaiaaDoor
/-
  The document's own Flush and Crash for layer 9.
-/
namespace Go.Proofs.YtldnelimemjaiaaDoor
open Go.RowKit Go.Shelf
set_option maxRecDepth 100000

/-- A disk and an error are answered. -/
def RefD (o : DkL × Int) (w : World) (e : Ending) (w' : World) : Prop := ∃ x', e = .returned (.tuple #[dval x' o.1, .int .i64 o.2]) ∧ Dsk w' w'.heap.size x' o.1 ∧ Below w.heap.size w w'
theorem refD_no {c : Int} {w : World} {e : Ending} {w' : World} (he : e = .returned (.tuple #[.agg #[.slice none 0 0, .slice none 0 0], .int .i64 c])) (hb : Below w.heap.size w w') : RefD (([], []), c) w e w' := ⟨⟨none, 0, none, 0⟩, he, ⟨bls_nil _ _, wts_nil _ _⟩, hb⟩
end Go.Proofs.YtldnelimemjaiaaDoor
/-
  The document's own Crash for layer 9.
-/
namespace Go.Proofs.YtldnelimemjaiaaDoor
open Go.RowKit Go.Shelf
set_option maxRecDepth 100000

theorem kept_full {D : DkL} {ks : List Bool} (h : ks.length = D.2.length) : keptD D (markF ks) = keptD D (fun i => ks.getD i false) := by
  unfold keptD
  have : leftD D (markF ks) = leftD D (fun i => ks.getD i false) := funext fun p => markF_full h p
  rw [this]
end Go.Proofs.YtldnelimemjaiaaDoor
/-
  The document's own With for layer 9: a disk on which one more write waits.
-/
namespace Go.Proofs.YtldnelimemjaiaaDoor
open Go.RowKit Go.Shelf
set_option maxRecDepth 100000

end Go.Proofs.YtldnelimemjaiaaDoor
/-
  The document's own Read and Write for layer 9.
-/
namespace Go.Proofs.YtldnelimemjaiaaDoor
open Go.RowKit Go.Shelf
set_option maxRecDepth 100000

end Go.Proofs.YtldnelimemjaiaaDoor
/-
  dev.Tamper: what it answers, whatever disk, place and byte it is handed.
-/
namespace Go.Proofs.YtldnelimemjaiaaDoor
open Go.RowKit Go.Shelf
set_option maxRecDepth 100000

theorem ar_set (t : List UInt8) (j : Nat) (y : UInt8) : (ar t).setIfInBounds j (.int .u8 (y.toNat : Int)) = ar (t.set j y) := by
  apply Array.ext'
  simp [ar, vals, List.map_set]
/-- One byte of a disk that is laid in one piece is turned. -/
theorem Laid.turned {w : World} {lo : Nat} {x : DAt} {D : DkL} (h : Laid w lo x D) {p q : Nat} (hp : p < D.1.length) (hq : q < (D.1.getD p []).length) (b : UInt8) :
    ∃ g hb o, x.ba = some ⟨hb, 0, none⟩ ∧ lo ≤ g ∧ w.cell? ⟨hb, p, none⟩ = some (.slice (some ⟨g, o, none⟩) (D.1.getD p []).length (D.1.getD p []).length) ∧ w.cell? ⟨g, o + q, none⟩ = some (.int .u8 (((D.1.getD p []).getD q 0).toNat : Int)) ∧
      w.frozen? ⟨g, o + q, none⟩ = false ∧ (∀ k t cs, Blk w k t cs → t ≠ 5 → g ≠ k) ∧ Laid (w.setCell ⟨g, o + q, none⟩ (.int .u8 (((D.1.getD p []).getD q 0 ^^^ b).toNat : Int))) lo x (turnedD D p q b) := by
  obtain ⟨g, hb, hw, rfl, k1, k2, k3, h1, h2, h3, h4, h5, ⟨cb, h6, h7, h8⟩, cw, h9, h10, h11⟩ := h
  have hP := pieces_length D
  obtain ⟨v, e1, o, rfl, ho⟩ := h8 p hp
  rw [pieces_left hp] at e1 ho
  have hst := ho (by omega)
  subst hst
  have n1 : hb ≠ g := h6.ne h5 (by decide)
  have n2 : hw ≠ g := h9.ne h5 (by decide)
  have hl1 : (turnedD D p q b).1.length = D.1.length := List.length_set ..
  have hget := room_get (P := pieces D) (T := sumD D) (n := D.1.length + D.2.length) (k := p) (j := q) (by omega) (by omega) (by rw [pieces_left hp]; exact hq)
  rw [pieces_left hp] at hget
  have hval : (D.1.getD p [])[q]? = some ((D.1.getD p []).getD q 0) := by rw [List.getD_eq_getElem?_getD (l := D.1.getD p []), List.getElem?_eq_getElem hq]; rfl
  have hpv : ∀ i, i < (pieces D).length → ∀ v, PieceV g (pieces D) i v → PieceV g (pieces (turnedD D p q b)) i v := by
    rintro i hi v ⟨o', rfl, ho'⟩
    have el : ((pieces (turnedD D p q b)).getD i []).length = ((pieces D).getD i []).length := by
      rw [turned_pieces hp, getD_set _ _ _ _ _ (by omega)]
      split
      · rename_i e
        rw [e, List.length_set]
      · rfl
    refine ⟨o', by rw [el], fun h0 => ?_⟩
    rw [turned_pieces hp, startP_set (by omega) (by simp) (by omega)]
    exact ho' (by rw [← el]; exact h0)
  refine ⟨g, hb, _, rfl, k1, by rw [h6.cell, e1], ?_, h5.frozen _, fun k t cs hk ht => h5.ne hk (Ne.symm ht), g, hb, hw, by rw [hl1]; rfl, k1, k2, k3, by rw [hl1]; exact h1, h2, by rw [turned_sum hp]; exact h3, h4, ?_, ⟨cb, h6.far (by simpa using n1) _, by rw [hl1]; exact h7, fun i hi => ?_⟩, cw, h9.far (by simpa using n2) _, h10, fun i hi => ?_⟩
  · rw [h5.cell, ar, List.getElem?_toArray, vals, List.getElem?_map, hget, hval]
    rfl
  · rw [turned_sum hp, hl1]
    show Blk _ g _ (ar (roomP (pieces (turnedD D p q b)) (sumD D) (D.1.length + D.2.length)))
    rw [turned_room hp hq, ← ar_set]
    exact h5.set_ _ _
  · rw [hl1] at hi
    obtain ⟨v, e3, e4⟩ := h8 i hi
    exact ⟨v, e3, hpv i (by omega) v e4⟩
  · obtain ⟨e0, v, e3, e4⟩ := h11 i hi
    refine ⟨e0, v, e3, ?_⟩
    rw [hl1]
    exact hpv _ (by have : i < D.2.length := hi; omega) v e4
def tamperO (D : DkL) (p q : Int) (b : UInt8) : DkL × Int := if MayD D then (if (0 ≤ p ∧ p < 256) ∧ 0 ≤ q ∧ q < 256 then (turnedD D p.toNat q.toNat b, 0) else (([], []), 2)) else (([], []), 8)
end Go.Proofs.YtldnelimemjaiaaDoor
/-
  Words for the document's own Tamper of layer 9: a byte of a disk of the call's own is turned.
-/
namespace Go.Proofs.YtldnelimemjaiaaDoor
open Go.RowKit Go.Shelf
set_option maxRecDepth 100000

theorem own_set {w : World} {B g n cap q : Nat} {s : List UInt8} (h : w.ownsRow B 5 1 (.slice (some ⟨g, 0, none⟩) n cap) n (vals s)) (y : UInt8) : (w.setCell ⟨g, q, none⟩ (.int .u8 (y.toNat : Int))).ownsRow B 5 1 (.slice (some ⟨g, 0, none⟩) n cap) n (vals (s.set q y)) := by
  obtain ⟨hl, ⟨e, _⟩ | ⟨g', cap', cur, e, h2, h3, h4, h5, h6, h7⟩⟩ := h
  · cases e
  · cases e
    have hb : Blk w g 5 cur := h3
    refine ⟨by rw [← hl]; simp [vals], .inr ⟨g, cap, _, rfl, h2, hb.set_ q _, h4, h5, by rw [Array.size_setIfInBounds]; exact h6, ?_⟩⟩
    rw [Array.toList_setIfInBounds, List.take_set, h7]
    simp [vals, List.map_set]
theorem getD_in (s : List UInt8) (q : Nat) (h : q < s.length) : s.getD q 0 = s[q] := by
  rw [List.getD_eq_getElem?_getD, List.getElem?_eq_getElem h]
  rfl
/-- The turned byte of a disk of the call's own. -/
theorem TwI.turned {base hb hw k p q : Nat} {D : DkL} {w : World} (h : TwI base hb hw D k w) (hk : D.1.length ≤ k) (hp : p < D.1.length) (hq : q < (D.1.getD p []).length) (b : UInt8) :
    ∃ g c, w.cell? ⟨hb, p, none⟩ = some (.slice (some ⟨g, 0, none⟩) (D.1.getD p []).length c) ∧ base ≤ g ∧ w.cell? ⟨g, q, none⟩ = some (.int .u8 (((D.1.getD p []).getD q 0).toNat : Int)) ∧ w.frozen? ⟨g, q, none⟩ = false ∧
      (∀ f t cs, Blk w f t cs → t ≠ 5 → g ≠ f) ∧ TwI base hb hw (turnedD D p q b) k (w.setCell ⟨g, q, none⟩ (.int .u8 (((D.1.getD p []).getD q 0 ^^^ b).toNat : Int))) := by
  obtain ⟨vs, cb, cw, h1, h2, h3, h4, h5, h6, h7, h8⟩ := h
  have ho := h7 p (by omega)
  have hpp : (pieces D).getD p [] = D.1.getD p [] := pieces_left hp
  rw [hpp] at ho
  obtain ⟨A, c, e, hbs⟩ := own_val ho
  obtain ⟨b0, off, e2, hlt, _, hce⟩ := (hbs 0).2.2.2.2 (by omega)
  have hA : A = some ⟨b0, 0, none⟩ := by
    rw [e, e2] at ho
    obtain ⟨_, ⟨e, _⟩ | ⟨g', _, _, e, _⟩⟩ := ho
    · cases e
    · cases e
      exact e2
  have hoff : off = 0 := by rw [hA] at e2; cases e2; rfl
  subst hoff
  rw [hA] at e
  rw [e] at ho
  obtain ⟨cs, hg⟩ := own_blk ho
  have hne : ∀ f t cs, Blk w f t cs → t ≠ 5 → b0 ≠ f := fun f t cs hf ht => hg.ne hf (Ne.symm ht)
  have hcq := hce q hq
  have hD2 : (turnedD D p q b).2 = D.2 := rfl
  have hD1 : (turnedD D p q b).1.length = D.1.length := List.length_set ..
  have gs : w.grownBy (w.setCell ⟨b0, q, none⟩ (.int .u8 (((D.1.getD p []).getD q 0 ^^^ b).toNat : Int))) (some b0) := only_setCell (World.grownBy.refl w _) (.inl rfl) _
  refine ⟨b0, c, ?_, (own_lt ho).1, ?_, hg.frozen q, hne, vs, cb, cw, h1.far (p := ⟨b0, q, none⟩) (Ne.symm (hne _ _ _ h1 (by decide))) _, by rw [hD1]; exact h2, h3.far (p := ⟨b0, q, none⟩) (Ne.symm (hne _ _ _ h3 (by decide))) _, by rw [hD2]; exact h4, fun i hi => ?_, fun j hj => ?_, fun i hi => ?_, h8⟩
  · rw [h1.cell, h5 p hp, done_yes (by omega), e]
  · rw [Nat.zero_add] at hcq
    rw [hcq, getD_in _ _ hq]
  · rw [hD1] at hi
    exact h5 i hi
  · rw [hD1]
    exact h6 j hj
  · rw [turned_pieces hp, hpp]
    by_cases hip : i = p
    · subst hip
      have : ((pieces D).set i ((D.1.getD i []).set q ((D.1.getD i []).getD q 0 ^^^ b))).getD i [] = (D.1.getD i []).set q ((D.1.getD i []).getD q 0 ^^^ b) := by
        rw [List.getD_eq_getElem?_getD, List.getElem?_set_self (by rw [pieces_length]; omega)]
        rfl
      rw [this, List.length_set, e]
      exact own_set ho _
    · have : ((pieces D).set p ((D.1.getD p []).set q ((D.1.getD p []).getD q 0 ^^^ b))).getD i [] = (pieces D).getD i [] := by
        rw [List.getD_eq_getElem?_getD, List.getElem?_set_ne (Ne.symm hip), ← List.getD_eq_getElem?_getD]
      rw [this]
      refine own_other (h7 i hi) gs fun f hf e3 => ?_
      have hpb : (vs p).ownBlock = some b0 := by rw [e]; rfl
      rw [← e3] at hpb
      rcases Nat.lt_or_gt_of_ne hip with h9 | h9
      · exact h8 i p h9 (by omega) f hf hpb
      · exact h8 p i h9 hi f hpb hf
end Go.Proofs.YtldnelimemjaiaaDoor
/-
  The document's own Tamper for layer 9.
-/
namespace Go.Proofs.YtldnelimemjaiaaDoor
open Go.RowKit Go.Shelf
set_option maxRecDepth 100000

end Go.Proofs.YtldnelimemjaiaaDoor
/-
  dev.Same tells whether all fields of two disks are the same.
-/
namespace Go.Proofs.YtldnelimemjaiaaDoor
open Go.RowKit Go.Shelf
set_option maxRecDepth 100000

theorem ext_bls {a b : List (List UInt8)} (h : a.length = b.length) (he : ∀ i, i < a.length → a.getD i [] = b.getD i []) : a = b := by
  apply List.ext_getElem h
  intro i h1 h2
  have := he i h1
  simpa [List.getD_eq_getElem?_getD, h1, h2] using this
theorem ext_wts {a b : WrL} (h : a.length = b.length) (he : ∀ i, i < a.length → wr_ a i = wr_ b i) : a = b := by
  apply List.ext_getElem h
  intro i h1 h2
  have := he i h1
  unfold wr_ at this
  simpa [List.getD_eq_getElem?_getD, h1, h2] using this
theorem dEqual_any (a : Option Addr) (la ca : Nat) (s : List UInt8) (b : Option Addr) (lb cb : Nat) (t : List UInt8) (A B : Nat) (w : World) (hA : Bsl w A a la ca s) (hB : Bsl w B b lb cb t) (r : Bool) (hr : r = true ↔ s = t) :
    Calls Tryd.prog 41 #[.slice a la ca, .slice b lb cb] w fun e w' => e = .returned (.bool r) ∧ w = w' := by
  have c1 := hA.conv
  have c2 := hB.conv
  have eq : ((strOf s).toList == (strOf t).toList) = r := by
    rw [strOf_toList, strOf_toList]
    cases r with
    | true => simp [hr.1 rfl]
    | false =>
      have : s ≠ t := fun h => by have := hr.2 h; cases this
      simp [this]
  have HE := Lib.hid eq; clear eq hA hB hr
  go_enter Tryd.func41, Tryd.ntmps41
  go_wp2_with fail
  go_ret
  exact ⟨by rw [← HE.out]; rfl, rfl⟩
/-- The first place where two rows part. -/
theorem part_at (n : Nat) (P : Nat → Prop) : ∃ j, j ≤ n ∧ (∀ i, i < j → P i) ∧ (j < n → ¬ P j) := by
  induction n with
  | zero => exact ⟨0, Nat.le_refl _, fun i h => absurd h (Nat.not_lt_zero _), fun h => absurd h (Nat.lt_irrefl _)⟩
  | succ n ih =>
    obtain ⟨j, h1, h2, h3⟩ := ih
    rcases Nat.lt_or_ge j n with h | h
    · exact ⟨j, by omega, h2, fun _ => h3 h⟩
    · obtain rfl : j = n := by omega
      by_cases hp : P j
      · refine ⟨j + 1, Nat.le_refl _, fun i hi => ?_, fun h => absurd h (Nat.lt_irrefl _)⟩
        rcases Nat.lt_or_ge i j with h4 | h4
        · exact h2 i h4
        · obtain rfl : i = j := by omega
          exact hp
      · exact ⟨j, by omega, h2, fun _ => hp⟩
end Go.Proofs.YtldnelimemjaiaaDoor
/-
  The document's own Same for layer 9.
-/
namespace Go.Proofs.YtldnelimemjaiaaDoor
open Go.RowKit Go.Shelf
set_option maxRecDepth 100000

theorem str_same (s t : List UInt8) : ((strOf s).toList == (strOf t).toList) = decide (s = t) := by
  rw [strOf_toList, strOf_toList]
  by_cases h : s = t <;> simp [h]
theorem same_iff {D E : DkL} {o1 o2 : Nat} (h1 : OddN o1 D.1.length (fun i => D.1.getD i [] = E.1.getD i [])) (h2 : OddN o2 D.2.length (fun i => wr_ D.2 i = wr_ E.2 i)) (e1 : D.1.length = E.1.length) (e2 : D.2.length = E.2.length) : o1 + o2 = 0 ↔ D = E := by
  constructor
  · intro h
    exact Prod.ext (ext_bls e1 (h1.2.1 (by omega))) (ext_wts e2 (h2.2.1 (by omega)))
  · intro h
    subst h
    have a1 := h1.2.2 fun _ _ => rfl
    have a2 := h2.2.2 fun _ _ => rfl
    omega
end Go.Proofs.YtldnelimemjaiaaDoor
/-
  Layer 9: all bytes of a disk that is the caller's own become other ones.
-/
namespace Go.Proofs.YtldnelimemjaiaaDoor
open Go.RowKit Go.Shelf
set_option maxRecDepth 100000

/-- Where the pieces lie. -/
def WipeOK (g n m T : Nat) (cb cw : Array Value) : Prop :=
  (∀ i, i < n → ∃ o l, cb[i]? = some (.slice (some ⟨g, o, none⟩) l l) ∧ l ≤ T ∧ ∀ k, k < l → o + k < T) ∧ ∀ i, i < m → ∃ o l, cw[i * 2 + 1]? = some (.slice (some ⟨g, o, none⟩) l l) ∧ l ≤ T ∧ ∀ k, k < l → o + k < T
def WipeI (g hb hw B n m T : Nat) (cb cw : Array Value) (w0 w : World) : Prop :=
  Blk w B 30 #[.slice (some ⟨hb, 0, none⟩) n n, .slice (some ⟨hw, 0, none⟩) m m] ∧ Blk w hb 44 cb ∧ Blk w hw 64 cw ∧ (∃ t : List UInt8, t.length = T ∧ Blk w g 5 (ar t)) ∧ w0.grownBy w (some g)
theorem WipeI.step {g hb hw B n m T : Nat} {cb cw : Array Value} {w0 w : World} (h : WipeI g hb hw B n m T cb cw w0 w) (j : Nat) (y : UInt8) : WipeI g hb hw B n m T cb cw w0 (w.setCell ⟨g, j, none⟩ (.int .u8 (y.toNat : Int))) := by
  obtain ⟨h1, h2, h3, ⟨t, h4, h5⟩, h6⟩ := h
  refine ⟨h1.far (p := ⟨g, j, none⟩) (h1.ne h5 (by decide)) _, h2.far (p := ⟨g, j, none⟩) (h2.ne h5 (by decide)) _, h3.far (p := ⟨g, j, none⟩) (h3.ne h5 (by decide)) _, ⟨t.set j y, by rw [List.length_set, h4], ?_⟩, only_setCell h6 (p := ⟨g, j, none⟩) (.inl rfl) _⟩
  have := h5.set_ j (.int .u8 (y.toNat : Int))
  rwa [ar_set] at this
theorem WipeI.drew {g hb hw B n m T : Nat} {cb cw : Array Value} {w0 w : World} (h : WipeI g hb hw B n m T cb cw w0 w) : WipeI g hb hw B n m T cb cw w0 w.drew := by
  obtain ⟨h1, h2, h3, ⟨t, h4, h5⟩, h6⟩ := h
  exact ⟨h1.drew, h2.drew, h3.drew, ⟨t, h4, h5.drew⟩, only_drew h6⟩
theorem WipeI.byte {g hb hw B n m T : Nat} {cb cw : Array Value} {w0 w : World} (h : WipeI g hb hw B n m T cb cw w0 w) {j : Nat} (hj : j < T) : ∃ y : UInt8, w.cell? ⟨g, j, none⟩ = some (.int .u8 (y.toNat : Int)) ∧ w.frozen? ⟨g, j, none⟩ = false := by
  obtain ⟨_, _, _, ⟨t, h4, h5⟩, _⟩ := h
  refine ⟨t[j], ?_, h5.frozen j⟩
  rw [h5.cell, ar_get t j (by omega)]
/-- A disk laid in one piece, at block r. -/
def LaidR (w : World) (lo r : Nat) (x : DAt) (D : DkL) : Prop :=
  ∃ hb hw, x = ⟨some ⟨hb, 0, none⟩, D.1.length, some ⟨hw, 0, none⟩, D.2.length⟩ ∧ lo ≤ r ∧ lo ≤ hb ∧ lo ≤ hw ∧ D.1.length ≤ 1000000 ∧ D.2.length ≤ 1000000 ∧ sumD D ≤ 1000000000000 ∧
    (∀ i, i < D.2.length → (Lit.int .i64 (wr_ D.2 i).1).wf = true) ∧ Blk w r 5 (ar (roomP (pieces D) (sumD D) (D.1.length + D.2.length))) ∧
    (∃ cb, Blk w hb 44 cb ∧ cb.size = D.1.length ∧ ∀ i, i < D.1.length → ∃ v, cb[i]? = some v ∧ PieceV r (pieces D) i v) ∧
    ∃ cw, Blk w hw 64 cw ∧ cw.size = D.2.length * 2 ∧ ∀ i, i < D.2.length → cw[i * 2]? = some (.int .i64 (wr_ D.2 i).1) ∧ ∃ v, cw[i * 2 + 1]? = some v ∧ PieceV r (pieces D) (D.1.length + i) v
theorem Laid.row {w : World} {lo : Nat} {x : DAt} {D : DkL} (h : Laid w lo x D) : ∃ r, LaidR w lo r x D := h
theorem LaidR.laid {w : World} {lo r : Nat} {x : DAt} {D : DkL} (h : LaidR w lo r x D) : Laid w lo x D := ⟨r, h⟩
theorem LaidR.low {w : World} {lo r : Nat} {x : DAt} {D : DkL} (h : LaidR w lo r x D) : lo ≤ r ∧ r < w.heap.size := by
  obtain ⟨_, _, _, h1, _, _, _, _, _, _, h2, _⟩ := h
  exact ⟨h1, h2.lt⟩
/-- What a call answers that makes a disk; row: the block of its bytes, if there are any. -/
def OutR (w : World) (lo : Nat) (row : Option Nat) (x : DAt) (D : DkL) : Prop := (x = ⟨none, 0, none, 0⟩ ∧ D = ([], []) ∧ row = none) ∨ ∃ r, row = some r ∧ LaidR w lo r x D
theorem OutD.row {w : World} {lo : Nat} {x : DAt} {D : DkL} (h : OutD w lo x D) : ∃ row, OutR w lo row x D := by
  rcases h with ⟨h1, h2⟩ | h
  · exact ⟨none, .inl ⟨h1, h2, rfl⟩⟩
  · obtain ⟨r, hr⟩ := h.row
    exact ⟨some r, .inr ⟨r, rfl, hr⟩⟩
theorem OutR.out {w : World} {lo : Nat} {row : Option Nat} {x : DAt} {D : DkL} (h : OutR w lo row x D) : OutD w lo x D := by
  rcases h with ⟨h1, h2, _⟩ | ⟨r, _, h⟩
  · exact .inl ⟨h1, h2⟩
  · exact .inr h.laid
theorem OutR.low {w : World} {lo : Nat} {row : Option Nat} {x : DAt} {D : DkL} (h : OutR w lo row x D) : ∀ r, row = some r → lo ≤ r ∧ r < w.heap.size := by
  rintro r rfl
  rcases h with ⟨_, _, e⟩ | ⟨r', e, h⟩
  · cases e
  · cases e
    exact h.low
/-- What a disk that is laid in one piece gives. -/
theorem LaidR.wipe {w : World} {lo g : Nat} {x : DAt} {D : DkL} (h : LaidR w lo g x D) :
    ∃ hb hw n m T cb cw, dval x D = .agg #[.slice (some ⟨hb, 0, none⟩) n n, .slice (some ⟨hw, 0, none⟩) m m] ∧ n ≤ 1000000 ∧ m ≤ 1000000 ∧ T ≤ 1000000000000 ∧ WipeOK g n m T cb cw ∧
      WipeI g hb hw w.heap.size n m T cb cw w (w.alloc (.cells #[.slice (some ⟨hb, 0, none⟩) n n, .slice (some ⟨hw, 0, none⟩) m m] 30)) := by
  obtain ⟨hb, hw, rfl, k1, k2, k3, h1, h2, h3, h4, h5, ⟨cb, h6, h7, h8⟩, cw, h9, h10, h11⟩ := h
  have hst : startP (pieces D) (D.1.length + D.2.length) = sumD D := startP_sumD D
  have hpc : ∀ i v, i < D.1.length + D.2.length → PieceV g (pieces D) i v → ∃ o l, v = .slice (some ⟨g, o, none⟩) l l ∧ l ≤ sumD D ∧ ∀ k, k < l → o + k < sumD D := by
    rintro i v hi ⟨o, e, ho⟩
    have hs := startP_succ (P := pieces D) (k := i) (by rw [pieces_length]; exact hi)
    have hm := startP_mono (P := pieces D) (show i + 1 ≤ D.1.length + D.2.length by omega)
    refine ⟨o, _, e, by omega, fun k hk => ?_⟩
    have := ho (by omega)
    omega
  refine ⟨hb, hw, D.1.length, D.2.length, sumD D, cb, cw, rfl, h1, h2, h3, ⟨fun i hi => ?_, fun i hi => ?_⟩, Blk.new w _ _, h6.alloc _, h9.alloc _, ⟨_, roomP_length (by rw [hst]; exact Nat.le_refl _), h5.alloc _⟩, only_alloc (World.grownBy.refl w _) _⟩
  · obtain ⟨v, e1, e2⟩ := h8 i hi
    obtain ⟨o, l, rfl, e3⟩ := hpc i v (by omega) e2
    exact ⟨o, l, e1, e3⟩
  · obtain ⟨_, v, e1, e2⟩ := h11 i hi
    obtain ⟨o, l, rfl, e3⟩ := hpc (D.1.length + i) v (by omega) e2
    exact ⟨o, l, e1, e3⟩
theorem xor255 (y : UInt8) : bits .xor .u8 (y.toNat : Int) 255 = ((y ^^^ 255).toNat : Int) := xor8 y 255
end Go.Proofs.YtldnelimemjaiaaDoor
/-
  The document's own Great for layer 9: a disk that is not great has few blocks, few writes, few bytes.
-/
namespace Go.Proofs.YtldnelimemjaiaaDoor
open Go.RowKit Go.Shelf
set_option maxRecDepth 100000

/-- No piece of a disk is longer than what memory there is. -/
def Near (D : DkL) : Prop := (∀ i, i < D.1.length → (D.1.getD i []).length ≤ 140737488351232) ∧ ∀ i, i < D.2.length → (wr_ D.2 i).2.length ≤ 140737488351232
/-- What a disk that is not great is. -/
def Small (D : DkL) : Prop := D.1.length ≤ 500 ∧ (D.2.length ≤ 500 ∨ 4096 ≤ D.2.length) ∧ D.2.length ≤ 4106 ∧ sumD D < 2000000
/-- What Great answers: if it is no, the disk is small. -/
def GreatSays (D : DkL) (w : World) (e : Ending) (w' : World) : Prop := ∃ b, e = .returned (.bool b) ∧ (b = false → Small D) ∧ Below w.heap.size w w'
theorem small_fits {D : DkL} (h : Small D) : Fits D := ⟨by have := h.1; omega, by have := h.2.2.1; omega, by have := h.2.2.2; omega⟩
theorem great_yes {D : DkL} {w w' : World} (hb : Below w.heap.size w w') : GreatSays D w (.returned (.bool true)) w' := ⟨true, rfl, fun h => (by cases h), hb⟩
set_option maxHeartbeats 4000000 in
theorem rdGreat_any (x : DAt) (D : DkL) (w : World) (h : Dsk w w.heap.size x D) (hnear : Near D) : Calls Tryd.prog 13 #[dval x D] w (GreatSays D w) := by
  obtain ⟨ba, bc, wa, wc⟩ := x
  simp only [dval]
  have l1 := h.1.len_le
  have l2 := h.2.len_le
  obtain ⟨n, hn⟩ : ∃ n, D.1.length = n := ⟨_, rfl⟩
  obtain ⟨m, hm⟩ : ∃ m, D.2.length = m := ⟨_, rfl⟩
  rw [hn] at l1
  rw [hm] at l2
  have n0 : (0 : Int) ≤ n := by omega
  have m0 : (0 : Int) ≤ m := by omega
  have b0 := (Below.refl w.heap.size w).alloc (Nat.le_refl _) (.cells #[.slice ba D.1.length bc, .slice wa D.2.length wc] 30)
  have x0 := Blk.new w 30 #[.slice ba D.1.length bc, .slice wa D.2.length wc]
  have h0 := h.step b0
  rw [hn, hm] at b0 x0 h0 ⊢
  obtain ⟨w0, hw0⟩ : ∃ w0, w.alloc (.cells #[.slice ba n bc, .slice wa m wc] 30) = w0 := ⟨_, rfl⟩
  rw [hw0] at b0 x0 h0
  have c0 := x0.cell 0
  have c1 := x0.cell 1
  obtain ⟨hB, hW⟩ := h0
  simp only [hn, hm] at hB hW
  have HB := Lib.hid hB
  have HW := Lib.hid hW
  have HBl := Lib.hid b0
  have HN := Lib.hid hn
  have HM := Lib.hid hm
  have HNEAR := Lib.hid hnear
  clear h b0 x0 hB hW hn hm hnear
  by_cases hn5 : (500 : Int) < n
  · go_enter Tryd.func13, Tryd.ntmps13
    go_wp2_with fail
    go_ret
    exact great_yes HBl.out
  · by_cases hmid : (500 : Int) < m ∧ (m : Int) < 4096
    · obtain ⟨hm5, hm4⟩ := hmid
      go_enter Tryd.func13, Tryd.ntmps13
      go_wp2_with fail
      go_ret
      exact great_yes HBl.out
    · by_cases hm6 : (4106 : Int) < m
      · have hm5 : (500 : Int) < m := by omega
        have hm4 : ¬ (m : Int) < 4096 := by omega
        clear hmid
        go_enter Tryd.func13, Tryd.ntmps13
        go_wp2_with fail
        go_ret
        exact great_yes HBl.out
      · have hdim : n ≤ 500 ∧ (m ≤ 500 ∨ 4096 ≤ m) ∧ m ≤ 4106 := by omega
        have HDIM := Lib.hid hdim
        have hmb : (500 : Int) < m → ¬ (m : Int) < 4096 := fun hh hk => hmid ⟨hh, hk⟩
        clear hmid hdim
        by_cases hm5 : (500 : Int) < m
        all_goals
          first
            | have hm4 : ¬ (m : Int) < 4096 := hmb hm5
            | have hm4 : True := trivial
          clear hmb
          go_enter Tryd.func13, Tryd.ntmps13
          go_wp2_with fail
          clear hw0 hm4 hm5 hm6 hn5
          go_loop [3, 4] (fun t i => ∃ k : Nat, k ≤ n ∧ i = .int .i64 k ∧ t = .int .i64 (sumB D.1 k : Nat) ∧ sumB D.1 k ≤ 140737490351232) (fun _ i => n - (intOf i).toNat)
          case atStart => exact ⟨0, Nat.zero_le _, rfl, rfl, by simp [sumB]⟩
          case round =>
            obtain ⟨k, hk, rfl, rfl, hts⟩ := hrel
            have k0 : (0 : Int) ≤ k := by omega
            obtain ⟨t, ht⟩ : ∃ t, sumB D.1 k = t := ⟨_, rfl⟩
            rw [ht] at hts ⊢
            have t0 : (0 : Int) ≤ t := by omega
            have t1 : (t : Int) ≤ 140737490351232 := by omega
            by_cases hlt : k < n ∧ t < 2000000
            · obtain ⟨hlt, ht2⟩ := hlt
              have k1 : (k : Int) < n := by omega
              have t2 : (t : Int) < 2000000 := by omega
              obtain ⟨b, off, A, l, c', s, rfl, _, hl, hc, hA⟩ := HB.out.at_ hlt
              have hle := HNEAR.out.1 k (by rw [HN.out]; exact hlt)
              rw [hl, hA.1] at hle
              have hs : sumB D.1 (k + 1) = t + l := by rw [sumB, hl, hA.1, ht]
              have l0 : (0 : Int) ≤ l := by omega
              have l1 : (l : Int) ≤ 140737488351232 := by omega
              have HS := Lib.hid hs
              clear hl hA hs ht
              go_wp2_with fail
              go_round
              case rel => exact ⟨k + 1, by omega, by go_num, by rw [HS.out]; go_num, by rw [HS.out]; omega⟩
              case measure => simp [intOf]; omega
            · have hend : k = n ∨ 2000000 ≤ t := by omega
              have HEND := Lib.hid hend
              have HT := Lib.hid ht
              have hgo : ((k : Int) < n → ¬ (t : Int) < 2000000) := by omega
              clear hend ht hlt
              by_cases hkn : (k : Int) < n
              all_goals
                first
                  | have t3 : ¬ (t : Int) < 2000000 := hgo hkn
                  | have t3 : True := trivial
                clear hgo
                go_wp2_with fail
                clear hkn t3
                go_loop [3, 5] (fun u i => ∃ j : Nat, j ≤ m ∧ i = .int .i64 j ∧ u = .int .i64 (t + sumW D.2 j : Nat) ∧ t + sumW D.2 j ≤ 281474980702464) (fun _ i => m - (intOf i).toNat)
                case atStart => exact ⟨0, Nat.zero_le _, rfl, rfl, by simp [sumW]; omega⟩
                case round =>
                  obtain ⟨j, hj, rfl, rfl, hus⟩ := hrel
                  have j0 : (0 : Int) ≤ j := by omega
                  obtain ⟨u, hu⟩ : ∃ u, t + sumW D.2 j = u := ⟨_, rfl⟩
                  rw [hu] at hus ⊢
                  have u0 : (0 : Int) ≤ u := by omega
                  have u1 : (u : Int) ≤ 281474980702464 := by omega
                  by_cases hlt : j < m ∧ u < 2000000
                  · obtain ⟨hlt, hu2⟩ := hlt
                    have j1 : (j : Int) < m := by omega
                    have u2 : (u : Int) < 2000000 := by omega
                    obtain ⟨b, off, p, A, l, c', s, rfl, _, hl, _, hc, hd, hA⟩ := HW.out.at_ hlt
                    have hle := HNEAR.out.2 j (by rw [HM.out]; exact hlt)
                    rw [hl, hA.1] at hle
                    have hs : t + sumW D.2 (j + 1) = u + l := by rw [sumW, hl, hA.1, ← Nat.add_assoc, hu]
                    have l0 : (0 : Int) ≤ l := by omega
                    have l1 : (l : Int) ≤ 140737488351232 := by omega
                    have HS := Lib.hid hs
                    clear hl hA hs hu
                    go_wp2_with fail
                    go_round
                    case rel => exact ⟨j + 1, by omega, by go_num, by rw [HS.out]; go_num, by rw [HS.out]; omega⟩
                    case measure => simp [intOf]; omega
                  · have hend2 : j = m ∨ 2000000 ≤ u := by omega
                    have hsay : decide ((2000000 : Int) ≤ u) = false → Small D := by
                      intro hh
                      have hu3 : ¬ (2000000 : Int) ≤ u := by simpa using hh
                      have hju : j = m := by omega
                      have e1 := HEND.out
                      have hkn : k = n := by omega
                      obtain ⟨d1, d2, d3⟩ := HDIM.out
                      refine ⟨by rw [HN.out]; exact d1, by rw [HM.out]; exact d2, by rw [HM.out]; exact d3, ?_⟩
                      unfold sumD
                      rw [HN.out, HM.out, ← hju, ← hkn, HT.out]
                      omega
                    have hgo2 : ((j : Int) < m → ¬ (u : Int) < 2000000) := by omega
                    have HSAY := Lib.hid hsay
                    clear hsay hend2 hlt hu
                    by_cases hjm : (j : Int) < m
                    all_goals
                      first
                        | have u3 : ¬ (u : Int) < 2000000 := hgo2 hjm
                        | have u3 : True := trivial
                      clear hgo2
                      go_wp2_with fail
                      go_ret
                      first | exact ⟨_, rfl, HSAY.out, HBl.out⟩ | exact great_yes HBl.out
end Go.Proofs.YtldnelimemjaiaaDoor
/-
  Layer 9's laws: what lies where while a law runs.
-/
namespace Go.Proofs.YtldnelimemjaiaaDoor
open Go.RowKit Go.Shelf
set_option maxRecDepth 100000

/-- While a law runs, a disk that was handed to it lies where it lay, and so does its box. -/
def LawAt (w : World) (g : Nat) (x : DAt) (D : DkL) (w' : World) : Prop :=
  Blk w' g 30 #[.slice x.ba D.1.length x.bc, .slice x.wa D.2.length x.wc] ∧ w.heap.size ≤ g ∧ Dsk w' w'.heap.size x D ∧ Below w.heap.size w w'
section
variable {w w' w'' : World} {g : Nat} {x : DAt} {D : DkL}
theorem LawAt.step (h : LawAt w g x D w') (hb : Below w'.heap.size w' w'') : LawAt w g x D w'' :=
  ⟨h.1.below hb h.1.lt, h.2.1, h.2.2.1.step hb, h.2.2.2.trans (hb.mono h.2.2.2.size)⟩
theorem LawAt.c0 (h : LawAt w g x D w') : w'.cell? ⟨g, 0, none⟩ = some (.slice x.ba D.1.length x.bc) := h.1.cell 0
theorem LawAt.c1 (h : LawAt w g x D w') : w'.cell? ⟨g, 1, none⟩ = some (.slice x.wa D.2.length x.wc) := h.1.cell 1
theorem LawAt.dsk (h : LawAt w g x D w') : Dsk w' w'.heap.size x D := h.2.2.1
theorem LawAt.bel (h : LawAt w g x D w') : Below w.heap.size w w' := h.2.2.2
theorem LawAt.size (h : LawAt w g x D w') : w.heap.size ≤ w'.heap.size := h.2.2.2.size
theorem lawAt_box (w : World) (x : DAt) (D : DkL) (h : Dsk w w.heap.size x D) : LawAt w w.heap.size x D (w.alloc (.cells #[.slice x.ba D.1.length x.bc, .slice x.wa D.2.length x.wc] 30)) :=
  have b := (Below.refl w.heap.size w).alloc (Nat.le_refl _) (.cells #[.slice x.ba D.1.length x.bc, .slice x.wa D.2.length x.wc] 30)
  ⟨Blk.new w _ _, Nat.le_refl _, h.step b, b⟩
/-- A disk that a call answered is put in a box. -/
theorem LawAt.put {y : DAt} {E : DkL} (h : LawAt w g x D w') (hd : Dsk w' w'.heap.size y E) : LawAt w w'.heap.size y E (w'.alloc (.cells #[.slice y.ba E.1.length y.bc, .slice y.wa E.2.length y.wc] 30)) :=
  have b := (Below.refl w'.heap.size w').alloc (Nat.le_refl _) (.cells #[.slice y.ba E.1.length y.bc, .slice y.wa E.2.length y.wc] 30)
  ⟨Blk.new w' _ _, h.size, hd.step b, h.bel.trans (b.mono h.size)⟩
theorem alloc_b (w : World) (o : Obj) : Below w.heap.size w (w.alloc o) := (Below.refl _ w).alloc (Nat.le_refl _) o
end
/-- A block as the first i of the writes leave it, whose mark is true. -/
def leftI (D : DkL) (mk : Nat → Bool) (p i : Nat) : List UInt8 := match lastTo D.2 mk (p : Int) i with
  | some j => (wr_ D.2 j).2
  | none => D.1.getD p []
theorem leftI_all (D : DkL) (mk : Nat → Bool) (p : Nat) : leftI D mk p D.2.length = leftD D mk p := rfl
theorem leftI_zero (D : DkL) (mk : Nat → Bool) (p : Nat) : leftI D mk p 0 = D.1.getD p [] := rfl
theorem leftI_hit {D : DkL} {mk : Nat → Bool} {p i : Nat} (h : mk i = true ∧ (wr_ D.2 i).1 = (p : Int)) : leftI D mk p (i + 1) = (wr_ D.2 i).2 := by
  unfold leftI
  rw [lastTo, if_pos h]
theorem leftI_miss {D : DkL} {mk : Nat → Bool} {p i : Nat} (h : ¬ (mk i = true ∧ (wr_ D.2 i).1 = (p : Int))) : leftI D mk p (i + 1) = leftI D mk p i := by
  unfold leftI
  rw [lastTo, if_neg h]
end Go.Proofs.YtldnelimemjaiaaDoor
