/-
  dev.laid lays a disk in new memory, in one piece.
-/
import Derived.Test.YtgpojnhhcobcbaaDevBytes
import Derived.Test.YtgpojnhhcobcbaaDevCut
import Derived.Test.YtgpojnhhcobcbaaMakes
import Derived.Deep.CutRange
import Derived.Deep.DeepCutAuto
namespace Go.Proofs.Ytgpojnhhcobcbaa
open Go.RowKit Go.Shelf
set_option maxRecDepth 100000

theorem Blk.ne {w : World} {a b : Nat} {t t' : TypeId} {cs cs' : Array Value} (h : Blk w a t cs) (h' : Blk w b t' cs') (ht : t ≠ t') : a ≠ b := by
  rintro rfl
  unfold Blk at h h'
  rw [h] at h'
  cases h'
  exact ht rfl
/-- The value of the piece of number i. -/
def PieceV (g : Nat) (P : List (List UInt8)) (i : Nat) (v : Value) : Prop := ∃ o, v = .slice (some ⟨g, o, none⟩) (P.getD i []).length (P.getD i []).length ∧ (0 < (P.getD i []).length → o = startP P i)
/-- A disk whose first k pieces are laid. -/
def LaidI (g gd hb hw : Nat) (D : DkL) (T k : Nat) (w : World) : Prop :=
  Blk w gd 25 #[.slice (some ⟨hb, 0, none⟩) D.1.length D.1.length, .slice (some ⟨hw, 0, none⟩) D.2.length D.2.length] ∧
  Blk w g 5 (ar (roomP (pieces D) T k)) ∧
  (∃ cb, Blk w hb 30 cb ∧ cb.size = D.1.length ∧ ∀ i, i < D.1.length → i < k → ∃ v, cb[i]? = some v ∧ PieceV g (pieces D) i v) ∧
  ∃ cw, Blk w hw 55 cw ∧ cw.size = D.2.length * 2 ∧ ∀ i, i < D.2.length → D.1.length + i < k → cw[i * 2]? = some (.int .i64 (wr_ D.2 i).1) ∧ ∃ v, cw[i * 2 + 1]? = some v ∧ PieceV g (pieces D) (D.1.length + i) v
/-- The room that is left. -/
def RoomI (g gv T u : Nat) (w : World) : Prop := ∃ o, Blk w gv 30 #[.slice (some ⟨g, o, none⟩) (T - u) (T - u)] ∧ (0 < T - u → o = u)
/-- A disk laid in one piece, all of it at block lo or behind. -/
def Laid (w : World) (lo : Nat) (x : DAt) (D : DkL) : Prop :=
  ∃ g hb hw, x = ⟨some ⟨hb, 0, none⟩, D.1.length, some ⟨hw, 0, none⟩, D.2.length⟩ ∧ lo ≤ g ∧ lo ≤ hb ∧ lo ≤ hw ∧ D.1.length ≤ 1000000 ∧ D.2.length ≤ 1000000 ∧ sumD D ≤ 1000000000000 ∧
    (∀ i, i < D.2.length → (Lit.int .i64 (wr_ D.2 i).1).wf = true) ∧ Blk w g 5 (ar (roomP (pieces D) (sumD D) (D.1.length + D.2.length))) ∧
    (∃ cb, Blk w hb 30 cb ∧ cb.size = D.1.length ∧ ∀ i, i < D.1.length → ∃ v, cb[i]? = some v ∧ PieceV g (pieces D) i v) ∧
    ∃ cw, Blk w hw 55 cw ∧ cw.size = D.2.length * 2 ∧ ∀ i, i < D.2.length → cw[i * 2]? = some (.int .i64 (wr_ D.2 i).1) ∧ ∃ v, cw[i * 2 + 1]? = some v ∧ PieceV g (pieces D) (D.1.length + i) v
theorem piece_bsl {w : World} {g T n i : Nat} {P : List (List UInt8)} {v : Value} (h : PieceV g P i v) (hg : Blk w g 5 (ar (roomP P T n))) (hi : i < n) (hn : n ≤ P.length) (hl : (P.getD i []).length ≤ maxLen) :
    ∃ A c, v = .slice A (P.getD i []).length c ∧ Bsl w w.heap.size A (P.getD i []).length c (P.getD i []) := by
  obtain ⟨o, rfl, ho⟩ := h
  refine ⟨_, _, rfl, rfl, Nat.le_refl _, hl, fun e => (by cases e), fun h0 => ⟨g, o, rfl, hg.lt, fun j hj => ?_⟩⟩
  rw [ho h0, hg.cell, ar, List.getElem?_toArray, vals, List.getElem?_map, room_get hi hn hj, List.getElem?_eq_getElem hj]
  rfl
theorem Laid.dsk {w : World} {lo : Nat} {x : DAt} {D : DkL} (h : Laid w lo x D) : Dsk w w.heap.size x D := by
  obtain ⟨g, hb, hw, rfl, _, _, _, h1, h2, h3, h4, h5, ⟨cb, h6, h7, h8⟩, cw, h9, h10, h11⟩ := h
  have hP := pieces_length D
  have hsum : ∀ i, i < D.1.length + D.2.length → ((pieces D).getD i []).length ≤ maxLen := fun i hi => by
    have e1 := startP_succ (P := pieces D) (show i < (pieces D).length by omega)
    have e2 := startP_mono (P := pieces D) (show i + 1 ≤ D.1.length + D.2.length by omega)
    rw [startP_sumD] at e2
    unfold maxLen
    omega
  refine ⟨⟨rfl, Nat.le_refl _, by unfold maxLen; show D.1.length ≤ _; omega, fun h0 => ⟨hb, 0, rfl, h6.lt, fun i hi => ?_⟩⟩, rfl, Nat.le_refl _, by unfold maxLen; show D.2.length ≤ _; omega, fun h0 => ⟨hw, 0, rfl, h9.lt, fun i hi => ?_⟩⟩
  · obtain ⟨v, e1, e2⟩ := h8 i hi
    obtain ⟨A, c, e3, e4⟩ := piece_bsl e2 h5 (by omega) (by omega) (hsum i (by omega))
    rw [pieces_left hi] at e3 e4
    exact ⟨A, c, by rw [Nat.zero_add, h6.cell, e1, e3], e4⟩
  · obtain ⟨e0, v, e1, e2⟩ := h11 i hi
    obtain ⟨A, c, e3, e4⟩ := piece_bsl e2 h5 (by omega) (by omega) (hsum _ (by omega))
    rw [pieces_right hi] at e3 e4
    refine ⟨h4 i hi, by rw [Nat.zero_add, h9.cell, e0], A, c, by rw [Nat.zero_add, h9.cell, e1, e3], e4⟩
/-- Two stores beside it. -/
theorem laid_far {w : World} {lo lo' g : Nat} {x : DAt} {D : DkL} (h : Laid w lo x D) (hg : g < lo) (hl : lo' ≤ lo) (u v : Value) : Laid ((w.setCell ⟨g, 0, none⟩ u).setCell ⟨g, 1, none⟩ v) lo' x D := by
  obtain ⟨r, hb, hw, h0, k1, k2, k3, h1, h2, h3, h4, h5, ⟨cb, h6, h7⟩, cw, h9, h10⟩ := h
  exact ⟨r, hb, hw, h0, by omega, by omega, by omega, h1, h2, h3, h4, (h5.far (by show r ≠ g; omega) _).far (by show r ≠ g; omega) _, ⟨cb, (h6.far (by show hb ≠ g; omega) _).far (by show hb ≠ g; omega) _, h7⟩, cw, (h9.far (by show hw ≠ g; omega) _).far (by show hw ≠ g; omega) _, h10⟩
theorem Laid.below {w w' : World} {lo : Nat} {x : DAt} {D : DkL} (h : Laid w lo x D) (hb' : Below w.heap.size w w') : Laid w' lo x D := by
  obtain ⟨r, hb, hw, h0, k1, k2, k3, h1, h2, h3, h4, h5, ⟨cb, h6, h7⟩, cw, h9, h10⟩ := h
  exact ⟨r, hb, hw, h0, k1, k2, k3, h1, h2, h3, h4, h5.below hb' h5.lt, ⟨cb, h6.below hb' h6.lt, h7⟩, cw, h9.below hb' h9.lt, h10⟩
theorem Laid.lower {w : World} {lo lo' : Nat} {x : DAt} {D : DkL} (h : Laid w lo x D) (hl : lo' ≤ lo) : Laid w lo' x D := by
  obtain ⟨r, hb, hw, h0, k1, k2, k3, h1⟩ := h
  exact ⟨r, hb, hw, h0, by omega, by omega, by omega, h1⟩
/-- A round: a block is cut off and put in its place. -/
theorem LaidI.block {g gd hb hw gv o B0 k : Nat} {D : DkL} {T : Nat} {w0 w w' : World} {s : List UInt8} {e : Ending} (h : LaidI g gd hb hw D T k w) (hk : k < D.1.length) (hs : (pieces D).getD k [] = s) (hT : startP (pieces D) (k + 1) ≤ T)
    (ho : 0 < T - startP (pieces D) k → o = startP (pieces D) k) (hvb : gv ≠ hb) (hB : Below B0 w0 w) (hBg : B0 ≤ g) (hBv : B0 ≤ gv) (hBb : B0 ≤ hb) (hr : Blk w gv 30 #[.slice (some ⟨g, o, none⟩) (T - startP (pieces D) k) (T - startP (pieces D) k)])
    (hc : CutPost gv g o (T - startP (pieces D) k) s.length (roomP (pieces D) T k) s w e w') :
    Blk w' gd 25 #[.slice (some ⟨hb, 0, none⟩) D.1.length D.1.length, .slice (some ⟨hw, 0, none⟩) D.2.length D.2.length] ∧ (∃ cb, Blk w' hb 30 cb ∧ cb.size = D.1.length) ∧
    LaidI g gd hb hw D T (k + 1) (w'.setCell ⟨hb, k, none⟩ (.slice (some ⟨g, o, none⟩) s.length s.length)) ∧ RoomI g gv T (startP (pieces D) (k + 1)) (w'.setCell ⟨hb, k, none⟩ (.slice (some ⟨g, o, none⟩) s.length s.length)) ∧
    Below B0 w0 (w'.setCell ⟨hb, k, none⟩ (.slice (some ⟨g, o, none⟩) s.length s.length)) := by
  obtain ⟨h1, h2, ⟨cb, h3, h4, h5⟩, cw, h6, h7, h8⟩ := h
  obtain ⟨_, hz, ⟨o', c1, c2⟩, c3, w1, g1, g2⟩ := hc
  have hkP : k < (pieces D).length := by rw [pieces_length]; omega
  have hst := startP_succ hkP
  rw [hs] at hst
  have n1 : gd ≠ gv := h1.ne hr (by decide)
  have n2 : gd ≠ g := h1.ne h2 (by decide)
  have n3 : hb ≠ g := h3.ne h2 (by decide)
  have n4 : hw ≠ gv := h6.ne hr (by decide)
  have n5 : hw ≠ g := h6.ne h2 (by decide)
  have n6 : hw ≠ hb := h6.ne h3 (by decide)
  have n7 : gd ≠ hb := h1.ne h3 (by decide)
  have x1 := (h1.grown g1 (fun e => n1 (Option.some.inj e))).grown g2 (fun e => n2 (Option.some.inj e))
  have x3 := (h3.grown g1 (fun e => hvb (Option.some.inj e).symm)).grown g2 (fun e => n3 (Option.some.inj e))
  have x6 := (h6.grown g1 (fun e => n4 (Option.some.inj e))).grown g2 (fun e => n5 (Option.some.inj e))
  have hB1 : Below B0 w0 w' := below_only (below_only hB hBv g1 (by have := hr.lt; omega)) hBg g2 (by have := g1.size; have := hr.lt; omega)
  have hroom : (if s.length = 0 then roomP (pieces D) T k else overL (roomP (pieces D) T k) o s) = roomP (pieces D) T (k + 1) := by
    split
    · rename_i h0
      exact room_same hkP (by rw [hs]; exact h0)
    · rename_i h0
      rw [ho (by omega), ← hs]
      exact room_step hkP hT
  rw [hroom] at c3
  refine ⟨x1, ⟨cb, x3, h4⟩, ⟨x1.far (by simpa using n7) _, c3.far (by simpa using n3.symm) _, ⟨_, x3.set_ k _, by simpa using h4, fun i hi hik => ?_⟩, cw, x6.far (by simpa using n6) _, h7, fun i hi hik => absurd hik (by omega)⟩, ⟨o', ?_, fun hh => ?_⟩, hB1.setCell (p := ⟨hb, k, none⟩) hBb _⟩
  · rcases Nat.lt_or_ge i k with h9 | h9
    · obtain ⟨v, e1, e2⟩ := h5 i hi h9
      exact ⟨v, by rw [Array.getElem?_setIfInBounds, if_neg (by omega)]; exact e1, e2⟩
    · obtain rfl : i = k := by omega
      refine ⟨_, by rw [Array.getElem?_setIfInBounds, if_pos rfl, if_pos (by omega)], o, by rw [hs], fun hh => ho (by rw [hs] at hh; omega)⟩
  · have e : T - startP (pieces D) (k + 1) = T - startP (pieces D) k - s.length := by omega
    rw [e]
    exact c1.far (by simpa using hvb) _
  · rw [c2 (by omega), ho (by omega), hst]
/-- A round: a write is put in its place. -/
theorem LaidI.write {g gd hb hw gv o B0 k j : Nat} {D : DkL} {T : Nat} {w0 w w' : World} {s : List UInt8} {p : Int} {e : Ending} (h : LaidI g gd hb hw D T k w) (hk : k = D.1.length + j) (hj : j < D.2.length) (hs : wr_ D.2 j = (p, s)) (hT : startP (pieces D) (k + 1) ≤ T)
    (ho : 0 < T - startP (pieces D) k → o = startP (pieces D) k) (hvb : gv ≠ hb) (hB : Below B0 w0 w) (hBg : B0 ≤ g) (hBv : B0 ≤ gv) (hBw : B0 ≤ hw) (hr : Blk w gv 30 #[.slice (some ⟨g, o, none⟩) (T - startP (pieces D) k) (T - startP (pieces D) k)])
    (hc : CutPost gv g o (T - startP (pieces D) k) s.length (roomP (pieces D) T k) s w e w') :
    Blk w' gd 25 #[.slice (some ⟨hb, 0, none⟩) D.1.length D.1.length, .slice (some ⟨hw, 0, none⟩) D.2.length D.2.length] ∧ (∃ cw, Blk w' hw 55 cw ∧ cw.size = D.2.length * 2) ∧
    LaidI g gd hb hw D T (k + 1) ((w'.setCell ⟨hw, j * 2, none⟩ (.int .i64 p)).setCell ⟨hw, j * 2 + 1, none⟩ (.slice (some ⟨g, o, none⟩) s.length s.length)) ∧
    RoomI g gv T (startP (pieces D) (k + 1)) ((w'.setCell ⟨hw, j * 2, none⟩ (.int .i64 p)).setCell ⟨hw, j * 2 + 1, none⟩ (.slice (some ⟨g, o, none⟩) s.length s.length)) ∧
    Below B0 w0 ((w'.setCell ⟨hw, j * 2, none⟩ (.int .i64 p)).setCell ⟨hw, j * 2 + 1, none⟩ (.slice (some ⟨g, o, none⟩) s.length s.length)) := by
  obtain ⟨h1, h2, ⟨cb, h3, h4, h5⟩, cw, h6, h7, h8⟩ := h
  obtain ⟨_, hz, ⟨o', c1, c2⟩, c3, w1, g1, g2⟩ := hc
  subst hk
  have hkP : D.1.length + j < (pieces D).length := by rw [pieces_length]; omega
  have hps : (pieces D).getD (D.1.length + j) [] = s := by rw [pieces_right hj, hs]
  have hst := startP_succ hkP
  rw [hps] at hst
  have n1 : gd ≠ gv := h1.ne hr (by decide)
  have n2 : gd ≠ g := h1.ne h2 (by decide)
  have n3 : hb ≠ g := h3.ne h2 (by decide)
  have n4 : hw ≠ gv := h6.ne hr (by decide)
  have n5 : hw ≠ g := h6.ne h2 (by decide)
  have n6 : hw ≠ hb := h6.ne h3 (by decide)
  have n7 : gd ≠ hw := h1.ne h6 (by decide)
  have x1 := (h1.grown g1 (fun e => n1 (Option.some.inj e))).grown g2 (fun e => n2 (Option.some.inj e))
  have x3 := (h3.grown g1 (fun e => hvb (Option.some.inj e).symm)).grown g2 (fun e => n3 (Option.some.inj e))
  have x6 := (h6.grown g1 (fun e => n4 (Option.some.inj e))).grown g2 (fun e => n5 (Option.some.inj e))
  have hB1 : Below B0 w0 w' := below_only (below_only hB hBv g1 (by have := hr.lt; omega)) hBg g2 (by have := g1.size; have := hr.lt; omega)
  have hroom : (if s.length = 0 then roomP (pieces D) T (D.1.length + j) else overL (roomP (pieces D) T (D.1.length + j)) o s) = roomP (pieces D) T (D.1.length + j + 1) := by
    split
    · rename_i h0
      exact room_same hkP (by rw [hps]; exact h0)
    · rename_i h0
      rw [ho (by omega), ← hps]
      exact room_step hkP hT
  rw [hroom] at c3
  refine ⟨x1, ⟨cw, x6, h7⟩, ⟨(x1.far (by simpa using n7) _).far (by simpa using n7) _, (c3.far (by simpa using n5.symm) _).far (by simpa using n5.symm) _, ⟨cb, (x3.far (by simpa using n6.symm) _).far (by simpa using n6.symm) _, h4, fun i hi hik => h5 i hi (by omega)⟩, _, (x6.set_ _ _).set_ _ _, by simpa using h7, fun i hi hik => ?_⟩, ⟨o', ?_, fun hh => ?_⟩, (hB1.setCell (p := ⟨hw, j * 2, none⟩) hBw _).setCell (p := ⟨hw, j * 2 + 1, none⟩) hBw _⟩
  · rcases Nat.lt_or_ge i j with h9 | h9
    · obtain ⟨e0, v, e1, e2⟩ := h8 i hi (by omega)
      refine ⟨?_, v, ?_, e2⟩
      · rw [Array.getElem?_setIfInBounds, if_neg (by omega), Array.getElem?_setIfInBounds, if_neg (by omega)]
        exact e0
      · rw [Array.getElem?_setIfInBounds, if_neg (by omega), Array.getElem?_setIfInBounds, if_neg (by omega)]
        exact e1
    · obtain rfl : i = j := by omega
      refine ⟨?_, _, ?_, o, by rw [hps], fun hh => ho (by rw [hps] at hh; omega)⟩
      · rw [Array.getElem?_setIfInBounds, if_neg (by omega), Array.getElem?_setIfInBounds, if_pos rfl, if_pos (by omega), hs]
      · rw [Array.getElem?_setIfInBounds, if_pos rfl, if_pos (by simp; omega)]
  · have e : T - startP (pieces D) (D.1.length + j + 1) = T - startP (pieces D) (D.1.length + j) - s.length := by omega
    rw [e]
    exact (c1.far (by simpa using n4.symm) _).far (by simpa using n4.symm) _
  · rw [c2 (by omega), ho (by omega), hst]
end Go.Proofs.Ytgpojnhhcobcbaa
