/-
  Texts of one seat, one behind the other.
-/
import Derived.Deep.CutRange
import Derived.Deep.DeepCutAuto
import Derived.RegionTactic
import Derived.Deep.RegionWith
import Derived.Laws.BitsAllLaws
import Derived.StillTailTactics
import Derived.Outline
import Derived.Deep.RegionHeld3
import Derived.Laws.CopyOwn
import Derived.Maps.OwnSet
import Derived.Maps.Views
import Derived.Carry
import Derived.IntWalk
import Derived.Deep.RegionLaw
import Derived.Lib.AppendZeros
import Derived.Test.YtafbidhbmfdlkaaGreatDoorPkMN1
/-
  dev.laid lays a disk in new memory, in one piece.
-/
namespace Go.Proofs.YtafbidhbmfdlkaaGreatDoor
open Go.RowKit Go.Shelf
set_option maxRecDepth 100000

theorem Blk.ne {w : World} {a b : Nat} {t t' : TypeId} {cs cs' : Array Value} (h : Blk w a t cs) (h' : Blk w b t' cs') (ht : t ≠ t') : a ≠ b := by
  rintro rfl
  unfold Blk at h h'
  rw [h] at h'
  cases h'
  exact ht rfl
/-- The value of the piece of number i. -/
def PieceV (g : Nat) (P : List (List UInt8)) (i : Nat) (v : Value) : Prop := ∃ o, v = .slice (some ⟨g, o, none⟩) (P.getD i []).length (P.getD i []).length ∧ (0 < (P.getD i []).length → o = startP P i)
/-- A disk whose first k pieces are laid. -/
def LaidI (g gd hb hw : Nat) (D : DkL) (T k : Nat) (w : World) : Prop :=
  Blk w gd 25 #[.slice (some ⟨hb, 0, none⟩) D.1.length D.1.length, .slice (some ⟨hw, 0, none⟩) D.2.length D.2.length] ∧
  Blk w g 5 (ar (roomP (pieces D) T k)) ∧
  (∃ cb, Blk w hb 26 cb ∧ cb.size = D.1.length ∧ ∀ i, i < D.1.length → i < k → ∃ v, cb[i]? = some v ∧ PieceV g (pieces D) i v) ∧
  ∃ cw, Blk w hw 53 cw ∧ cw.size = D.2.length * 2 ∧ ∀ i, i < D.2.length → D.1.length + i < k → cw[i * 2]? = some (.int .i64 (wr_ D.2 i).1) ∧ ∃ v, cw[i * 2 + 1]? = some v ∧ PieceV g (pieces D) (D.1.length + i) v
/-- The room that is left. -/
def RoomI (g gv T u : Nat) (w : World) : Prop := ∃ o, Blk w gv 26 #[.slice (some ⟨g, o, none⟩) (T - u) (T - u)] ∧ (0 < T - u → o = u)
/-- A disk laid in one piece, all of it at block lo or behind. -/
def Laid (w : World) (lo : Nat) (x : DAt) (D : DkL) : Prop :=
  ∃ g hb hw, x = ⟨some ⟨hb, 0, none⟩, D.1.length, some ⟨hw, 0, none⟩, D.2.length⟩ ∧ lo ≤ g ∧ lo ≤ hb ∧ lo ≤ hw ∧ D.1.length ≤ 1000000 ∧ D.2.length ≤ 1000000 ∧ sumD D ≤ 1000000000000 ∧
    (∀ i, i < D.2.length → (Lit.int .i64 (wr_ D.2 i).1).wf = true) ∧ Blk w g 5 (ar (roomP (pieces D) (sumD D) (D.1.length + D.2.length))) ∧
    (∃ cb, Blk w hb 26 cb ∧ cb.size = D.1.length ∧ ∀ i, i < D.1.length → ∃ v, cb[i]? = some v ∧ PieceV g (pieces D) i v) ∧
    ∃ cw, Blk w hw 53 cw ∧ cw.size = D.2.length * 2 ∧ ∀ i, i < D.2.length → cw[i * 2]? = some (.int .i64 (wr_ D.2 i).1) ∧ ∃ v, cw[i * 2 + 1]? = some v ∧ PieceV g (pieces D) (D.1.length + i) v
theorem piece_bsl {w : World} {g T n i : Nat} {P : List (List UInt8)} {v : Value} (h : PieceV g P i v) (hg : Blk w g 5 (ar (roomP P T n))) (hi : i < n) (hn : n ≤ P.length) (hl : (P.getD i []).length ≤ maxLen) :
    ∃ A c, v = .slice A (P.getD i []).length c ∧ Bsl w w.heap.size A (P.getD i []).length c (P.getD i []) := by
  obtain ⟨o, rfl, ho⟩ := h
  refine ⟨_, _, rfl, rfl, Nat.le_refl _, hl, fun e => (by cases e), fun h0 => ⟨g, o, rfl, hg.lt, fun j hj => ?_⟩⟩
  rw [ho h0, hg.cell, ar, List.getElem?_toArray, vals, List.getElem?_map, room_get hi hn hj, List.getElem?_eq_getElem hj]
  rfl
theorem Laid.dsk {w : World} {lo : Nat} {x : DAt} {D : DkL} (h : Laid w lo x D) : Dsk w w.heap.size x D := by
  obtain ⟨g, hb, hw, rfl, _, _, _, h1, h2, h3, h4, h5, ⟨cb, h6, h7, h8⟩, cw, h9, h10, h11⟩ := h
  have hP := pieces_length D
  have hsum : ∀ i, i < D.1.length + D.2.length → ((pieces D).getD i []).length ≤ maxLen := fun i hi => by
    have e1 := startP_succ (P := pieces D) (show i < (pieces D).length by omega)
    have e2 := startP_mono (P := pieces D) (show i + 1 ≤ D.1.length + D.2.length by omega)
    rw [startP_sumD] at e2
    unfold maxLen
    omega
  refine ⟨⟨rfl, Nat.le_refl _, by unfold maxLen; show D.1.length ≤ _; omega, fun h0 => ⟨hb, 0, rfl, h6.lt, fun i hi => ?_⟩⟩, rfl, Nat.le_refl _, by unfold maxLen; show D.2.length ≤ _; omega, fun h0 => ⟨hw, 0, rfl, h9.lt, fun i hi => ?_⟩⟩
  · obtain ⟨v, e1, e2⟩ := h8 i hi
    obtain ⟨A, c, e3, e4⟩ := piece_bsl e2 h5 (by omega) (by omega) (hsum i (by omega))
    rw [pieces_left hi] at e3 e4
    exact ⟨A, c, by rw [Nat.zero_add, h6.cell, e1, e3], e4⟩
  · obtain ⟨e0, v, e1, e2⟩ := h11 i hi
    obtain ⟨A, c, e3, e4⟩ := piece_bsl e2 h5 (by omega) (by omega) (hsum _ (by omega))
    rw [pieces_right hi] at e3 e4
    refine ⟨h4 i hi, by rw [Nat.zero_add, h9.cell, e0], A, c, by rw [Nat.zero_add, h9.cell, e1, e3], e4⟩
/-- Two stores beside it. -/
theorem laid_far {w : World} {lo lo' g : Nat} {x : DAt} {D : DkL} (h : Laid w lo x D) (hg : g < lo) (hl : lo' ≤ lo) (u v : Value) : Laid ((w.setCell ⟨g, 0, none⟩ u).setCell ⟨g, 1, none⟩ v) lo' x D := by
  obtain ⟨r, hb, hw, h0, k1, k2, k3, h1, h2, h3, h4, h5, ⟨cb, h6, h7⟩, cw, h9, h10⟩ := h
  exact ⟨r, hb, hw, h0, by omega, by omega, by omega, h1, h2, h3, h4, (h5.far (by show r ≠ g; omega) _).far (by show r ≠ g; omega) _, ⟨cb, (h6.far (by show hb ≠ g; omega) _).far (by show hb ≠ g; omega) _, h7⟩, cw, (h9.far (by show hw ≠ g; omega) _).far (by show hw ≠ g; omega) _, h10⟩
theorem Laid.below {w w' : World} {lo : Nat} {x : DAt} {D : DkL} (h : Laid w lo x D) (hb' : Below w.heap.size w w') : Laid w' lo x D := by
  obtain ⟨r, hb, hw, h0, k1, k2, k3, h1, h2, h3, h4, h5, ⟨cb, h6, h7⟩, cw, h9, h10⟩ := h
  exact ⟨r, hb, hw, h0, k1, k2, k3, h1, h2, h3, h4, h5.below hb' h5.lt, ⟨cb, h6.below hb' h6.lt, h7⟩, cw, h9.below hb' h9.lt, h10⟩
theorem Laid.lower {w : World} {lo lo' : Nat} {x : DAt} {D : DkL} (h : Laid w lo x D) (hl : lo' ≤ lo) : Laid w lo' x D := by
  obtain ⟨r, hb, hw, h0, k1, k2, k3, h1⟩ := h
  exact ⟨r, hb, hw, h0, by omega, by omega, by omega, h1⟩
/-- A round: a block is cut off and put in its place. -/
theorem LaidI.block {g gd hb hw gv o B0 k : Nat} {D : DkL} {T : Nat} {w0 w w' : World} {s : List UInt8} {e : Ending} (h : LaidI g gd hb hw D T k w) (hk : k < D.1.length) (hs : (pieces D).getD k [] = s) (hT : startP (pieces D) (k + 1) ≤ T)
    (ho : 0 < T - startP (pieces D) k → o = startP (pieces D) k) (hvb : gv ≠ hb) (hB : Below B0 w0 w) (hBg : B0 ≤ g) (hBv : B0 ≤ gv) (hBb : B0 ≤ hb) (hr : Blk w gv 26 #[.slice (some ⟨g, o, none⟩) (T - startP (pieces D) k) (T - startP (pieces D) k)])
    (hc : CutPost gv g o (T - startP (pieces D) k) s.length (roomP (pieces D) T k) s w e w') :
    Blk w' gd 25 #[.slice (some ⟨hb, 0, none⟩) D.1.length D.1.length, .slice (some ⟨hw, 0, none⟩) D.2.length D.2.length] ∧ (∃ cb, Blk w' hb 26 cb ∧ cb.size = D.1.length) ∧
    LaidI g gd hb hw D T (k + 1) (w'.setCell ⟨hb, k, none⟩ (.slice (some ⟨g, o, none⟩) s.length s.length)) ∧ RoomI g gv T (startP (pieces D) (k + 1)) (w'.setCell ⟨hb, k, none⟩ (.slice (some ⟨g, o, none⟩) s.length s.length)) ∧
    Below B0 w0 (w'.setCell ⟨hb, k, none⟩ (.slice (some ⟨g, o, none⟩) s.length s.length)) := by
  obtain ⟨h1, h2, ⟨cb, h3, h4, h5⟩, cw, h6, h7, h8⟩ := h
  obtain ⟨_, hz, ⟨o', c1, c2⟩, c3, w1, g1, g2⟩ := hc
  have hkP : k < (pieces D).length := by rw [pieces_length]; omega
  have hst := startP_succ hkP
  rw [hs] at hst
  have n1 : gd ≠ gv := h1.ne hr (by decide)
  have n2 : gd ≠ g := h1.ne h2 (by decide)
  have n3 : hb ≠ g := h3.ne h2 (by decide)
  have n4 : hw ≠ gv := h6.ne hr (by decide)
  have n5 : hw ≠ g := h6.ne h2 (by decide)
  have n6 : hw ≠ hb := h6.ne h3 (by decide)
  have n7 : gd ≠ hb := h1.ne h3 (by decide)
  have x1 := (h1.grown g1 (fun e => n1 (Option.some.inj e))).grown g2 (fun e => n2 (Option.some.inj e))
  have x3 := (h3.grown g1 (fun e => hvb (Option.some.inj e).symm)).grown g2 (fun e => n3 (Option.some.inj e))
  have x6 := (h6.grown g1 (fun e => n4 (Option.some.inj e))).grown g2 (fun e => n5 (Option.some.inj e))
  have hB1 : Below B0 w0 w' := below_only (below_only hB hBv g1 (by have := hr.lt; omega)) hBg g2 (by have := g1.size; have := hr.lt; omega)
  have hroom : (if s.length = 0 then roomP (pieces D) T k else overL (roomP (pieces D) T k) o s) = roomP (pieces D) T (k + 1) := by
    split
    · rename_i h0
      exact room_same hkP (by rw [hs]; exact h0)
    · rename_i h0
      rw [ho (by omega), ← hs]
      exact room_step hkP hT
  rw [hroom] at c3
  refine ⟨x1, ⟨cb, x3, h4⟩, ⟨x1.far (by simpa using n7) _, c3.far (by simpa using n3.symm) _, ⟨_, x3.set_ k _, by simpa using h4, fun i hi hik => ?_⟩, cw, x6.far (by simpa using n6) _, h7, fun i hi hik => absurd hik (by omega)⟩, ⟨o', ?_, fun hh => ?_⟩, hB1.setCell (p := ⟨hb, k, none⟩) hBb _⟩
  · rcases Nat.lt_or_ge i k with h9 | h9
    · obtain ⟨v, e1, e2⟩ := h5 i hi h9
      exact ⟨v, by rw [Array.getElem?_setIfInBounds, if_neg (by omega)]; exact e1, e2⟩
    · obtain rfl : i = k := by omega
      refine ⟨_, by rw [Array.getElem?_setIfInBounds, if_pos rfl, if_pos (by omega)], o, by rw [hs], fun hh => ho (by rw [hs] at hh; omega)⟩
  · have e : T - startP (pieces D) (k + 1) = T - startP (pieces D) k - s.length := by omega
    rw [e]
    exact c1.far (by simpa using hvb) _
  · rw [c2 (by omega), ho (by omega), hst]
/-- A round: a write is put in its place. -/
theorem LaidI.write {g gd hb hw gv o B0 k j : Nat} {D : DkL} {T : Nat} {w0 w w' : World} {s : List UInt8} {p : Int} {e : Ending} (h : LaidI g gd hb hw D T k w) (hk : k = D.1.length + j) (hj : j < D.2.length) (hs : wr_ D.2 j = (p, s)) (hT : startP (pieces D) (k + 1) ≤ T)
    (ho : 0 < T - startP (pieces D) k → o = startP (pieces D) k) (hvb : gv ≠ hb) (hB : Below B0 w0 w) (hBg : B0 ≤ g) (hBv : B0 ≤ gv) (hBw : B0 ≤ hw) (hr : Blk w gv 26 #[.slice (some ⟨g, o, none⟩) (T - startP (pieces D) k) (T - startP (pieces D) k)])
    (hc : CutPost gv g o (T - startP (pieces D) k) s.length (roomP (pieces D) T k) s w e w') :
    Blk w' gd 25 #[.slice (some ⟨hb, 0, none⟩) D.1.length D.1.length, .slice (some ⟨hw, 0, none⟩) D.2.length D.2.length] ∧ (∃ cw, Blk w' hw 53 cw ∧ cw.size = D.2.length * 2) ∧
    LaidI g gd hb hw D T (k + 1) ((w'.setCell ⟨hw, j * 2, none⟩ (.int .i64 p)).setCell ⟨hw, j * 2 + 1, none⟩ (.slice (some ⟨g, o, none⟩) s.length s.length)) ∧
    RoomI g gv T (startP (pieces D) (k + 1)) ((w'.setCell ⟨hw, j * 2, none⟩ (.int .i64 p)).setCell ⟨hw, j * 2 + 1, none⟩ (.slice (some ⟨g, o, none⟩) s.length s.length)) ∧
    Below B0 w0 ((w'.setCell ⟨hw, j * 2, none⟩ (.int .i64 p)).setCell ⟨hw, j * 2 + 1, none⟩ (.slice (some ⟨g, o, none⟩) s.length s.length)) := by
  obtain ⟨h1, h2, ⟨cb, h3, h4, h5⟩, cw, h6, h7, h8⟩ := h
  obtain ⟨_, hz, ⟨o', c1, c2⟩, c3, w1, g1, g2⟩ := hc
  subst hk
  have hkP : D.1.length + j < (pieces D).length := by rw [pieces_length]; omega
  have hps : (pieces D).getD (D.1.length + j) [] = s := by rw [pieces_right hj, hs]
  have hst := startP_succ hkP
  rw [hps] at hst
  have n1 : gd ≠ gv := h1.ne hr (by decide)
  have n2 : gd ≠ g := h1.ne h2 (by decide)
  have n3 : hb ≠ g := h3.ne h2 (by decide)
  have n4 : hw ≠ gv := h6.ne hr (by decide)
  have n5 : hw ≠ g := h6.ne h2 (by decide)
  have n6 : hw ≠ hb := h6.ne h3 (by decide)
  have n7 : gd ≠ hw := h1.ne h6 (by decide)
  have x1 := (h1.grown g1 (fun e => n1 (Option.some.inj e))).grown g2 (fun e => n2 (Option.some.inj e))
  have x3 := (h3.grown g1 (fun e => hvb (Option.some.inj e).symm)).grown g2 (fun e => n3 (Option.some.inj e))
  have x6 := (h6.grown g1 (fun e => n4 (Option.some.inj e))).grown g2 (fun e => n5 (Option.some.inj e))
  have hB1 : Below B0 w0 w' := below_only (below_only hB hBv g1 (by have := hr.lt; omega)) hBg g2 (by have := g1.size; have := hr.lt; omega)
  have hroom : (if s.length = 0 then roomP (pieces D) T (D.1.length + j) else overL (roomP (pieces D) T (D.1.length + j)) o s) = roomP (pieces D) T (D.1.length + j + 1) := by
    split
    · rename_i h0
      exact room_same hkP (by rw [hps]; exact h0)
    · rename_i h0
      rw [ho (by omega), ← hps]
      exact room_step hkP hT
  rw [hroom] at c3
  refine ⟨x1, ⟨cw, x6, h7⟩, ⟨(x1.far (by simpa using n7) _).far (by simpa using n7) _, (c3.far (by simpa using n5.symm) _).far (by simpa using n5.symm) _, ⟨cb, (x3.far (by simpa using n6.symm) _).far (by simpa using n6.symm) _, h4, fun i hi hik => h5 i hi (by omega)⟩, _, (x6.set_ _ _).set_ _ _, by simpa using h7, fun i hi hik => ?_⟩, ⟨o', ?_, fun hh => ?_⟩, (hB1.setCell (p := ⟨hw, j * 2, none⟩) hBw _).setCell (p := ⟨hw, j * 2 + 1, none⟩) hBw _⟩
  · rcases Nat.lt_or_ge i j with h9 | h9
    · obtain ⟨e0, v, e1, e2⟩ := h8 i hi (by omega)
      refine ⟨?_, v, ?_, e2⟩
      · rw [Array.getElem?_setIfInBounds, if_neg (by omega), Array.getElem?_setIfInBounds, if_neg (by omega)]
        exact e0
      · rw [Array.getElem?_setIfInBounds, if_neg (by omega), Array.getElem?_setIfInBounds, if_neg (by omega)]
        exact e1
    · obtain rfl : i = j := by omega
      refine ⟨?_, _, ?_, o, by rw [hps], fun hh => ho (by rw [hps] at hh; omega)⟩
      · rw [Array.getElem?_setIfInBounds, if_neg (by omega), Array.getElem?_setIfInBounds, if_pos rfl, if_pos (by omega), hs]
      · rw [Array.getElem?_setIfInBounds, if_pos rfl, if_pos (by simp; omega)]
  · have e : T - startP (pieces D) (D.1.length + j + 1) = T - startP (pieces D) (D.1.length + j) - s.length := by omega
    rw [e]
    exact (c1.far (by simpa using n4.symm) _).far (by simpa using n4.symm) _
  · rw [c2 (by omega), ho (by omega), hst]
end Go.Proofs.YtafbidhbmfdlkaaGreatDoor
/-
  dev.laid, whatever disk it is handed, answers a disk that reads as it does, laid in one piece of new memory; nothing that was there is written.
-/
namespace Go.Proofs.YtafbidhbmfdlkaaGreatDoor
open Go.RowKit Go.Shelf
set_option maxRecDepth 100000

theorem below_alloc2' (w : World) (o1 o2 : Obj) : Below w.heap.size w ((w.alloc o1).alloc o2) := ((Below.refl _ w).alloc (Nat.le_refl _) _).alloc (by simp) _
theorem blk3_0 (w : World) (t : TypeId) (cs : Array Value) (o2 o3 : Obj) : Blk (((w.alloc (.cells cs t)).alloc o2).alloc o3) w.heap.size t cs := ((Blk.new w t cs).alloc _).alloc _
theorem blk3_1 (w : World) (t : TypeId) (cs : Array Value) (o1 o3 : Obj) : Blk (((w.alloc o1).alloc (.cells cs t)).alloc o3) (w.heap.size + 1) t cs := by
  have := (Blk.new (w.alloc o1) t cs).alloc o3
  rwa [World.size_alloc] at this
theorem blk3_2 (w : World) (t : TypeId) (cs : Array Value) (o1 o2 : Obj) : Blk (((w.alloc o1).alloc o2).alloc (.cells cs t)) (w.heap.size + 1 + 1) t cs := by
  have := Blk.new ((w.alloc o1).alloc o2) t cs
  rwa [World.size_alloc, World.size_alloc] at this
/-- What laid answers: the disk, in one new piece. -/
def LaidPost (D : DkL) (w : World) (e : Ending) (w' : World) : Prop := ∃ x', e = .returned (dval x' D) ∧ Laid w' w.heap.size x' D ∧ Below w.heap.size w w'
set_option maxHeartbeats 4000000 in
theorem dLaid_any (x : DAt) (D : DkL) (w : World) (h : Dsk w w.heap.size x D) (hf : Fits D) :
    Calls Tryz.prog 10 #[.slice x.ba D.1.length x.bc, .slice x.wa D.2.length x.wc] w (LaidPost D w) := by
  have hmx : Tryz.prog.follows Departure.mixedOrders = true := by kernel_rfl
  have hby := dBytesOf_any x D
  obtain ⟨f1, f2, f3⟩ := hf
  obtain ⟨n, hn⟩ : ∃ n, D.1.length = n := ⟨_, rfl⟩
  obtain ⟨m, hm⟩ : ∃ m, D.2.length = m := ⟨_, rfl⟩
  obtain ⟨T, hT⟩ : ∃ T, sumD D = T := ⟨_, rfl⟩
  obtain ⟨ba, bc, wa, wc⟩ := x
  rw [hn, hm, hT] at hby
  rw [hn] at f1
  rw [hm] at f2
  rw [hT] at f3
  simp only [hn, hm]
  have mk1 := make_bytes T f3
  have mk2 := make_rows n f1
  have mk3 := make_writes m f2
  have n0 : (0 : Int) ≤ n := by omega
  have n1 : (n : Int) ≤ 1000000 := by omega
  have m0 : (0 : Int) ≤ m := by omega
  have m1 : (m : Int) ≤ 1000000 := by omega
  obtain ⟨B0, hB0⟩ : ∃ B0, w.heap.size + 1 = B0 := ⟨_, rfl⟩
  have b0 := (Below.refl w.heap.size w).alloc (Nat.le_refl _) (.cells #[.slice none 0 0, .slice none 0 0] 25)
  have z0 := World.size_alloc w (.cells #[.slice none 0 0, .slice none 0 0] 25)
  have x0 := Blk.new w 25 #[.slice none 0 0, .slice none 0 0]
  obtain ⟨w0, hw0⟩ : ∃ w0, w.alloc (.cells #[.slice none 0 0, .slice none 0 0] 25) = w0 := ⟨_, rfl⟩
  rw [hw0] at b0 z0 x0
  have hd0 := h.step b0
  have hy0 := hby w0 hd0 ⟨by rw [hn]; exact f1, by rw [hm]; exact f2, by rw [hT]; exact f3⟩
  have HY := Lib.hid hy0
  have HD := Lib.hid hd0
  have HB := Lib.hid b0
  have HZ := Lib.hid z0
  have HX := Lib.hid x0
  have HN := Lib.hid hn
  have HM := Lib.hid hm
  have HT := Lib.hid hT
  have HBB := Lib.hid hB0
  clear h hby hy0 hd0 b0 z0 x0 hn hm hT hB0
  go_enter Tryz.func10, Tryz.ntmps10
  go_wp2_with fail
  clear hw0
  refine HY.out.mono ?_
  rintro e w1 ⟨rfl, b1⟩
  have HB1 := Lib.hid b1
  clear b1 HY
  go_wp2_with fail
  obtain ⟨g, hg⟩ : ∃ g, w1.heap.size = g := ⟨_, rfl⟩
  have y1 := (Blk.new w1 5 (ar (List.replicate T 0))).alloc (.cells #[.slice (some ⟨w1.heap.size, 0, none⟩) T T] 26)
  have y2 := Blk.new (w1.alloc (.cells (ar (List.replicate T 0)) 5)) 26 #[.slice (some ⟨w1.heap.size, 0, none⟩) T T]
  have hz1 : B0 ≤ w1.heap.size := by have := HB1.out.size; have := HZ.out; have := HBB.out; omega
  have bd : Below B0 w0 ((w1.alloc (.cells (ar (List.replicate T 0)) 5)).alloc (.cells #[.slice (some ⟨w1.heap.size, 0, none⟩) T T] 26)) := by
    have hb := HB1.out
    rw [show w0.heap.size = B0 by have := HZ.out; have := HBB.out; omega] at hb
    exact (hb.alloc hz1 _).alloc (by rw [World.size_alloc]; omega) _
  have hzd : ((w1.alloc (.cells (ar (List.replicate T 0)) 5)).alloc (.cells #[.slice (some ⟨w1.heap.size, 0, none⟩) T T] 26)).heap.size = w1.heap.size + 2 := by simp
  rw [World.size_alloc] at y2
  rw [hg] at y1 y2 bd hzd hz1 ⊢
  obtain ⟨w2, hw2⟩ : ∃ w2, (w1.alloc (.cells (ar (List.replicate T 0)) 5)).alloc (.cells #[.slice (some ⟨g, 0, none⟩) T T] 26) = w2 := ⟨_, rfl⟩
  rw [hw2] at y1 y2 bd hzd ⊢
  have HY1 := Lib.hid y1
  have HY2 := Lib.hid y2
  have HBD := Lib.hid bd
  have HZD := Lib.hid hzd
  have HZ1 := Lib.hid hz1
  clear y1 y2 bd hzd hz1 hg hw2 HB1
  go_cut [7] from 17 to 23 (fun v wx => ∃ gd hb hw, v = .pointer (some ⟨gd, 0, none⟩) ∧ B0 ≤ hb ∧ B0 ≤ hw ∧ hb ≠ g + 1 ∧ B0 ≤ gd ∧
    Blk wx gd 25 #[.slice (some ⟨hb, 0, none⟩) n n, .slice (some ⟨hw, 0, none⟩) m m] ∧ Blk wx hb 26 (Array.replicate n (.slice none 0 0)) ∧ Blk wx hw 53 (noWrites m) ∧
    Blk wx g 5 (ar (List.replicate T 0)) ∧ Blk wx (g + 1) 26 #[.slice (some ⟨g, 0, none⟩) T T] ∧ Below B0 w0 wx)
  case first =>
    obtain ⟨wd, hwd⟩ : ∃ wd, w2.drew = wd := ⟨_, rfl⟩
    have y1 : Blk wd g 5 (ar (List.replicate T 0)) := by rw [← hwd]; exact HY1.out.drew
    have y2 : Blk wd (g + 1) 26 #[.slice (some ⟨g, 0, none⟩) T T] := by rw [← hwd]; exact HY2.out.drew
    have bd : Below B0 w0 wd := by rw [← hwd]; exact HBD.out.drew
    have hzd : wd.heap.size = g + 2 := by rw [← hwd]; exact HZD.out
    have HY1 := Lib.hid y1
    have HY2 := Lib.hid y2
    have HBD := Lib.hid bd
    have HZD := Lib.hid hzd
    clear y1 y2 bd hzd
    refine wpI_start (Below wd.heap.size wd) [0, 1, 3, 4, 2, 5, 7, 6, 8] hmx rfl hwd ?_
    clear hwd
    have hS : Below wd.heap.size wd wd := Below.refl _ _
    iterate 4 (
      refine wpI_read (v := ?_) hS rfl (by kernel_rfl) (by kernel_rfl) (by kernel_rfl) (fun _ _ _ h => h) (.inl ⟨by rfl, ?_⟩) ?_
      rotate_left
      · intro X hX
        go_simp
        with_reducible rfl
      try simp only [Act.put, List.setIfInBounds_toArray, List.set_cons_zero, List.set_cons_succ])
    refine wpI_fork3 rfl rfl rfl (by kernel_rfl) (fun K hK => ?_) (fun K hK => ?_) (fun K hK => ?_)
    all_goals
      go_simp
      refine hK _ _ (hS.alloc (Nat.le_refl _) _) ?_
      clear hK K
      try simp only [Act.put, List.setIfInBounds_toArray, List.set_cons_zero, List.set_cons_succ]
      refine wpI_fork rfl rfl (by kernel_rfl) (fun K hK => ?_) (fun K hK => ?_)
    all_goals
      go_simp
      refine hK _ _ (below_alloc2' _ _ _) ?_
      clear hK K
      try simp only [Act.put, List.setIfInBounds_toArray, List.set_cons_zero, List.set_cons_succ]
    all_goals
      first
        | (refine wpI_turn [6, 7, 8] rfl ?_
           refine wpI_read (v := ?_) (below_alloc2' _ _ _) rfl (by kernel_rfl) (by kernel_rfl) (by kernel_rfl) (fun _ _ _ h => h) (.inl ⟨by rfl, ?_⟩) ?_
           rotate_left
           · intro X hX
             go_simp
             with_reducible rfl
           try simp only [Act.put, List.setIfInBounds_toArray, List.set_cons_zero, List.set_cons_succ]
           refine wpI_lone rfl (by kernel_rfl) (fun K hK => ?_)
           go_simp
           refine hK _ _ (below_alloc3' _ _ _ _) ?_
           clear hK K
           try simp only [Act.put, List.setIfInBounds_toArray, List.set_cons_zero, List.set_cons_succ])
        | (refine wpI_lone rfl (by kernel_rfl) (fun K hK => ?_)
           go_simp
           refine hK _ _ (below_alloc3' _ _ _ _) ?_
           clear hK K
           try simp only [Act.put, List.setIfInBounds_toArray, List.set_cons_zero, List.set_cons_succ]
           refine wpI_read (v := ?_) (below_alloc3' _ _ _ _) rfl (by kernel_rfl) (by kernel_rfl) (by kernel_rfl) (fun _ _ _ h => h) (.inl ⟨by rfl, ?_⟩) ?_
           rotate_left
           · intro X hX
             go_simp
             with_reducible rfl
           try simp only [Act.put, List.setIfInBounds_toArray, List.set_cons_zero, List.set_cons_succ])
      refine wpI_lone rfl (by kernel_rfl) (fun K hK => ?_)
      go_simp
      refine hK _ _ (below_alloc3' _ _ _ _) ?_
      clear hK K
      try simp only [Act.put, List.setIfInBounds_toArray, List.set_cons_zero, List.set_cons_succ]
      refine wpI_done (by kernel_rfl) ?_
      go_wp2_with fail
      go_meet
      have hz := HZD.out
      have hz1 := HZ1.out
      refine ⟨_, _, _, rfl, ?_, ?_, ?_, ?_, (by first | exact blk3_0 _ _ _ _ _ | exact blk3_1 _ _ _ _ _ | exact blk3_2 _ _ _ _ _), (by first | exact blk3_0 _ _ _ _ _ | exact blk3_1 _ _ _ _ _ | exact blk3_2 _ _ _ _ _), (by first | exact blk3_0 _ _ _ _ _ | exact blk3_1 _ _ _ _ _ | exact blk3_2 _ _ _ _ _), ((HY1.out.alloc _).alloc _).alloc _, ((HY2.out.alloc _).alloc _).alloc _, HBD.out.trans ((below_alloc3' _ _ _ _).mono (by omega))⟩
      all_goals omega
  case rest =>
    obtain ⟨gd, hb, hw, rfl, k1, k2, k3, k4, x1, x2, x3, x4, x5, bx⟩ := hcut
    have hbg : B0 ≤ g := HZ1.out
    have hI : LaidI g gd hb hw D T 0 wc := ⟨by rw [HN.out, HM.out]; exact x1, by rw [roomP_zero]; exact x4, ⟨_, x2, by simp [HN.out], fun i _ h => absurd h (Nat.not_lt_zero _)⟩, _, x3, by rw [noWrites_size, HM.out], fun i _ h => absurd h (Nat.not_lt_zero _)⟩
    have hR : RoomI g (g + 1) T (startP (pieces D) 0) wc := ⟨0, x5, fun _ => rfl⟩
    have HI := Lib.hid hI
    have HR := Lib.hid hR
    have HBx := Lib.hid bx
    clear hI hR bx x1 x2 x3 x4 x5 HY1 HY2 HBD HZD mk1 mk2 mk3
    go_wp2_with fail
    go_loopw [26] (fun i wr => ∃ k : Nat, k ≤ n ∧ i = .int .i64 k ∧ Hid (LaidI g gd hb hw D T k wr) ∧ Hid (RoomI g (g + 1) T (startP (pieces D) k) wr) ∧ Hid (Below B0 w0 wr)) (fun i _ => n - (intOf i).toNat)
    case atStart => exact ⟨0, Nat.zero_le _, rfl, HI, HR, HBx⟩
    case round =>
      obtain ⟨k, hk, rfl, HIr, HRr, HBr⟩ := hrel
      clear HI HR HBx
      have i0 : (0 : Int) ≤ k := by omega
      by_cases hlt : k < n
      · have i1 : (k : Int) < n := by omega
        obtain ⟨b, off, A, l, c, s, hbe, hlb, hl, hc, hA⟩ := HD.out.1.at_ (show k < D.1.length by rw [HN.out]; exact hlt)
        obtain rfl : ba = some ⟨b, off, none⟩ := hbe
        have hz : w0.heap.size = B0 := by have := HZ.out; have := HBB.out; omega
        rw [hz] at hlb hA
        have c1 := (HBr.out.cell (p := ⟨b, off + k, none⟩) hlb).trans hc
        obtain ⟨o, hr, ho⟩ := HRr.out
        have hls := hA.1
        subst hls
        have hkP : k < (pieces D).length := by rw [pieces_length, HN.out, HM.out]; omega
        have hps : (pieces D).getD k [] = s := by rw [pieces_left (by rw [HN.out]; exact hlt)]; exact hl
        have hst := startP_succ hkP
        have hT2 : startP (pieces D) (k + 1) ≤ T := by
          rw [← HT.out, ← startP_sumD, HN.out, HM.out]
          exact startP_mono (by omega)
        rw [hps] at hst
        obtain ⟨wd, hwd⟩ : ∃ wd, wr.drew = wd := ⟨_, rfl⟩
        have hId : LaidI g gd hb hw D T k wd := by rw [← hwd]; exact HIr.out
        have hrd : Blk wd (g + 1) 26 #[.slice (some ⟨g, o, none⟩) (T - startP (pieces D) k) (T - startP (pieces D) k)] := by rw [← hwd]; exact hr
        have hBd : Below B0 w0 wd := by rw [← hwd]; exact HBr.out.drew
        have hcp := dCut_any B0 A s.length c (g + 1) g o (T - startP (pieces D) k) (roomP (pieces D) T k) s wd (hA.below hBd) (by omega) (by omega) hrd hId.2.1 (by omega) (fun hh => by rw [ho hh, roomP_length (by omega)]; omega)
        have hfin := fun e w' (hcc : CutPost (g + 1) g o (T - startP (pieces D) k) s.length (roomP (pieces D) T k) s wd e w') => hId.block (by rw [HN.out]; exact hlt) hps hT2 ho (by omega) hBd hbg (by omega) k1 hrd hcc
        have hxd := hId.1
        rw [HN.out, HM.out] at hfin hxd
        have HCP := Lib.hid hcp
        have HFIN := Lib.hid hfin
        have HXD := Lib.hid hxd
        clear hcp hfin hId hrd hBd hps hst hT2 hkP ho hr hc hA hl hz hxd HIr HRr HBr
        go_wp2_with fail
        refine wpI_start (fun X => Blk X gd 25 #[.slice (some ⟨hb, 0, none⟩) n n, .slice (some ⟨hw, 0, none⟩) m m]) [0, 1, 2, 3, 4, 5, 6, 7] hmx rfl hwd ?_
        clear hwd
        iterate 5 (
          refine wpI_read (v := ?_) HXD.out rfl (by kernel_rfl) (by kernel_rfl) (by kernel_rfl) (fun _ _ _ h => h) (.inl ⟨by rfl, ?_⟩) ?_
          rotate_left
          · intro X hX
            have hXa := hX.cell 0
            clear hX
            go_simp
            with_reducible rfl
          try simp only [Act.put, List.setIfInBounds_toArray, List.set_cons_zero, List.set_cons_succ])
        refine wpI_lone rfl (by kernel_rfl) (fun K hK => ?_)
        go_simp
        refine HCP.out.mono ?_
        intro e w3 hcc
        obtain ⟨hx3, ⟨cb, hx4, hx5⟩, hI4, hR4, hB4⟩ := HFIN.out e w3 hcc
        obtain rfl := hcc.1
        refine hK _ _ hx3 ?_
        clear hK K
        try simp only [Act.put, List.setIfInBounds_toArray, List.set_cons_zero, List.set_cons_succ]
        refine wpI_read (v := ?_) hx3 rfl (by kernel_rfl) (by kernel_rfl) (by kernel_rfl) (fun _ _ _ h => h) (.inl ⟨by rfl, ?_⟩) ?_
        rotate_left
        · intro X hX
          clear hX
          go_simp
          with_reducible rfl
        try simp only [Act.put, List.setIfInBounds_toArray, List.set_cons_zero, List.set_cons_succ]
        have hc3 : ∃ u, w3.cell? ⟨hb, k, none⟩ = some u := ⟨_, by rw [hx4.cell]; exact Array.getElem?_eq_getElem (by omega)⟩
        obtain ⟨u3, hu3⟩ := hc3
        have hf3 := hx4.frozen k
        have HX4 := Lib.hid hI4
        have HR4 := Lib.hid hR4
        have HB4 := Lib.hid hB4
        have HX3 := Lib.hid hx3
        clear hI4 hR4 hB4 hx3 hx4 hx5 hcc HFIN HCP
        refine wpI_lone rfl (by kernel_rfl) (fun K hK => ?_)
        go_simp
        refine hK _ _ (by have h := HX4.out.1; rw [HN.out, HM.out] at h; exact h) ?_
        clear hK K
        try simp only [Act.put, List.setIfInBounds_toArray, List.set_cons_zero, List.set_cons_succ]
        refine wpI_done (by kernel_rfl) ?_
        go_wp2_with fail
        go_roundw
        case rel => exact ⟨k + 1, by omega, by go_num, HX4, HR4, HB4⟩
        case measure => simp [intOf]; omega
      · obtain rfl : k = n := by omega
        go_wp2_with fail
        go_loopw [41] (fun i wr => ∃ j : Nat, j ≤ m ∧ i = .int .i64 j ∧ Hid (LaidI g gd hb hw D T (k + j) wr) ∧ Hid (RoomI g (g + 1) T (startP (pieces D) (k + j)) wr) ∧ Hid (Below B0 w0 wr)) (fun i _ => m - (intOf i).toNat)
        case atStart => exact ⟨0, Nat.zero_le _, rfl, HIr, HRr, HBr⟩
        case round =>
          obtain ⟨j, hj, rfl, HI, HR, HB'⟩ := hrel
          clear HIr HRr HBr
          have j0 : (0 : Int) ≤ j := by omega
          by_cases hlt : j < m
          · have j1 : (j : Int) < m := by omega
            obtain ⟨b, off, p, A, l, c, s, hbe, hlb, hl, _, hc, hd, hA⟩ := HD.out.2.at_ (show j < D.2.length by rw [HM.out]; exact hlt)
            obtain rfl : wa = some ⟨b, off, none⟩ := hbe
            have hz : w0.heap.size = B0 := by have := HZ.out; have := HBB.out; omega
            rw [hz] at hlb hA
            have c1 := (HB'.out.cell (p := ⟨b, off + j * 2, none⟩) hlb).trans hc
            have c2 := (HB'.out.cell (p := ⟨b, off + j * 2 + 1, none⟩) hlb).trans hd
            obtain ⟨o, hr, ho⟩ := HR.out
            have hls := hA.1
            subst hls
            have hkP : k + j < (pieces D).length := by rw [pieces_length, HN.out, HM.out]; omega
            have hps : (pieces D).getD (k + j) [] = s := by rw [← HN.out, pieces_right (by rw [HM.out]; exact hlt), hl]
            have hst := startP_succ hkP
            have hT2 : startP (pieces D) (k + j + 1) ≤ T := by
              rw [← HT.out, ← startP_sumD, HN.out, HM.out]
              exact startP_mono (by omega)
            rw [hps] at hst
            obtain ⟨gt, hgt⟩ : ∃ gt, wr.heap.size = gt := ⟨_, rfl⟩
            obtain ⟨wd, hwd⟩ : ∃ wd, (wr.alloc (.cells #[.int .i64 p, .slice A s.length c] 53)).drew = wd := ⟨_, rfl⟩
            have hBa : Below wr.heap.size wr wd := by rw [← hwd]; exact ((Below.refl _ wr).alloc (Nat.le_refl _) _).drew
            have hId : LaidI g gd hb hw D T (k + j) wd := by
              obtain ⟨y1, y2, ⟨cb, y3, y4⟩, cw, y5, y6⟩ := HI.out
              exact ⟨y1.below hBa y1.lt, y2.below hBa y2.lt, ⟨cb, y3.below hBa y3.lt, y4⟩, cw, y5.below hBa y5.lt, y6⟩
            have hrd := hr.below hBa hr.lt
            have hBd : Below B0 w0 wd := HB'.out.trans (hBa.mono (by have := hr.lt; omega))
            have hxt : Blk wd gt 53 #[.int .i64 p, .slice A s.length c] := by rw [← hwd, ← hgt]; exact (Blk.new wr _ _).drew
            have hcp := dCut_any B0 A s.length c (g + 1) g o (T - startP (pieces D) (k + j)) (roomP (pieces D) T (k + j)) s wd (hA.below hBd) (by omega) (by omega) hrd hId.2.1 (by omega) (fun hh => by rw [ho hh, roomP_length (by omega)]; omega)
            have hfin := fun e w' (hcc : CutPost (g + 1) g o (T - startP (pieces D) (k + j)) s.length (roomP (pieces D) T (k + j)) s wd e w') => hId.write (by rw [HN.out]) (by rw [HM.out]; exact hlt) hl hT2 ho (by omega) hBd hbg (by omega) k2 hrd hcc
            have hgt1 : gt ≠ g + 1 := by have := hr.lt; omega
            have hgt2 : gt ≠ g := by have := hr.lt; omega
            have hgt3 : gt ≠ hw := by have := HI.out.2.2.2; obtain ⟨cw, y5, _⟩ := this; have := y5.lt; omega
            have hxd := hId.1
            rw [HN.out, HM.out] at hfin hxd
            have HCP := Lib.hid hcp
            have HFIN := Lib.hid hfin
            have HXD := Lib.hid hxd
            have HXT := Lib.hid hxt
            have HST := Lib.hid (And.intro hgt1 (And.intro hgt2 hgt3))
            clear hcp hfin hId hrd hBd hps hst hT2 hkP ho hr hc hd hA hl hz hxd hxt HI HR HB' hBa hgt1 hgt2 hgt3
            go_wp2_with fail
            clear hgt
            refine wpI_start (fun X => Blk X gd 25 #[.slice (some ⟨hb, 0, none⟩) k k, .slice (some ⟨hw, 0, none⟩) m m] ∧ Blk X gt 53 #[.int .i64 p, .slice A s.length c]) [0, 1, 2, 3, 4, 5, 6, 7, 8, 9, 10, 11] hmx rfl hwd ?_
            clear hwd
            iterate 8 (
              refine wpI_read (v := ?_) ⟨HXD.out, HXT.out⟩ rfl (by kernel_rfl) (by kernel_rfl) (by kernel_rfl) (fun _ _ _ h => h) (.inl ⟨by rfl, ?_⟩) ?_
              rotate_left
              · intro X hX
                have hXa := hX.1.cell 1
                have hXb := hX.2.cell 0
                have hXc := hX.2.cell 1
                clear hX
                go_simp
                with_reducible rfl
              try simp only [Act.put, List.setIfInBounds_toArray, List.set_cons_zero, List.set_cons_succ])
            refine wpI_lone rfl (by kernel_rfl) (fun K hK => ?_)
            go_simp
            refine HCP.out.mono ?_
            intro e w3 hcc
            obtain ⟨hx3, ⟨cb, hx4, hx5⟩, hI4, hR4, hB4⟩ := HFIN.out e w3 hcc
            have hxt3 : Blk w3 gt 53 #[.int .i64 p, .slice A s.length c] := by
              obtain ⟨_, _, _, _, w9, g1, g2⟩ := hcc
              exact (HXT.out.grown g1 (fun e => HST.out.1 (Option.some.inj e))).grown g2 (fun e => HST.out.2.1 (Option.some.inj e))
            obtain rfl := hcc.1
            refine hK _ _ ⟨hx3, hxt3⟩ ?_
            clear hK K
            try simp only [Act.put, List.setIfInBounds_toArray, List.set_cons_zero, List.set_cons_succ]
            iterate 2 (
              refine wpI_read (v := ?_) ⟨hx3, hxt3⟩ rfl (by kernel_rfl) (by kernel_rfl) (by kernel_rfl) (fun _ _ _ h => h) (.inl ⟨by rfl, ?_⟩) ?_
              rotate_left
              · intro X hX
                clear hX
                go_simp
                with_reducible rfl
              try simp only [Act.put, List.setIfInBounds_toArray, List.set_cons_zero, List.set_cons_succ])
            obtain ⟨u3, hu3⟩ : ∃ u, w3.cell? ⟨hw, j * 2, none⟩ = some u := ⟨_, by rw [hx4.cell]; exact Array.getElem?_eq_getElem (by omega)⟩
            obtain ⟨u4, hu4⟩ : ∃ u, w3.cell? ⟨hw, j * 2 + 1, none⟩ = some u := ⟨_, by rw [hx4.cell]; exact Array.getElem?_eq_getElem (by omega)⟩
            have hf3 := hx4.frozen (j * 2)
            have hf4 := hx4.frozen (j * 2 + 1)
            have HX4 := Lib.hid hI4
            have HR4 := Lib.hid hR4
            have HB4 := Lib.hid hB4
            have HX5 := Lib.hid ((hxt3.far (p := ⟨hw, j * 2, none⟩) HST.out.2.2 (.int .i64 p)).far (p := ⟨hw, j * 2 + 1, none⟩) HST.out.2.2 (.slice (some ⟨g, o, none⟩) s.length s.length))
            clear hI4 hR4 hB4 hx3 hx4 hx5 hcc HFIN HCP hxt3
            refine wpI_lone rfl (by kernel_rfl) (fun K hK => ?_)
            go_simp
            refine hK _ _ ⟨by have h := HX4.out.1; rw [HN.out, HM.out] at h; exact h, HX5.out⟩ ?_
            clear hK K
            try simp only [Act.put, List.setIfInBounds_toArray, List.set_cons_zero, List.set_cons_succ]
            refine wpI_done (by kernel_rfl) ?_
            go_wp2_with fail
            go_roundw
            case rel => exact ⟨j + 1, by omega, by go_num, HX4, HR4, HB4⟩
            case measure => simp [intOf]; omega
          · obtain rfl : j = m := by omega
            obtain ⟨y1, y2, ⟨cb, y3, y4, y5⟩, cw, y6, y7, y8⟩ := HI.out
            rw [HN.out, HM.out] at y1
            rw [HN.out] at y4 y5 y8
            rw [HM.out] at y7 y8
            have hgr : w.heap.size < B0 := by have := HBB.out; omega
            have xr := HX.out.below HB'.out hgr
            have c0 := y1.cell 0
            have c1 := y1.cell 1
            have d0 := xr.cell 0
            have d1 := xr.cell 1
            have hf := fun i => xr.frozen i
            have hwf : ∀ i, i < D.2.length → (Lit.int .i64 (wr_ D.2 i).1).wf = true := fun i hi => by
              obtain ⟨_, _, p, _, _, _, _, _, _, hp, hwf, _⟩ := HD.out.2.at_ hi
              rw [hp]
              exact hwf
            have hbw : Below w.heap.size w wr := HB.out.trans (HB'.out.mono (by omega))
            have hfin : Laid ((wr.setCell ⟨w.heap.size, 0, none⟩ (.slice (some ⟨hb, 0, none⟩) k k)).setCell ⟨w.heap.size, 1, none⟩ (.slice (some ⟨hw, 0, none⟩) j j)) w.heap.size ⟨some ⟨hb, 0, none⟩, k, some ⟨hw, 0, none⟩, j⟩ D := by
              refine ⟨g, hb, hw, by rw [HN.out, HM.out], by omega, by omega, by omega, by rw [HN.out]; exact f1, by rw [HM.out]; exact f2, by rw [HT.out]; exact f3, hwf, ?_, ⟨cb, ?_, by rw [HN.out]; exact y4, fun i hi => y5 i (by rw [← HN.out]; exact hi) (by rw [HN.out] at hi; omega)⟩, cw, ?_, by rw [HM.out]; exact y7, fun i hi => ?_⟩
              · rw [HN.out, HM.out, HT.out]
                exact (y2.far (by simp; omega) _).far (by simp; omega) _
              · exact (y3.far (by simp; omega) _).far (by simp; omega) _
              · exact (y6.far (by simp; omega) _).far (by simp; omega) _
              · rw [HN.out]
                exact y8 i (by rw [← HM.out]; exact hi) (by rw [HM.out] at hi; omega)
            have HFIN := Lib.hid hfin
            have HBF := Lib.hid ((hbw.setCell (p := ⟨w.heap.size, 0, none⟩) (Nat.le_refl _) (.slice (some ⟨hb, 0, none⟩) k k)).setCell (p := ⟨w.heap.size, 1, none⟩) (Nat.le_refl _) (.slice (some ⟨hw, 0, none⟩) j j))
            have hxr := (xr.set_ 0 (.slice (some ⟨hb, 0, none⟩) k k)).set_ 1 (.slice (some ⟨hw, 0, none⟩) j j)
            have HXR := Lib.hid hxr
            clear hfin hbw hwf y1 y2 y3 y4 y5 y6 y7 y8 xr hxr hgr HI HR HB'
            go_wp2_with fail
            obtain ⟨wf, hwf⟩ : ∃ wf, ((wr.setCell ⟨w.heap.size, 0, none⟩ (.slice (some ⟨hb, 0, none⟩) k k)).setCell ⟨w.heap.size, 1, none⟩ (.slice (some ⟨hw, 0, none⟩) j j)) = wf := ⟨_, rfl⟩
            rw [hwf] at HFIN HBF HXR ⊢
            clear hwf c0 c1 d0 d1 hf
            have e0 := HXR.out.cell 0
            have e1 := HXR.out.cell 1
            refine bodyPost_ret (v := .agg #[.slice (some ⟨hb, 0, none⟩) k k, .slice (some ⟨hw, 0, none⟩) j j]) (by simp [results, Tryz.f10, go_sem, e0, e1]) rfl ?_
            refine ⟨⟨some ⟨hb, 0, none⟩, k, some ⟨hw, 0, none⟩, j⟩, ?_, HFIN.out, HBF.out⟩
            rw [dval, HN.out, HM.out]
end Go.Proofs.YtafbidhbmfdlkaaGreatDoor
/-
  Words for rows of the call's own whose cells are slices of bytes, or writes; appends to them.
-/
namespace Go.Proofs.YtafbidhbmfdlkaaGreatDoor
open Go.RowKit Go.Shelf
set_option maxRecDepth 100000

/-- A slice that reads as s, and lies below block B, or in a block of bytes. -/
def BslO (w : World) (B : Nat) (A : Option Addr) (n c : Nat) (s : List UInt8) : Prop :=
  s.length = n ∧ n ≤ c ∧ c ≤ maxLen ∧ (A = none → c = 0) ∧
    (0 < n → ∃ b off, A = some ⟨b, off, none⟩ ∧ b < w.heap.size ∧ (b < B ∨ ∃ cs, Blk w b 5 cs) ∧ ∀ i (h : i < s.length), w.cell? ⟨b, off + i, none⟩ = some (.int .u8 ((s[i]).toNat : Int)))
section
variable {w w' : World} {B n c : Nat} {A : Option Addr} {s : List UInt8}
theorem BslO.bsl (h : BslO w B A n c s) : Bsl w w.heap.size A n c s := by
  obtain ⟨h1, h2, h3, h4, h5⟩ := h
  refine ⟨h1, h2, h3, h4, fun h0 => ?_⟩
  obtain ⟨b, off, e, hb, _, hc⟩ := h5 h0
  exact ⟨b, off, e, hb, hc⟩
theorem BslO.of (h : Bsl w B A n c s) (hB : B ≤ w.heap.size) : BslO w B A n c s := by
  obtain ⟨h1, h2, h3, h4, h5⟩ := h
  refine ⟨h1, h2, h3, h4, fun h0 => ?_⟩
  obtain ⟨b, off, e, hb, hc⟩ := h5 h0
  exact ⟨b, off, e, by omega, .inl hb, hc⟩
theorem BslO.own {base : Nat} (h : w.ownsRow base 5 1 (.slice A n c) n (vals s)) (B : Nat) : BslO w B A n c s := by
  have hb := own_bsl h
  obtain ⟨h1, h2, h3, h4, h5⟩ := hb
  refine ⟨h1, h2, h3, h4, fun h0 => ?_⟩
  obtain ⟨b, off, e, hb, hc⟩ := h5 h0
  subst e
  obtain ⟨_, ⟨e, _⟩ | ⟨g, cap, cur, e, _, hh, _⟩⟩ := h
  · cases e
  · cases e
    exact ⟨b, 0, rfl, hb, .inr ⟨cur, hh⟩, hc⟩
theorem BslO.below (h : BslO w B A n c s) (hb : Below w.heap.size w w') : BslO w' B A n c s := by
  obtain ⟨h1, h2, h3, h4, h5⟩ := h
  refine ⟨h1, h2, h3, h4, fun h0 => ?_⟩
  obtain ⟨b, off, e, hlt, ho, hc⟩ := h5 h0
  exact ⟨b, off, e, Nat.lt_of_lt_of_le hlt hb.size, ho.imp id fun ⟨cs, hcs⟩ => ⟨cs, hcs.below hb hlt⟩, fun i hi => (hb.cell (p := ⟨b, off + i, none⟩) hlt).trans (hc i hi)⟩
/-- Another block of one's own, that is none of bytes, is written. -/
theorem BslO.row {row : Option Nat} (h : BslO w B A n c s) (hg : w.grownBy w' row) (hr : ∀ g, row = some g → B ≤ g ∧ ∃ t cs, Blk w g t cs ∧ t ≠ 5) : BslO w' B A n c s := by
  obtain ⟨h1, h2, h3, h4, h5⟩ := h
  refine ⟨h1, h2, h3, h4, fun h0 => ?_⟩
  obtain ⟨b, off, e, hlt, ho, hc⟩ := h5 h0
  have hne : some b ≠ row := fun er => by
    obtain ⟨h6, t, cs, h7, h8⟩ := hr b er.symm
    rcases ho with ho | ⟨cs', h9⟩
    · omega
    · exact h9.ne h7 (fun e => h8 e.symm) rfl
  have hbk := hg.block b hlt hne
  refine ⟨b, off, e, Nat.lt_of_lt_of_le hlt hg.size, ho.imp id fun ⟨cs, hcs⟩ => ⟨cs, hbk.trans hcs⟩, fun i hi => ?_⟩
  rw [← hc i hi]
  exact World.cell?_of_block (a := ⟨b, off + i, none⟩) hbk
end
/-- What an append writes is the row's own block. -/
theorem own_row {w : World} {base : Nat} {e : TypeId} {size : Nat} {v : Value} {n : Nat} {xs : List Value} (h : w.ownsRow base e size v n xs) (he : e ≠ 5) : ∀ g, v.ownBlock = some g → base ≤ g ∧ ∃ t cs, Blk w g t cs ∧ t ≠ 5 := by
  rintro g hg
  obtain ⟨_, ⟨rfl, _⟩ | ⟨g', cap, cur, rfl, h1, h2, _⟩⟩ := h
  · cases hg
  · cases hg
    exact ⟨h1, _, _, h2, he⟩
/-- A row of the call's own, of slices of bytes. -/
def BRowC (w : World) (C base : Nat) (v : Value) (bl : List (List UInt8)) : Prop :=
  ∃ xs, w.ownsRow base 26 1 v bl.length xs ∧ ∀ i, i < bl.length → ∃ A c, xs.getD i undef = .slice A (bl.getD i []).length c ∧ BslO w C A (bl.getD i []).length c (bl.getD i [])
/-- A row of the call's own, of writes. -/
def WRowC (w : World) (C base : Nat) (v : Value) (ws : WrL) : Prop :=
  ∃ xs, w.ownsRow base 53 2 v ws.length xs ∧ ∀ i, i < ws.length → (Lit.int .i64 (wr_ ws i).1).wf = true ∧ xs.getD (i * 2) undef = .int .i64 (wr_ ws i).1 ∧ ∃ A c, xs.getD (i * 2 + 1) undef = .slice A (wr_ ws i).2.length c ∧ BslO w C A (wr_ ws i).2.length c (wr_ ws i).2
abbrev WRow (w : World) (base : Nat) (v : Value) (ws : WrL) : Prop := WRowC w base base v ws
theorem brow_nil (w : World) (base : Nat) {C : Nat} : BRowC w C base (.slice none 0 0) [] := ⟨[], World.ownsRow_nil _ _ _ _, fun _ h => absurd h (Nat.not_lt_zero _)⟩
theorem BRowC.below {w w' : World} {C base : Nat} {v : Value} {bl : List (List UInt8)} (h : BRowC w C base v bl) (hb : Below w.heap.size w w') : BRowC w' C base v bl := by
  obtain ⟨xs, h1, h2⟩ := h
  refine ⟨xs, own_below h1 hb, fun i hi => ?_⟩
  obtain ⟨A, c, h3, h4⟩ := h2 i hi
  exact ⟨A, c, h3, h4.below hb⟩
theorem WRowC.below {w w' : World} {C base : Nat} {v : Value} {ws : WrL} (h : WRowC w C base v ws) (hb : Below w.heap.size w w') : WRowC w' C base v ws := by
  obtain ⟨xs, h1, h2⟩ := h
  refine ⟨xs, own_below h1 hb, fun i hi => ?_⟩
  obtain ⟨h0, h5, A, c, h3, h4⟩ := h2 i hi
  exact ⟨h0, h5, A, c, h3, h4.below hb⟩
/-- Another block of one's own, that is none of bytes, is written. -/
theorem BRowC.row {w w' : World} {C base : Nat} {v : Value} {bl : List (List UInt8)} (h : BRowC w C base v bl) {g : Nat} (hg : w.grownBy w' (some g)) (hB : C ≤ g) {t : TypeId} {cs : Array Value} (hx : Blk w g t cs) (ht : t ≠ 5) (hne : t ≠ 26) : BRowC w' C base v bl := by
  obtain ⟨xs, h1, h2⟩ := h
  refine ⟨xs, own_other h1 hg fun k hk e => ?_, fun i hi => ?_⟩
  · obtain ⟨_, ⟨rfl, _⟩ | ⟨g', cap, cur, rfl, _, h3, _⟩⟩ := h1
    · cases hk
    · exact (show Blk w g' _ cur from h3).ne hx (Ne.symm hne) ((Option.some.inj hk).trans e)
  · obtain ⟨A, c, h3, h4⟩ := h2 i hi
    exact ⟨A, c, h3, h4.row hg fun k hk => by cases hk; exact ⟨hB, t, cs, hx, ht⟩⟩
theorem WRowC.row {w w' : World} {C base : Nat} {v : Value} {ws : WrL} (h : WRowC w C base v ws) {g : Nat} (hg : w.grownBy w' (some g)) (hB : C ≤ g) {t : TypeId} {cs : Array Value} (hx : Blk w g t cs) (ht : t ≠ 5) (hne : t ≠ 53) : WRowC w' C base v ws := by
  obtain ⟨xs, h1, h2⟩ := h
  refine ⟨xs, own_other h1 hg fun k hk e => ?_, fun i hi => ?_⟩
  · obtain ⟨_, ⟨rfl, _⟩ | ⟨g', cap, cur, rfl, _, h3, _⟩⟩ := h1
    · cases hk
    · exact (show Blk w g' _ cur from h3).ne hx (Ne.symm hne) ((Option.some.inj hk).trans e)
  · obtain ⟨h0, h5, A, c, h3, h4⟩ := h2 i hi
    exact ⟨h0, h5, A, c, h3, h4.row hg fun k hk => by cases hk; exact ⟨hB, t, cs, hx, ht⟩⟩
theorem BRowC.bls {w : World} {C base : Nat} {v : Value} {bl : List (List UInt8)} (h : BRowC w C base v bl) : ∃ a c, v = .slice a bl.length c ∧ Bls w w.heap.size a bl.length c bl := by
  obtain ⟨xs, h1, h2⟩ := h
  obtain ⟨hl, ⟨rfl, h0⟩ | ⟨g, cap, cur, rfl, _, h3, h4, h5, h6, h7⟩⟩ := id h1
  · have : bl = [] := List.eq_nil_of_length_eq_zero h0
    subst this
    exact ⟨none, 0, rfl, bls_nil _ _⟩
  · refine ⟨_, _, rfl, rfl, h4, h5, fun _ => ⟨g, 0, rfl, (Array.getElem?_eq_some_iff.1 h3).1, fun i hi => ?_⟩⟩
    obtain ⟨A, c, e1, e2⟩ := h2 i hi
    refine ⟨A, c, ?_, e2.bsl⟩
    rw [Nat.zero_add, cell_of_row w g i cur 26 (0, 0) h3, ← Array.getElem?_toList]
    have : cur.toList[i]? = xs[i]? := by rw [← h7, List.getElem?_take_of_lt (by omega)]
    rw [this, ← e1, List.getD_eq_getElem?_getD, List.getElem?_eq_getElem (by omega)]
    rfl
theorem WRowC.wts {w : World} {C base : Nat} {v : Value} {ws : WrL} (h : WRowC w C base v ws) : ∃ a c, v = .slice a ws.length c ∧ Wts w w.heap.size a ws.length c ws := by
  obtain ⟨xs, h1, h2⟩ := h
  obtain ⟨hl, ⟨rfl, h0⟩ | ⟨g, cap, cur, rfl, _, h3, h4, h5, h6, h7⟩⟩ := id h1
  · have : ws = [] := List.eq_nil_of_length_eq_zero h0
    subst this
    exact ⟨none, 0, rfl, wts_nil _ _⟩
  · refine ⟨_, _, rfl, rfl, h4, h5, fun _ => ⟨g, 0, rfl, (Array.getElem?_eq_some_iff.1 h3).1, fun i hi => ?_⟩⟩
    obtain ⟨e0, e3, A, c, e1, e2⟩ := h2 i hi
    have hget : ∀ j, j < ws.length * 2 → cur.toList[j]? = some (xs.getD j undef) := fun j hj => by
      have : cur.toList[j]? = xs[j]? := by rw [← h7, List.getElem?_take_of_lt hj]
      rw [this, List.getD_eq_getElem?_getD, List.getElem?_eq_getElem (by omega)]
      rfl
    refine ⟨e0, ?_, A, c, ?_, e2.bsl⟩
    · rw [Nat.zero_add, cell_of_row w g _ cur 53 (0, 0) h3, ← Array.getElem?_toList, hget _ (by omega), e3]
    · rw [Nat.zero_add, cell_of_row w g _ cur 53 (0, 0) h3, ← Array.getElem?_toList, hget _ (by omega), e1]
/-- Behind an append: the lists, one behind the other. -/
theorem brow_app {w w' : World} {C base : Nat} {v v' : Value} {bl : List (List UInt8)} {xs : List Value} {A : Option Addr} {c : Nat} {s : List UInt8} (hC : C ≤ base) (h : w.ownsRow base 26 1 v bl.length xs) (h2 : ∀ i, i < bl.length → ∃ A c, xs.getD i undef = .slice A (bl.getD i []).length c ∧ BslO w C A (bl.getD i []).length c (bl.getD i []))
    (hs : BslO w C A s.length c s) (ho : w'.ownsRow base 26 1 v' (bl.length + 1) (xs ++ [.slice A s.length c])) (hg : w.grownBy w' v.ownBlock) : BRowC w' C base v' (bl ++ [s]) := by
  have hl : xs.length = bl.length := by have := h.1; omega
  refine ⟨_, by rw [List.length_append]; exact ho, fun i hi => ?_⟩
  rw [List.length_append] at hi
  simp only [List.length_cons, List.length_nil] at hi
  rcases Nat.lt_or_ge i bl.length with h3 | h3
  · obtain ⟨A', c', e1, e2⟩ := h2 i h3
    have g1 : (bl ++ [s]).getD i [] = bl.getD i [] := by rw [List.getD_eq_getElem?_getD, List.getElem?_append_left h3, ← List.getD_eq_getElem?_getD]
    have g2 : (xs ++ [Value.slice A s.length c]).getD i undef = xs.getD i undef := by rw [List.getD_eq_getElem?_getD, List.getElem?_append_left (by omega), ← List.getD_eq_getElem?_getD]
    rw [g1, g2]
    exact ⟨A', c', e1, e2.row hg (fun g hg => (own_row h (by decide) g hg).imp_left (Nat.le_trans hC))⟩
  · obtain rfl : i = bl.length := by omega
    have g1 : (bl ++ [s]).getD bl.length [] = s := by rw [List.getD_eq_getElem?_getD, List.getElem?_append_right (Nat.le_refl _), Nat.sub_self]; rfl
    have g2 : (xs ++ [Value.slice A s.length c]).getD bl.length undef = .slice A s.length c := by rw [List.getD_eq_getElem?_getD, List.getElem?_append_right (by omega), hl, Nat.sub_self]; rfl
    rw [g1, g2]
    exact ⟨A, c, rfl, hs.row hg (fun g hg => (own_row h (by decide) g hg).imp_left (Nat.le_trans hC))⟩
theorem wrow_app {w w' : World} {C base : Nat} {v v' : Value} {ws ws' : WrL} {xs ys : List Value} (hC : C ≤ base) (h : w.ownsRow base 53 2 v ws.length xs)
    (h2 : ∀ i, i < ws.length → (Lit.int .i64 (wr_ ws i).1).wf = true ∧ xs.getD (i * 2) undef = .int .i64 (wr_ ws i).1 ∧ ∃ A c, xs.getD (i * 2 + 1) undef = .slice A (wr_ ws i).2.length c ∧ BslO w C A (wr_ ws i).2.length c (wr_ ws i).2)
    (h3 : ∀ i, i < ws'.length → (Lit.int .i64 (wr_ ws' i).1).wf = true ∧ ys.getD (i * 2) undef = .int .i64 (wr_ ws' i).1 ∧ ∃ A c, ys.getD (i * 2 + 1) undef = .slice A (wr_ ws' i).2.length c ∧ BslO w C A (wr_ ws' i).2.length c (wr_ ws' i).2)
    (ho : w'.ownsRow base 53 2 v' (ws.length + ws'.length) (xs ++ ys)) (hg : w.grownBy w' v.ownBlock) : WRowC w' C base v' (ws ++ ws') := by
  have hl : xs.length = ws.length * 2 := h.1
  refine ⟨_, by rw [List.length_append]; exact ho, fun i hi => ?_⟩
  rw [List.length_append] at hi
  rcases Nat.lt_or_ge i ws.length with h4 | h4
  · obtain ⟨e0, e3, A, c, e1, e2⟩ := h2 i h4
    have g1 : wr_ (ws ++ ws') i = wr_ ws i := by unfold wr_; rw [List.getD_eq_getElem?_getD, List.getElem?_append_left h4, ← List.getD_eq_getElem?_getD]
    have g2 : ∀ j, j < ws.length * 2 → (xs ++ ys).getD j undef = xs.getD j undef := fun j hj => by rw [List.getD_eq_getElem?_getD, List.getElem?_append_left (by omega), ← List.getD_eq_getElem?_getD]
    rw [g1, g2 _ (by omega), g2 _ (by omega)]
    exact ⟨e0, e3, A, c, e1, e2.row hg (fun g hg => (own_row h (by decide) g hg).imp_left (Nat.le_trans hC))⟩
  · obtain ⟨k, rfl⟩ : ∃ k, i = ws.length + k := ⟨i - ws.length, by omega⟩
    obtain ⟨e0, e3, A, c, e1, e2⟩ := h3 k (by omega)
    have g1 : wr_ (ws ++ ws') (ws.length + k) = wr_ ws' k := by
      unfold wr_
      rw [List.getD_eq_getElem?_getD, List.getElem?_append_right (by omega), Nat.add_sub_cancel_left, ← List.getD_eq_getElem?_getD]
    have g2 : ∀ j, (xs ++ ys).getD (ws.length * 2 + j) undef = ys.getD j undef := fun j => by
      rw [List.getD_eq_getElem?_getD, List.getElem?_append_right (by omega), hl, Nat.add_sub_cancel_left, ← List.getD_eq_getElem?_getD]
    have e4 : (ws.length + k) * 2 = ws.length * 2 + k * 2 := by omega
    have e5 : (ws.length + k) * 2 + 1 = ws.length * 2 + (k * 2 + 1) := by omega
    rw [g1, e5, e4, g2, g2]
    exact ⟨e0, e3, A, c, e1, e2.row hg (fun g hg => (own_row h (by decide) g hg).imp_left (Nat.le_trans hC))⟩
/-- append(v, nil...), whatever capacity nil is written with. -/
theorem run_append_nothing {P : Program} {w : World} (base : Nat) (t ty e : TypeId) (i : TypeInfo) (size c : Nat) (ht : P.underlying t = some (.slice e)) (hi : P.info? e = some i)
    (v : Value) (n : Nat) (xs : List Value) (hown : w.ownsRow base e size v n xs) : (Builtin.append_ #[t, t] ty #[v, .slice none 0 c]).run P w = .ok v w := by
  rcases hown.2 with ⟨rfl, rfl⟩ | ⟨g, cap, cur, rfl, _, _, hnc, _⟩
  · simp [Builtin.append_, run_underlying ht, sizeOf, typeInfo, hi, Builtin.lenOf, Builtin.firstCells]
  · simp [Builtin.append_, run_underlying ht, sizeOf, typeInfo, hi, Builtin.lenOf, Builtin.firstCells, hnc, storeCells]
section
variable {w : World} {o : Oper} {a : Act} {K : Act → World → Prop} {Q : Exit → Act → World → Prop} {ops : Array Oper} {rest : List Oper}
/-- append(rows, s). -/
theorem wp_append_browC {C : Nat} (x y : Operand) (ho : o.op = .call { callee := .builtin .append, args := #[x, y], argTypes := #[22, 22] })
    (base : Nat) (hC : C ≤ base) (v : Value) (bl : List (List UInt8)) (hx : a.eval x = v) (hr : BRowC w C base v bl) (A : Option Addr) (c : Nat) (s : List UInt8) (b : Nat) (hy : a.eval y = .slice (some ⟨b, 0, none⟩) 1 1) (hb : Blk w b 26 #[.slice A s.length c]) (hs : BslO w C A s.length c s)
    (hn : bl.length ≤ 1000000) (hbase : base ≤ w.heap.size)
    (h : ∀ v' w', BRowC w' C base v' (bl ++ [s]) → w.grownBy w' v.ownBlock → (∀ g, v.ownBlock = some g → base ≤ g ∧ ∃ t cs, Blk w g t cs ∧ t ≠ 5) → K (a.put o.dst v') w') : o.wp Tryz.prog a w K Q := by
  obtain ⟨i0, hi0, hz0, hz1, hz2⟩ := info_parts infoSlB
  obtain ⟨xs, h1, h2⟩ := hr
  refine wp_append_own w x y 22 ho base 26 i0 (.slice none 0 0) 1 24 Tryz.underlying22 hi0 hz0 hz1 hz2 rfl (by decide) v bl.length xs hx h1 ⟨b, 0, none⟩ 1 1 [.slice A s.length c] hy rfl (fun j u hu => ?_) (fun u hu => ?_) (by unfold maxLen; omega) (by omega) hbase fun v' w' h6 h7 _ => ?_
  · rcases j with _ | j
    · obtain rfl : Value.slice A s.length c = u := by simpa using hu
      have e : (⟨b, 0, none⟩ : Addr).add 0 = ⟨b, 0, none⟩ := by simp [Addr.add]
      rw [e]
      exact hb.cell 0
    · simp at hu
  · obtain rfl : u = .slice A s.length c := by simpa using hu
    rfl
  · exact h v' w' (brow_app hC h1 h2 hs h6 h7) h7 (own_row h1 (by decide))
/-- append(writes, more...). -/
theorem wp_append_wrowC {C : Nat} (x y : Operand) (ho : o.op = .call { callee := .builtin .append, args := #[x, y], argTypes := #[23, 23] })
    (base : Nat) (hC : C ≤ base) (v : Value) (ws : WrL) (hx : a.eval x = v) (hr : WRowC w C base v ws) (ys : List Value) (ws' : WrL) (ad : Addr) (m c : Nat) (hy : a.eval y = .slice (some ad) m c) (hm : ws'.length = m) (hyl : ys.length = m * 2) (hcell : ∀ j u, ys[j]? = some u → w.cell? (ad.add j) = some u)
    (h3 : ∀ i, i < ws'.length → (Lit.int .i64 (wr_ ws' i).1).wf = true ∧ ys.getD (i * 2) undef = .int .i64 (wr_ ws' i).1 ∧ ∃ A c, ys.getD (i * 2 + 1) undef = .slice A (wr_ ws' i).2.length c ∧ BslO w C A (wr_ ws' i).2.length c (wr_ ws' i).2)
    (hn : ws.length + m ≤ 1000000) (hbase : base ≤ w.heap.size)
    (h : ∀ v' w', WRowC w' C base v' (ws ++ ws') → w.grownBy w' v.ownBlock → (∀ g, v.ownBlock = some g → base ≤ g ∧ ∃ t cs, Blk w g t cs ∧ t ≠ 5) → K (a.put o.dst v') w') : o.wp Tryz.prog a w K Q := by
  obtain ⟨i0, hi0, hz0, hz1, hz2⟩ := info_parts infoWri
  obtain ⟨xs, h1, h2⟩ := hr
  subst hm
  refine wp_append_own w x y 23 ho base 53 i0 (.agg #[.int .i64 0, .slice none 0 0]) 2 32 Tryz.underlying23 hi0 hz0 hz1 hz2 rfl (by decide) v ws.length xs hx h1 ad ws'.length c ys hy hyl hcell (fun u hu => ?_) (by unfold maxLen; omega) (by omega) hbase fun v' w' h6 h7 _ => ?_
  · obtain ⟨j, hj, rfl⟩ := List.getElem_of_mem hu
    have e : ys[j] = ys.getD j undef := by rw [List.getD_eq_getElem?_getD, List.getElem?_eq_getElem hj]; rfl
    rw [e]
    obtain ⟨_, e3, A, c', e1, _⟩ := h3 (j / 2) (by omega)
    rcases Nat.mod_two_eq_zero_or_one j with h0 | h0
    · rw [show j = j / 2 * 2 by omega, e3]
      rfl
    · rw [show j = j / 2 * 2 + 1 by omega, e1]
      rfl
  · exact h v' w' (wrow_app hC h1 h2 h3 h6 h7) h7 (own_row h1 (by decide))
theorem wp_append_wrow (x y : Operand) (ho : o.op = .call { callee := .builtin .append, args := #[x, y], argTypes := #[23, 23] })
    (base : Nat) (v : Value) (ws : WrL) (hx : a.eval x = v) (hr : WRow w base v ws) (ys : List Value) (ws' : WrL) (ad : Addr) (m c : Nat) (hy : a.eval y = .slice (some ad) m c) (hm : ws'.length = m) (hyl : ys.length = m * 2) (hcell : ∀ j u, ys[j]? = some u → w.cell? (ad.add j) = some u)
    (h3 : ∀ i, i < ws'.length → (Lit.int .i64 (wr_ ws' i).1).wf = true ∧ ys.getD (i * 2) undef = .int .i64 (wr_ ws' i).1 ∧ ∃ A c, ys.getD (i * 2 + 1) undef = .slice A (wr_ ws' i).2.length c ∧ BslO w base A (wr_ ws' i).2.length c (wr_ ws' i).2)
    (hn : ws.length + m ≤ 1000000) (hbase : base ≤ w.heap.size)
    (h : ∀ v' w', WRow w' base v' (ws ++ ws') → w.grownBy w' v.ownBlock → (∀ g, v.ownBlock = some g → base ≤ g ∧ ∃ t cs, Blk w g t cs ∧ t ≠ 5) → K (a.put o.dst v') w') : o.wp Tryz.prog a w K Q := wp_append_wrowC x y ho base (Nat.le_refl _) v ws hx hr ys ws' ad m c hy hm hyl hcell h3 hn hbase h
theorem wpList_append_wrow (hgd : o.guard = none) (x y : Operand) (ho : o.op = .call { callee := .builtin .append, args := #[x, y], argTypes := #[23, 23] })
    (base : Nat) (v : Value) (ws : WrL) (hx : a.eval x = v) (hr : WRow w base v ws) (B : Nat) (A : Option Addr) (m c : Nat) (ws' : WrL) (hy : a.eval y = .slice A m c) (hs : Wts w B A m c ws') (hB : B ≤ base) (hn : ws.length + m ≤ 1000000) (hbase : base ≤ w.heap.size)
    (h : ∀ v' w', WRow w' base v' (ws ++ ws') → w.grownBy w' v.ownBlock → (∀ g, v.ownBlock = some g → base ≤ g ∧ ∃ t cs, Blk w g t cs ∧ t ≠ 5) → wpList Tryz.prog ops Q rest (a.put o.dst v') w') : wpList Tryz.prog ops Q (o :: rest) a w := by
  obtain ⟨h1, h2, h3, h4⟩ := hs
  rcases Nat.eq_zero_or_pos m with h0 | h0
  · subst h0
    have hws : ws' = [] := List.eq_nil_of_length_eq_zero h1
    subst hws
    cases A with
    | none =>
      obtain ⟨i0, hi0, hz0, hz1, hz2⟩ := info_parts infoWri
      obtain ⟨xs, h5, h6⟩ := id hr
      refine wpList_plain hgd fun K hK => ?_
      have hrun := run_append_nothing (P := Tryz.prog) (w := w) base 23 o.type 53 i0 2 c Tryz.underlying23 hi0 v ws.length xs h5
      unfold Oper.wp
      simp [execOp, ho, resolve, invoke, builtin, hx, hy, hrun, Result.andThen]
      exact hK _ _ (h v w (by rw [List.append_nil]; exact hr) (World.grownBy.refl w _) (own_row h5 (by decide)))
    | some ad =>
      exact wpList_plain hgd fun _ hK => wp_append_wrow x y ho base v ws hx hr [] [] ad 0 c hy rfl rfl (fun j u hu => by simp at hu) (fun i hi => absurd hi (Nat.not_lt_zero _)) hn hbase fun v' w' h1 h2 h3 => hK _ _ (h v' w' h1 h2 h3)
  · obtain ⟨b, off, rfl, hlt, hc⟩ := h4 h0
    have hadd : ∀ j, (⟨b, off, none⟩ : Addr).add j = ⟨b, off + j, none⟩ := fun j => by unfold Addr.add; split <;> simp_all
    -- the cells, as they lie
    let ys : List Value := (List.range (m * 2)).map fun j => (w.cell? ⟨b, off + j, none⟩).getD undef
    have hyl : ys.length = m * 2 := by simp [ys]
    have hyg : ∀ j, j < m * 2 → ys.getD j undef = (w.cell? ⟨b, off + j, none⟩).getD undef := fun j hj => by simp [ys, List.getD_eq_getElem?_getD, hj]
    refine wpList_plain hgd fun _ hK => wp_append_wrow x y ho base v ws hx hr ys ws' ⟨b, off, none⟩ m c hy h1 hyl (fun j u hu => ?_) (fun i hi => ?_) hn hbase fun v' w' h1 h2 h3 => hK _ _ (h v' w' h1 h2 h3)
    · have hj : j < m * 2 := by
        rcases Nat.lt_or_ge j ys.length with hj | hj
        · omega
        · rw [List.getElem?_eq_none hj] at hu; cases hu
      rw [hadd]
      have hg := hyg j hj
      rw [List.getD_eq_getElem?_getD, hu] at hg
      have hu' : u = (w.cell? ⟨b, off + j, none⟩).getD undef := hg
      obtain ⟨_, e3, A, c', e1, _⟩ := hc (j / 2) (by omega)
      rcases Nat.mod_two_eq_zero_or_one j with h0 | h0
      · rw [show j = j / 2 * 2 by omega] at hu' ⊢
        rw [hu', e3]
        rfl
      · rw [show j = j / 2 * 2 + 1 by omega] at hu' ⊢
        rw [← Nat.add_assoc] at hu' ⊢
        rw [hu', e1]
        rfl
    · obtain ⟨e0, e3, A, c', e1, e2⟩ := hc i (by omega)
      rw [hyg _ (by omega), hyg _ (by omega), e3, ← Nat.add_assoc, e1]
      refine ⟨e0, rfl, A, c', rfl, ?_⟩
      obtain ⟨h1, h2, h3, h4, h5⟩ := e2
      refine ⟨h1, h2, h3, h4, fun h0 => ?_⟩
      obtain ⟨b', off', e, hb, hc'⟩ := h5 h0
      exact ⟨b', off', e, by omega, .inl (by omega), hc'⟩
end
section
variable {l : List Oper} {Q : Exit → Act → World → Prop} {md : Region.Mode} {S : World → Prop} {i : Nat} {σ : List Nat} {o : Oper} {listed : Array Bool} {a : Act} {w : World}
end
end Go.Proofs.YtafbidhbmfdlkaaGreatDoor
/-
  What lasts where boxes of the call's own are written: blocks below a bound, and blocks of bytes, of slices of bytes, of writes, of numbers, stay.
-/
namespace Go.Proofs.YtafbidhbmfdlkaaGreatDoor
open Go.RowKit Go.Shelf
set_option maxRecDepth 100000

/-- Rows: bytes, slices of bytes, writes, numbers. -/
def rowT (t : TypeId) : Bool := t == 5 || t == 26 || t == 53 || t == 3
/-- Of these, those of which a store is made. -/
def rowT3 (t : TypeId) : Bool := t == 5 || t == 26 || t == 53
theorem rowT_of3 {t : TypeId} (h : rowT3 t = true) : rowT t = true := by
  unfold rowT3 at h
  unfold rowT
  rw [h]
  rfl
/-- From w to w' each block below L, and each row of which a store is made, stays as it is. -/
structure Keeps3 (L : Nat) (w w' : World) : Prop where
  os : w'.os = w.os
  tape : w'.tape = w.tape
  output : w'.output = w.output
  size : w.heap.size ≤ w'.heap.size
  low : ∀ b, b < w.heap.size → b < L → w'.heap[b]? = w.heap[b]?
  row : ∀ b t cs, Blk w b t cs → rowT3 t = true → Blk w' b t cs
theorem Keeps3.refl (L : Nat) (w : World) : Keeps3 L w w := ⟨rfl, rfl, rfl, Nat.le_refl _, fun _ _ _ => rfl, fun _ _ _ h _ => h⟩
theorem Keeps3.trans {L : Nat} {a b c : World} (h : Keeps3 L a b) (k : Keeps3 L b c) : Keeps3 L a c :=
  ⟨k.os.trans h.os, k.tape.trans h.tape, k.output.trans h.output, Nat.le_trans h.size k.size, fun i hi hl => (k.low i (Nat.lt_of_lt_of_le hi h.size) hl).trans (h.low i hi hl), fun i t cs hb ht => k.row i t cs (h.row i t cs hb ht) ht⟩
theorem Keeps3.of_below {L : Nat} {w w' : World} (h : Below w.heap.size w w') : Keeps3 L w w' :=
  ⟨h.os, h.tape, h.output, h.size, fun b hb _ => h.block b hb, fun _ _ _ hb _ => hb.below h hb.lt⟩
theorem Keeps3.of_box {L g : Nat} {w w' : World} {t : TypeId} {cs : Array Value} (hg : w.grownBy w' (some g)) (hb : Blk w g t cs) (ht : rowT3 t = false) (hL : L ≤ g) : Keeps3 L w w' :=
  ⟨hg.os, hg.tape, hg.output, hg.size, fun b hlt hl => hg.block b hlt (fun e => by injection e; omega), fun b t' cs' hb' ht' => hb'.grown hg (fun e => by
    obtain rfl : b = g := Option.some.inj e
    have he : some (Obj.cells cs t (0, 0)) = some (Obj.cells cs' t' (0, 0)) := (show w.heap[b]? = _ from hb).symm.trans (show w.heap[b]? = _ from hb')
    cases he
    rw [ht] at ht'
    cases ht')⟩
theorem Keeps3.below {L : Nat} {w w' : World} (h : Keeps3 L w w') (hL : L ≤ w.heap.size) : Below L w w' :=
  ⟨h.os, h.tape, h.output, h.size, fun b hb => h.low b (Nat.lt_of_lt_of_le hb hL) hb⟩
theorem Keeps3.more {L L' : Nat} {w w' : World} (h : Keeps3 L w w') (hL : L' ≤ L) : Keeps3 L' w w' :=
  ⟨h.os, h.tape, h.output, h.size, fun b hb hl => h.low b hb (Nat.lt_of_lt_of_le hl hL), h.row⟩
/-- From w to w' each block below L, and each row, stays as it is. -/
structure Keeps (L : Nat) (w w' : World) : Prop where
  os : w'.os = w.os
  tape : w'.tape = w.tape
  output : w'.output = w.output
  size : w.heap.size ≤ w'.heap.size
  low : ∀ b, b < w.heap.size → b < L → w'.heap[b]? = w.heap[b]?
  row : ∀ b t cs, Blk w b t cs → rowT t = true → Blk w' b t cs
theorem Keeps.refl (L : Nat) (w : World) : Keeps L w w := ⟨rfl, rfl, rfl, Nat.le_refl _, fun _ _ _ => rfl, fun _ _ _ h _ => h⟩
theorem Keeps.trans {L : Nat} {a b c : World} (h : Keeps L a b) (k : Keeps L b c) : Keeps L a c :=
  ⟨k.os.trans h.os, k.tape.trans h.tape, k.output.trans h.output, Nat.le_trans h.size k.size, fun i hi hl => (k.low i (Nat.lt_of_lt_of_le hi h.size) hl).trans (h.low i hi hl), fun i t cs hb ht => k.row i t cs (h.row i t cs hb ht) ht⟩
theorem Keeps.of_below {L : Nat} {w w' : World} (h : Below w.heap.size w w') : Keeps L w w' :=
  ⟨h.os, h.tape, h.output, h.size, fun b hb _ => h.block b hb, fun _ _ _ hb _ => hb.below h hb.lt⟩
theorem Keeps.of_box {L g : Nat} {w w' : World} {t : TypeId} {cs : Array Value} (hg : w.grownBy w' (some g)) (hb : Blk w g t cs) (ht : rowT t = false) (hL : L ≤ g) : Keeps L w w' :=
  ⟨hg.os, hg.tape, hg.output, hg.size, fun b hlt hl => hg.block b hlt (fun e => by injection e; omega), fun b t' cs' hb' ht' => hb'.grown hg (fun e => by
    obtain rfl : b = g := Option.some.inj e
    have he : some (Obj.cells cs t (0, 0)) = some (Obj.cells cs' t' (0, 0)) := (show w.heap[b]? = _ from hb).symm.trans (show w.heap[b]? = _ from hb')
    cases he
    rw [ht] at ht'
    cases ht')⟩
theorem Keeps.below {L : Nat} {w w' : World} (h : Keeps L w w') (hL : L ≤ w.heap.size) : Below L w w' :=
  ⟨h.os, h.tape, h.output, h.size, fun b hb => h.low b (Nat.lt_of_lt_of_le hb hL) hb⟩
theorem Keeps.more {L L' : Nat} {w w' : World} (h : Keeps L w w') (hL : L' ≤ L) : Keeps L' w w' :=
  ⟨h.os, h.tape, h.output, h.size, fun b hb hl => h.low b hb (Nat.lt_of_lt_of_le hl hL), h.row⟩
theorem Keeps.to3 {L : Nat} {w w' : World} (h : Keeps L w w') : Keeps3 L w w' := ⟨h.os, h.tape, h.output, h.size, h.low, fun b t cs hb ht => h.row b t cs hb (rowT_of3 ht)⟩
instance {L : Nat} {w w' : World} : Coe (Keeps L w w') (Keeps3 L w w') := ⟨Keeps.to3⟩
/-- What lasts. -/
def Lasts (L : Nat) (w : World) (P : World → Prop) : Prop := ∀ w', Keeps3 L w w' → P w'
section
variable {L : Nat} {w w' : World} {P : World → Prop}
theorem Lasts.now (h : Lasts L w P) : P w := h w (Keeps3.refl _ _)
theorem Lasts.step3 (h : Lasts L w P) (k : Keeps3 L w w') : Lasts L w' P := fun w2 k2 => h w2 (k.trans k2)
theorem Lasts.step (h : Lasts L w P) (k : Keeps L w w') : Lasts L w' P := h.step3 k.to3
theorem Lasts.bel (h : Lasts L w P) (b : Below w.heap.size w w') : Lasts L w' P := h.step3 (Keeps3.of_below b)
theorem Lasts.and {Q : World → Prop} (h : Lasts L w P) (k : Lasts L w Q) : Lasts L w fun W => P W ∧ Q W := fun w' hk => ⟨h w' hk, k w' hk⟩
theorem Lasts.less {L' : Nat} (h : Lasts L' w P) (hL : L' ≤ L) : Lasts L w P := fun w' k => h w' (k.more hL)
/-- What lasts where numbers' rows stay, too. -/
def LastsI (L : Nat) (w : World) (P : World → Prop) : Prop := ∀ w', Keeps L w w' → P w'
theorem LastsI.now (h : LastsI L w P) : P w := h w (Keeps.refl _ _)
theorem LastsI.step (h : LastsI L w P) (k : Keeps L w w') : LastsI L w' P := fun w2 k2 => h w2 (k.trans k2)
theorem LastsI.bel (h : LastsI L w P) (b : Below w.heap.size w w') : LastsI L w' P := h.step (Keeps.of_below b)
end
theorem own_keeps {L : Nat} {w w' : World} {B : Nat} {e : TypeId} {size : Nat} {v : Value} {n : Nat} {xs : List Value} (h : w.ownsRow B e size v n xs) (he : rowT e = true) (k : Keeps L w w') : w'.ownsRow B e size v n xs :=
  ⟨h.1, h.2.imp id fun ⟨g, cap, cur, h1, h2, h3, h4⟩ => ⟨g, cap, cur, h1, h2, k.row g e cur h3 he, h4⟩⟩
theorem own_keeps3 {L : Nat} {w w' : World} {B : Nat} {e : TypeId} {size : Nat} {v : Value} {n : Nat} {xs : List Value} (h : w.ownsRow B e size v n xs) (he : rowT3 e = true) (k : Keeps3 L w w') : w'.ownsRow B e size v n xs :=
  ⟨h.1, h.2.imp id fun ⟨g, cap, cur, h1, h2, h3, h4⟩ => ⟨g, cap, cur, h1, h2, k.row g e cur h3 he, h4⟩⟩
theorem bslO_keeps {L : Nat} {w w' : World} {n c : Nat} {A : Option Addr} {s : List UInt8} (h : BslO w 0 A n c s) (k : Keeps3 L w w') : BslO w' 0 A n c s := by
  obtain ⟨h1, h2, h3, h4, h5⟩ := h
  refine ⟨h1, h2, h3, h4, fun h0 => ?_⟩
  obtain ⟨b, off, e, hlt, ho, hc⟩ := h5 h0
  rcases ho with ho | ⟨cs, hcs⟩
  · exact absurd ho (Nat.not_lt_zero _)
  · have hk := k.row b _ cs hcs (by decide)
    refine ⟨b, off, e, hk.lt, .inr ⟨cs, hk⟩, fun i hi => ?_⟩
    rw [hk.cell, ← hcs.cell]
    exact hc i hi
theorem brow_keeps {L : Nat} {w w' : World} {base : Nat} {v : Value} {bl : List (List UInt8)} (h : BRowC w 0 base v bl) (k : Keeps3 L w w') : BRowC w' 0 base v bl := by
  obtain ⟨xs, h1, h2⟩ := h
  refine ⟨xs, own_keeps3 h1 (by decide) k, fun i hi => ?_⟩
  obtain ⟨A, c, h3, h4⟩ := h2 i hi
  exact ⟨A, c, h3, bslO_keeps h4 k⟩
theorem bsl_lasts {L : Nat} {w : World} {a : Option Addr} {n c : Nat} {s : List UInt8} (h : Bsl w L a n c s) (hL : L ≤ w.heap.size) : Lasts L w fun W => Bsl W W.heap.size a n c s :=
  fun _ k => (h.below (k.below hL)).more (Nat.le_trans hL k.size)
theorem own_lasts {L : Nat} {w : World} {B n c : Nat} {a : Option Addr} {s : List UInt8} (h : w.ownsRow B 5 1 (.slice a n c) n (vals s)) : Lasts L w fun W => Bsl W W.heap.size a n c s :=
  fun _ k => own_bsl (own_keeps3 h (by decide) k)
theorem dsk_lasts {L : Nat} {w : World} {x : DAt} {D : DkL} (h : Dsk w L x D) (hL : L ≤ w.heap.size) : Lasts L w fun W => Dsk W W.heap.size x D :=
  fun _ k => ⟨(h.1.below (k.below hL)).more (Nat.le_trans hL k.size), (h.2.below (k.below hL)).more (Nat.le_trans hL k.size)⟩
end Go.Proofs.YtafbidhbmfdlkaaGreatDoor
/-
  Tables of blocks as plain lists of bytes: which may be, which blocks are free, what is counted, what is settled.
-/
namespace Go.Proofs.YtafbidhbmfdlkaaGreatDoor
open Go.RowKit Go.Shelf
set_option maxRecDepth 100000

theorem ite_iff {α : Type} {p q : Prop} [Decidable p] [Decidable q] (h : p ↔ q) (a b : α) : (if p then a else b) = if q then a else b := by
  by_cases hp : p
  · rw [if_pos hp, if_pos (h.1 hp)]
  · rw [if_neg hp, if_neg (fun hq => hp (h.2 hq))]
/-- The mark of a block. -/
def mkT (s : List UInt8) (i : Nat) : Nat := (s.getD i 0).toNat
theorem mkT_lt (s : List UInt8) (i : Nat) : mkT s i < 256 := (s.getD i 0).toNat_lt
theorem mkT_set (s : List UInt8) (a : Nat) (y : UInt8) (i : Nat) (ha : a < s.length) : mkT (s.set a y) i = if i = a then y.toNat else mkT s i := by
  unfold mkT
  rw [List.getD_eq_getElem?_getD, List.getElem?_set, List.getD_eq_getElem?_getD]
  by_cases h : a = i
  · subst h; simp [ha]
  · rw [if_neg h, if_neg (fun e => h e.symm)]
/-- A table may be. -/
def MayT (s : List UInt8) : Prop := s.length = 256 ∧ (∀ i, i < 256 → mkT s i ≤ 2) ∧ ∀ i, i < 12 → mkT s i = 1
/-- The first place from p on, below n, where P holds; or there is none. -/
theorem first_from (P : Nat → Prop) (p n : Nat) : (∃ k, p ≤ k ∧ k < n ∧ P k ∧ ∀ i, p ≤ i → i < k → ¬ P i) ∨ ∀ i, p ≤ i → i < n → ¬ P i := by
  induction n with
  | zero => exact .inr fun i _ h => absurd h (Nat.not_lt_zero _)
  | succ n ih =>
    rcases ih with ⟨k, h1, h2, h3, h4⟩ | h
    · exact .inl ⟨k, h1, by omega, h3, h4⟩
    · by_cases hp : p ≤ n ∧ P n
      · exact .inl ⟨n, hp.1, Nat.lt_succ_self n, hp.2, h⟩
      · refine .inr fun i hi hl hpi => ?_
        rcases Nat.lt_or_ge i n with h5 | h5
        · exact h i hi h5 hpi
        · obtain rfl : i = n := by omega
          exact hp ⟨hi, hpi⟩
/-- The free blocks below n, rising. -/
def freeTo (s : List UInt8) : Nat → List Nat
  | 0 => []
  | n + 1 => if mkT s n = 0 then freeTo s n ++ [n] else freeTo s n
theorem freeTo_yes {s : List UInt8} {n : Nat} (h : mkT s n = 0) : freeTo s (n + 1) = freeTo s n ++ [n] := by rw [freeTo, if_pos h]
theorem freeTo_no {s : List UInt8} {n : Nat} (h : mkT s n ≠ 0) : freeTo s (n + 1) = freeTo s n := by rw [freeTo, if_neg h]
theorem freeTo_same {s : List UInt8} {p : Nat} : ∀ {n : Nat}, p ≤ n → (∀ i, p ≤ i → i < n → mkT s i ≠ 0) → freeTo s n = freeTo s p
  | n, h, hn => by
    rcases Nat.lt_or_ge p n with h1 | h1
    · obtain ⟨m, rfl⟩ : ∃ m, n = m + 1 := ⟨n - 1, by omega⟩
      rw [freeTo_no (hn m (by omega) (by omega)), freeTo_same (n := m) (by omega) fun i h2 h3 => hn i h2 (by omega)]
    · obtain rfl : n = p := by omega
      rfl
theorem freeTo_mem {s : List UInt8} : ∀ {n i : Nat}, i ∈ freeTo s n ↔ i < n ∧ mkT s i = 0
  | 0, i => by simp [freeTo]
  | n + 1, i => by
    by_cases h : mkT s n = 0
    · rw [freeTo_yes h, List.mem_append, freeTo_mem, List.mem_singleton]
      constructor
      · rintro (⟨h1, h2⟩ | rfl)
        · exact ⟨by omega, h2⟩
        · exact ⟨by omega, h⟩
      · rintro ⟨h1, h2⟩
        rcases Nat.lt_or_ge i n with h3 | h3
        · exact .inl ⟨h3, h2⟩
        · exact .inr (by omega)
    · rw [freeTo_no h, freeTo_mem]
      constructor
      · rintro ⟨h1, h2⟩; exact ⟨by omega, h2⟩
      · rintro ⟨h1, h2⟩
        refine ⟨?_, h2⟩
        rcases Nat.lt_or_ge i n with h3 | h3
        · exact h3
        · obtain rfl : i = n := by omega
          exact absurd h2 h
/-- The first n blocks settled. -/
def stTo (s : List UInt8) : Nat → List UInt8
  | 0 => s
  | n + 1 => if mkT s n = 2 then (stTo s n).set n 0 else stTo s n
theorem stTo_length (s : List UInt8) : ∀ n, (stTo s n).length = s.length
  | 0 => rfl
  | n + 1 => by rw [stTo]; split <;> simp [stTo_length s n]
theorem stTo_mk (s : List UInt8) : ∀ (n : Nat), n ≤ s.length → ∀ i, mkT (stTo s n) i = if i < n ∧ mkT s i = 2 then 0 else mkT s i
  | 0, _, i => by simp [stTo]
  | n + 1, hn, i => by
    have ih := stTo_mk s n (by omega) i
    have hl : n < (stTo s n).length := by rw [stTo_length]; omega
    rw [stTo]
    by_cases h : mkT s n = 2
    · rw [if_pos h, mkT_set _ _ _ _ hl, ih]
      by_cases e : i = n
      · subst e; simp [h]
      · rw [if_neg e]
        exact ite_iff ⟨fun h => ⟨by omega, h.2⟩, fun h => ⟨by omega, h.2⟩⟩ _ _
    · rw [if_neg h, ih]
      refine ite_iff ⟨fun h => ⟨by omega, h.2⟩, fun hh => ⟨?_, hh.2⟩⟩ _ _
      rcases Nat.lt_or_ge i n with h3 | h3
      · exact h3
      · obtain rfl : i = n := by omega
        exact absurd hh.2 h
/-- All that was given up is free. -/
def settleL (s : List UInt8) : List UInt8 := stTo s 256
theorem settleL_mk {s : List UInt8} (h : MayT s) {i : Nat} (hi : i < 256) : mkT (settleL s) i = if mkT s i = 2 then 0 else mkT s i := by
  unfold settleL
  rw [stTo_mk s 256 (by rw [h.1]; omega)]
  exact ite_iff ⟨fun h => h.2, fun h => ⟨hi, h⟩⟩ _ _
theorem settleL_may {s : List UInt8} (h : MayT s) : MayT (settleL s) := by
  refine ⟨by unfold settleL; rw [stTo_length]; exact h.1, fun i hi => ?_, fun i hi => ?_⟩
  · rw [settleL_mk h hi]
    have := h.2.1 i hi
    split <;> omega
  · rw [settleL_mk h (by omega), h.2.2 i hi]
    rfl
theorem set_may {s : List UInt8} (h : MayT s) {a : Nat} (ha : 12 ≤ a) (hb : a < 256) (y : UInt8) (hy : y.toNat ≤ 2) : MayT (s.set a y) := by
  have hl : a < s.length := by rw [h.1]; exact hb
  refine ⟨by simp [h.1], fun i hi => ?_, fun i hi => ?_⟩
  · rw [mkT_set s a y i hl]
    split
    · exact hy
    · exact h.2.1 i hi
  · rw [mkT_set s a y i hl, if_neg (by omega)]
    exact h.2.2 i hi
theorem MayT.free_ge {s : List UInt8} (h : MayT s) {a : Nat} (ha : mkT s a ≠ 1) : 12 ≤ a := by
  rcases Nat.lt_or_ge a 12 with h1 | h1
  · exact absurd (h.2.2 a h1) ha
  · exact h1
/-- The table that New tells: its first k fixed blocks are laid. -/
def newTo (k : Nat) : List UInt8 := List.replicate k 1 ++ List.replicate (256 - k) 0
theorem newTo_length {k : Nat} (h : k ≤ 256) : (newTo k).length = 256 := by simp [newTo]; omega
theorem newTo_set {k : Nat} (h : k < 256) : (newTo k).set k 1 = newTo (k + 1) := by
  unfold newTo
  rw [List.set_append_right _ _ (by simp), List.length_replicate, Nat.sub_self, show 256 - k = (256 - (k + 1)) + 1 by omega, List.replicate_succ, List.set_cons_zero, List.replicate_succ' (n := k), List.append_assoc]
  rfl
theorem newTo_mk (i : Nat) (hi : i < 256) : mkT (newTo 12) i = if i < 12 then 1 else 0 := by
  unfold mkT newTo
  rw [List.getD_eq_getElem?_getD]
  by_cases h : i < 12
  · rw [List.getElem?_append_left (by simpa using h), if_pos h, List.getElem?_replicate, if_pos h]
    rfl
  · rw [List.getElem?_append_right (by simp; omega), if_neg h, List.getElem?_replicate, List.length_replicate, if_pos (by omega)]
    rfl
theorem new_may : MayT (newTo 12) := by
  refine ⟨newTo_length (by omega), fun i hi => ?_, fun i hi => ?_⟩
  · rw [newTo_mk i hi]; split <;> omega
  · rw [newTo_mk i (by omega), if_pos hi]
end Go.Proofs.YtafbidhbmfdlkaaGreatDoor
/-
  Plain mathematics of layer 2: four words, turned there and back; the four words of bytes; texts of one length with one other piece have unlike four words. Nothing of the program.
-/
namespace Go.Proofs.YtafbidhbmfdlkaaGreatDoor
set_option maxRecDepth 100000

def pl (x y : BitVec 32) : BitVec 32 := x + y
def xo (x y : BitVec 32) : BitVec 32 := x ^^^ y
def ro (k : Nat) (x : BitVec 32) : BitVec 32 := x.rotateLeft k

/-- Four words. -/
structure W4 where
  a : BitVec 32
  b : BitVec 32
  c : BitVec 32
  d : BitVec 32

def halfT (k m : Nat) (x : W4) : W4 :=
  ⟨pl x.a x.b, ro m (xo x.b (pl x.c (ro k (xo x.d (pl x.a x.b))))), pl x.c (ro k (xo x.d (pl x.a x.b))), ro k (xo x.d (pl x.a x.b))⟩
def turnW (x : W4) : W4 := halfT 9 6 (halfT 15 11 x)
def turnsW : Nat → W4 → W4
  | 0, x => x
  | n + 1, x => turnW (turnsW n x)
/-- One piece, of the numbers m and n, is taken in. -/
def stepW (x : W4) (m n : BitVec 32) : W4 := turnsW 4 ⟨xo x.a m, x.b, xo x.c n, x.d⟩
/-- The byte at place i of a text, one byte 1 and noughts behind it. -/
def byteP (s : List UInt8) (i : Nat) : UInt8 := if h : i < s.length then s[i] else if i = s.length then 1 else 0
/-- Four of them. -/
def quadP (s : List UInt8) (i : Nat) : List UInt8 := [byteP s i, byteP s (i + 1), byteP s (i + 2), byteP s (i + 3)]
def wordP (s : List UInt8) (i : Nat) : BitVec 32 := BitVec.ofNat 32 (leN (quadP s i))
/-- The words behind so many pieces. -/
def behind (s : List UInt8) : Nat → W4
  | 0 => ⟨1, 2, 3, 4⟩
  | k + 1 => stepW (behind s k) (wordP s (8 * k)) (wordP s (8 * k + 4))
/-- The four words of a text. -/
def fourW (s : List UInt8) : W4 :=
  let x := behind s (s.length / 8 + 1)
  turnsW 8 ⟨x.a, xo x.b (BitVec.ofNat 32 s.length), x.c, x.d⟩

end Go.Proofs.YtafbidhbmfdlkaaGreatDoor
/-
  mix.Turn and mix.Back, whatever four words they are handed, answer these words turned, there and back; nothing that was there is written.
-/
namespace Go.Proofs.YtafbidhbmfdlkaaGreatDoor
open Go.RowKit Go.Shelf
set_option maxRecDepth 100000

theorem add32 (x y : BitVec 32) : ((x.toNat : Int) + (y.toNat : Int)) % 4294967296 = ((pl x y).toNat : Int) := by
  unfold pl
  rw [BitVec.toNat_add]
  show ((x.toNat : Int) + (y.toNat : Int)) % ((4294967296 : Nat) : Int) = _
  rw [Int.natCast_emod]
  rfl
theorem xor32 (x y : BitVec 32) : bits .xor .u32 (x.toNat : Int) (y.toNat : Int) = ((xo x y).toNat : Int) := by
  rw [u32_xor_nat _ _ x.isLt y.isLt]
  rfl
/-- What RotateLeft32 makes of its two shifts. -/
theorem rot32 (x : BitVec 32) (k l : Nat) (hk : 0 < k) (hl : l + k = 32) (hl0 : 0 < l) (m n : Int) (hm : m = (x.toNat : Int) * ((2 ^ k : Nat) : Int) % 4294967296) (hn : n = (x.toNat : Int) / ((2 ^ l : Nat) : Int)) : bits .or .u32 m n = ((ro k x).toNat : Int) := by
  have e1 : m = ((x.toNat * 2 ^ k % 4294967296 : Nat) : Int) := by rw [hm, Int.natCast_emod, Int.natCast_mul]; rfl
  have e2 : n = ((x.toNat / 2 ^ l : Nat) : Int) := by rw [hn, Int.natCast_ediv]
  have hx := x.isLt
  rw [e1, e2, u32_or_nat _ _ (Nat.mod_lt _ (by omega)) (Nat.lt_of_le_of_lt (Nat.div_le_self _ _) hx)]
  unfold ro
  rw [BitVec.rotateLeft_def, BitVec.toNat_or, BitVec.toNat_shiftLeft, BitVec.toNat_ushiftRight, Nat.mod_eq_of_lt (show k < 32 by omega), Nat.shiftLeft_eq, Nat.shiftRight_eq_div_pow, show 32 - k = l by omega]

theorem rot_any (x : BitVec 32) (z : Int) (k : Nat) (hk : (z = 15 ∧ k = 15) ∨ (z = 11 ∧ k = 11) ∨ (z = 9 ∧ k = 9) ∨ (z = 6 ∧ k = 6) ∨ (z = -15 ∧ k = 17) ∨ (z = -11 ∧ k = 21) ∨ (z = -9 ∧ k = 23) ∨ (z = -6 ∧ k = 26)) (w : World) :
    Calls Tryz.prog 296 #[.int .u32 (x.toNat : Int), .int .i64 z] w fun e w' => e = .returned (.int .u32 ((ro k x).toNat : Int)) ∧ w = w' := by
  have hx0 : (0 : Int) ≤ (x.toNat : Int) := by omega
  have hx1 : (x.toNat : Int) ≤ 4294967295 := by have := x.isLt; omega
  rcases hk with ⟨rfl, rfl⟩ | ⟨rfl, rfl⟩ | ⟨rfl, rfl⟩ | ⟨rfl, rfl⟩ | ⟨rfl, rfl⟩ | ⟨rfl, rfl⟩ | ⟨rfl, rfl⟩ | ⟨rfl, rfl⟩
  · have e1 : bits BinOp.and IntKind.u64 15 31 = 15 := by decide
    have e2 := rot32 x 15 17 (by omega) (by omega) (by omega) ((x.toNat : Int) * 32768 % 4294967296) ((x.toNat : Int) / 131072) (by simp) (by simp)
    go_enter Tryz.func296, Tryz.ntmps296
    go_wp2
    go_ret
    exact ⟨rfl, rfl⟩
  · have e1 : bits BinOp.and IntKind.u64 11 31 = 11 := by decide
    have e2 := rot32 x 11 21 (by omega) (by omega) (by omega) ((x.toNat : Int) * 2048 % 4294967296) ((x.toNat : Int) / 2097152) (by simp) (by simp)
    go_enter Tryz.func296, Tryz.ntmps296
    go_wp2
    go_ret
    exact ⟨rfl, rfl⟩
  · have e1 : bits BinOp.and IntKind.u64 9 31 = 9 := by decide
    have e2 := rot32 x 9 23 (by omega) (by omega) (by omega) ((x.toNat : Int) * 512 % 4294967296) ((x.toNat : Int) / 8388608) (by simp) (by simp)
    go_enter Tryz.func296, Tryz.ntmps296
    go_wp2
    go_ret
    exact ⟨rfl, rfl⟩
  · have e1 : bits BinOp.and IntKind.u64 6 31 = 6 := by decide
    have e2 := rot32 x 6 26 (by omega) (by omega) (by omega) ((x.toNat : Int) * 64 % 4294967296) ((x.toNat : Int) / 67108864) (by simp) (by simp)
    go_enter Tryz.func296, Tryz.ntmps296
    go_wp2
    go_ret
    exact ⟨rfl, rfl⟩
  · have e1 : bits BinOp.and IntKind.u64 (IntKind.u64.wrap (-15)) 31 = 17 := by decide
    have e2 := rot32 x 17 15 (by omega) (by omega) (by omega) ((x.toNat : Int) * 131072 % 4294967296) ((x.toNat : Int) / 32768) (by simp) (by simp)
    go_enter Tryz.func296, Tryz.ntmps296
    go_wp2
    go_ret
    exact ⟨rfl, rfl⟩
  · have e1 : bits BinOp.and IntKind.u64 (IntKind.u64.wrap (-11)) 31 = 21 := by decide
    have e2 := rot32 x 21 11 (by omega) (by omega) (by omega) ((x.toNat : Int) * 2097152 % 4294967296) ((x.toNat : Int) / 2048) (by simp) (by simp)
    go_enter Tryz.func296, Tryz.ntmps296
    go_wp2
    go_ret
    exact ⟨rfl, rfl⟩
  · have e1 : bits BinOp.and IntKind.u64 (IntKind.u64.wrap (-9)) 31 = 23 := by decide
    have e2 := rot32 x 23 9 (by omega) (by omega) (by omega) ((x.toNat : Int) * 8388608 % 4294967296) ((x.toNat : Int) / 512) (by simp) (by simp)
    go_enter Tryz.func296, Tryz.ntmps296
    go_wp2
    go_ret
    exact ⟨rfl, rfl⟩
  · have e1 : bits BinOp.and IntKind.u64 (IntKind.u64.wrap (-6)) 31 = 26 := by decide
    have e2 := rot32 x 26 6 (by omega) (by omega) (by omega) ((x.toNat : Int) * 67108864 % 4294967296) ((x.toNat : Int) / 64) (by simp) (by simp)
    go_enter Tryz.func296, Tryz.ntmps296
    go_wp2
    go_ret
    exact ⟨rfl, rfl⟩

/-- Four words as a value. -/
@[reducible] def ag (x : W4) : Value := .agg #[.int .u32 (x.a.toNat : Int), .int .u32 (x.b.toNat : Int), .int .u32 (x.c.toNat : Int), .int .u32 (x.d.toNat : Int)]

set_option maxHeartbeats 1000000 in
theorem turn_any (x : W4) (w : World) : Calls Tryz.prog 285 #[ag x] w fun e w' => e = .returned (ag (turnW x)) ∧ Below w.heap.size w w' := by
  have r1 := add32
  have r2 := xor32
  obtain ⟨a, b, c, d⟩ := x
  go_enter Tryz.func285, Tryz.ntmps285
  go_wp2_with (go_at_call 295; go_in)
  refine (rot_any _ 15 15 (by simp) _).mono ?_
  rintro e w' ⟨rfl, rfl⟩
  go_wp2_with (go_at_call 295; go_in)
  refine (rot_any _ 11 11 (by simp) _).mono ?_
  rintro e w' ⟨rfl, rfl⟩
  go_wp2_with fail
  go_end0
  go_wp2_with (go_at_call 295; go_in)
  refine (rot_any _ 9 9 (by simp) _).mono ?_
  rintro e w' ⟨rfl, rfl⟩
  go_wp2_with fail
  refine (rot_any _ 6 6 (by simp) _).mono ?_
  rintro e w' ⟨rfl, rfl⟩
  go_wp2_with fail
  go_end0
  go_wp2_with fail
  exact bodyPost_ret (v := ag (turnW ⟨a, b, c, d⟩)) (by simp [results, Tryz.results285, go_sem, turnW, halfT]) rfl ⟨rfl, ((Below.refl _ w).alloc (Nat.le_refl _) _).alloc (by simp) _⟩

/-- The cells of four words. -/
@[reducible] def cl (x : W4) : Array Value := #[.int .u32 (x.a.toNat : Int), .int .u32 (x.b.toNat : Int), .int .u32 (x.c.toNat : Int), .int .u32 (x.d.toNat : Int)]
end Go.Proofs.YtafbidhbmfdlkaaGreatDoor
/-
  mix.turns, mix.word and mix.take: so many turns; a word of a piece; a piece taken in; nothing that was there is written.
-/
namespace Go.Proofs.YtafbidhbmfdlkaaGreatDoor
open Go.RowKit Go.Shelf
set_option maxRecDepth 100000

set_option maxHeartbeats 1000000 in
theorem turns_any (x : W4) (n : Nat) (hn : n ≤ 1000) (w : World) : Calls Tryz.prog 260 #[ag x, .int .i64 n] w fun e w' => e = .returned (ag (turnsW n x)) ∧ Below w.heap.size w w' := by
  have hb0 : Blk ((w.alloc (.cells (cl x) 257)).alloc (.cells #[.int .u32 0, .int .u32 0, .int .u32 0, .int .u32 0] 257)) w.heap.size 257 (cl x) := (Blk.new w _ _).alloc _
  have hr0 := Blk.new (w.alloc (.cells (cl x) 257)) 257 #[.int .u32 0, .int .u32 0, .int .u32 0, .int .u32 0]
  have hB0 : Below w.heap.size w ((w.alloc (.cells (cl x) 257)).alloc (.cells #[.int .u32 0, .int .u32 0, .int .u32 0, .int .u32 0] 257)) := ((Below.refl _ w).alloc (Nat.le_refl _) _).alloc (by simp) _
  rw [World.size_alloc] at hr0
  have HB0 := Lib.hid hb0; clear hb0
  have HR0 := Lib.hid hr0; clear hr0
  have HBe := Lib.hid hB0; clear hB0
  have hn' : (n : Int) ≤ 1000 := by omega
  go_enter Tryz.func260, Tryz.ntmps260
  go_wp2_with fail
  go_loopw [6] (fun i wr => ∃ k : Nat, k ≤ n ∧ i = .int .i64 k ∧ Blk wr w.heap.size 257 (cl (turnsW k x)) ∧ Blk wr (w.heap.size + 1) 257 #[.int .u32 0, .int .u32 0, .int .u32 0, .int .u32 0] ∧ Below w.heap.size w wr) (fun i _ => n - (intOf i).toNat)
  case atStart => exact ⟨0, Nat.zero_le _, rfl, HB0.out, HR0.out, HBe.out⟩
  case round =>
    obtain ⟨k, hk, rfl, hb, hr, hbe⟩ := hrel
    have c0 := hb.cell 0
    have c1 := hb.cell 1
    have c2 := hb.cell 2
    have c3 := hb.cell 3
    have HB := Lib.hid hb; clear hb
    have HR := Lib.hid hr; clear hr
    have HE := Lib.hid hbe; clear hbe
    by_cases hlt : k < n
    · go_wp2_with fail
      refine (turn_any _ _).mono ?_
      rintro e w1 ⟨rfl, b1⟩
      have hb1 := HB.out.below b1 HB.out.lt
      have f := fun i => hb1.frozen i
      have d0 := hb1.cell 0
      have d1 := hb1.cell 1
      have d2 := hb1.cell 2
      have d3 := hb1.cell 3
      have HB1 := Lib.hid hb1; clear hb1
      have hr1 := HR.out.below b1 HR.out.lt
      have HR1 := Lib.hid hr1; clear hr1
      have he1 := HE.out.trans (b1.mono HE.out.size)
      have HE1 := Lib.hid he1; clear he1 b1
      clear c0 c1 c2 c3
      go_wp2_with fail
      go_roundw
      case rel => exact ⟨k + 1, by omega, by go_num, HB1.out.set4 _ _ _ _, (((HR1.out.far (by simp) _).far (by simp) _).far (by simp) _).far (by simp) _, below_set4 HE1.out (Nat.le_refl _) _ _ _ _⟩
      case measure => simp [intOf]; omega
    · obtain rfl : k = n := by omega
      have d0 := HR.out.cell 0
      have d1 := HR.out.cell 1
      have d2 := HR.out.cell 2
      have d3 := HR.out.cell 3
      have f := fun i => HR.out.frozen i
      go_wp2_with fail
      have hR := HR.out.set4 (.int .u32 ((turnsW k x).a.toNat : Int)) (.int .u32 ((turnsW k x).b.toNat : Int)) (.int .u32 ((turnsW k x).c.toNat : Int)) (.int .u32 ((turnsW k x).d.toNat : Int))
      have e0 := hR.cell 0
      have e1 := hR.cell 1
      have e2 := hR.cell 2
      have e3 := hR.cell 3
      have E := below_set4 HE.out (g := w.heap.size + 1) (by omega) (.int .u32 ((turnsW k x).a.toNat : Int)) (.int .u32 ((turnsW k x).b.toNat : Int)) (.int .u32 ((turnsW k x).c.toNat : Int)) (.int .u32 ((turnsW k x).d.toNat : Int))
      clear hR
      exact bodyPost_ret (v := ag (turnsW k x)) (by simp [results, Tryz.results260, go_sem, e0, e1, e2, e3]) rfl ⟨rfl, E⟩

/-- The number of four bytes of a piece. -/
theorem word_any (b off cap i : Nat) (s : List UInt8) (hs : s.length = 8) (hc8 : 8 ≤ cap) (hcm : cap ≤ 9223372036854775807) (hi : i + 4 ≤ 8) (w : World) (hb : b < w.heap.size)
    (hc : ∀ i (h : i < s.length), w.cell? ⟨b, off + i, none⟩ = some (.int .u8 ((s[i]).toNat : Int))) :
    Calls Tryz.prog 284 #[.slice (some ⟨b, off, none⟩) 8 cap, .int .i64 i] w fun e w' => e = .returned (.int .u32 (leN ((s.drop i).take 4) : Nat)) ∧ Below w.heap.size w w' := by
  have hlt : leN ((s.drop i).take 4) < 4294967296 := by
    have h1 := leN_lt ((s.drop i).take 4)
    have h2 : ((s.drop i).take 4).length = 4 := by simp; omega
    rw [h2] at h1
    exact h1
  have hg := get_ok b off 8 cap i 4 s hs hc8 hcm (by omega) (by omega) (by omega) w hb hc
  have HG := Lib.hid hg; clear hg hc hs
  obtain ⟨m, hm⟩ : ∃ m : Nat, leN ((s.drop i).take 4) = m := ⟨_, rfl⟩
  rw [hm] at hlt HG ⊢
  clear hm
  have h0 : (0 : Int) ≤ m := by omega
  have h1 : (m : Int) ≤ 4294967295 := by omega
  go_enter Tryz.func284, Tryz.ntmps284
  go_wp2_with fail
  refine HG.out.mono ?_
  rintro e w1 ⟨rfl, b1⟩
  go_wp2_with fail
  go_ret
  exact ⟨rfl, b1⟩

set_option maxHeartbeats 2000000 in
theorem take_any (x : W4) (b off cap : Nat) (s : List UInt8) (hs : s.length = 8) (hc8 : 8 ≤ cap) (hcm : cap ≤ 9223372036854775807) (w : World) (hb : b < w.heap.size)
    (hc : ∀ i (h : i < s.length), w.cell? ⟨b, off + i, none⟩ = some (.int .u8 ((s[i]).toNat : Int))) :
    Calls Tryz.prog 259 #[ag x, .slice (some ⟨b, off, none⟩) 8 cap] w fun e w' => e = .returned (ag (stepW x (BitVec.ofNat 32 (leN (s.take 4))) (BitVec.ofNat 32 (leN ((s.drop 4).take 4))))) ∧ Below w.heap.size w w' := by
  have r2 := xor32
  have hb0 : Blk ((w.alloc (.cells (cl x) 257)).alloc (.cells #[.int .u32 0, .int .u32 0, .int .u32 0, .int .u32 0] 257)) w.heap.size 257 (cl x) := (Blk.new w _ _).alloc _
  have hr0 := Blk.new (w.alloc (.cells (cl x) 257)) 257 #[.int .u32 0, .int .u32 0, .int .u32 0, .int .u32 0]
  have hB0 : Below w.heap.size w ((w.alloc (.cells (cl x) 257)).alloc (.cells #[.int .u32 0, .int .u32 0, .int .u32 0, .int .u32 0] 257)) := ((Below.refl _ w).alloc (Nat.le_refl _) _).alloc (by simp) _
  rw [World.size_alloc] at hr0
  have wd : ∀ (z : Int) (i : Nat), z = i → i + 4 ≤ 8 → ∀ W, Below w.heap.size w W → Calls Tryz.prog 284 #[.slice (some ⟨b, off, none⟩) 8 cap, .int .i64 z] W fun e w' => e = .returned (.int .u32 ((BitVec.ofNat 32 (leN ((s.drop i).take 4))).toNat : Int)) ∧ Below W.heap.size W w' := fun z i hz hi W hW => by
    subst hz
    have e1 : (BitVec.ofNat 32 (leN ((s.drop i).take 4))).toNat = leN ((s.drop i).take 4) := by
      rw [BitVec.toNat_ofNat]
      have h1 := leN_lt ((s.drop i).take 4)
      have h2 : ((s.drop i).take 4).length = 4 := by simp; omega
      rw [h2] at h1
      exact Nat.mod_eq_of_lt h1
    rw [e1]
    exact word_any b off cap i s hs hc8 hcm hi W (Nat.lt_of_lt_of_le hb hW.size) (fun j hj => (hW.cell (p := ⟨b, off + j, none⟩) hb).trans (hc j hj))
  obtain ⟨m, hm⟩ : ∃ m, BitVec.ofNat 32 (leN (s.take 4)) = m := ⟨_, rfl⟩
  obtain ⟨n, hn⟩ : ∃ n, BitVec.ofNat 32 (leN ((s.drop 4).take 4)) = n := ⟨_, rfl⟩
  have wd0 := wd 0 0 rfl (by omega)
  have wd4 := wd 4 4 rfl (by omega)
  rw [List.drop_zero, hm] at wd0
  rw [hn] at wd4
  rw [hm, hn]
  clear hc hs wd hm hn
  have WD0 := Lib.hid wd0; clear wd0
  have WD4 := Lib.hid wd4; clear wd4
  obtain ⟨w0, hw0⟩ : ∃ w0, ((w.alloc (.cells (cl x) 257)).alloc (.cells #[.int .u32 0, .int .u32 0, .int .u32 0, .int .u32 0] 257)) = w0 := ⟨_, rfl⟩
  rw [hw0] at hb0 hr0 hB0
  have HW0 := Lib.hid hw0; clear hw0
  obtain ⟨a, bb, c, d⟩ := x
  have c0 := hb0.cell 0
  have f := fun i => hb0.frozen i
  have HB0 := Lib.hid hb0; clear hb0
  have HR0 := Lib.hid hr0; clear hr0
  have HBe := Lib.hid hB0; clear hB0
  go_enter Tryz.func259, Tryz.ntmps259
  go_wp2_with fail
  rw [HW0.out]
  go_region_with (first | (go_at_call 284; (refine (WD0.out _ ?_).mono ?_); exact HBe.out.drew; rintro e w1 ⟨rfl, b1⟩; have fr1 := (HB0.out.drew.below b1 HB0.out.lt).frozen 0; have cr1 := (HB0.out.drew.below b1 HB0.out.lt).cell 0))
  all_goals
    obtain ⟨w2, hw2⟩ : ∃ w2, w1.setCell ⟨w.heap.size, 0, none⟩ (.int .u32 ((xo a m).toNat : Int)) = w2 := ⟨_, rfl⟩
    have hb2 : Blk w2 w.heap.size 257 (cl ⟨xo a m, bb, c, d⟩) := hw2 ▸ (HB0.out.drew.below b1 HB0.out.lt).set_ 0 _
    have hr2 : Blk w2 (w.heap.size + 1) 257 #[.int .u32 0, .int .u32 0, .int .u32 0, .int .u32 0] := hw2 ▸ (HR0.out.drew.below b1 HR0.out.lt).far (by simp) _
    have he2 : Below w.heap.size w w2 := hw2 ▸ (HBe.out.drew.trans (b1.mono HBe.out.size)).setCell (p := ⟨w.heap.size, 0, none⟩) (Nat.le_refl _) _
    have HW2 := Lib.hid hw2; clear hw2
    clear b1 fr1 cr1 c0 f
    have c2 := hb2.cell 2
    have f := fun i => hb2.frozen i
    have HB2 := Lib.hid hb2; clear hb2
    have HR2 := Lib.hid hr2; clear hr2
    have HE2 := Lib.hid he2; clear he2
    rw [HW2.out]
    go_wp2_with fail
    go_region_with (first | (go_at_call 284; (refine (WD4.out _ ?_).mono ?_); exact HE2.out.drew; rintro e w3 ⟨rfl, b3⟩; have fr1 := (HB2.out.drew.below b3 HB2.out.lt).frozen 2; have cr1 := (HB2.out.drew.below b3 HB2.out.lt).cell 2))
    all_goals
      obtain ⟨w4, hw4⟩ : ∃ w4, w3.setCell ⟨w.heap.size, 2, none⟩ (.int .u32 ((xo c n).toNat : Int)) = w4 := ⟨_, rfl⟩
      have hb4 : Blk w4 w.heap.size 257 (cl ⟨xo a m, bb, xo c n, d⟩) := hw4 ▸ (HB2.out.drew.below b3 HB2.out.lt).set_ 2 _
      have hr4 : Blk w4 (w.heap.size + 1) 257 #[.int .u32 0, .int .u32 0, .int .u32 0, .int .u32 0] := hw4 ▸ (HR2.out.drew.below b3 HR2.out.lt).far (by simp) _
      have he4 : Below w.heap.size w w4 := hw4 ▸ (HE2.out.drew.trans (b3.mono HE2.out.size)).setCell (p := ⟨w.heap.size, 2, none⟩) (Nat.le_refl _) _
      have HW4 := Lib.hid hw4; clear hw4
      clear b3 fr1 cr1 c2 f
      have c0 := hb4.cell 0
      have c1 := hb4.cell 1
      have c2 := hb4.cell 2
      have c3 := hb4.cell 3
      have HB4 := Lib.hid hb4; clear hb4
      have HR4 := Lib.hid hr4; clear hr4
      have HE4 := Lib.hid he4; clear he4
      rw [HW4.out]
      go_wp2_with fail
      refine (turns_any ⟨xo a m, bb, xo c n, d⟩ 4 (by omega) _).mono ?_
      rintro e w5 ⟨rfl, b5⟩
      have hr5 := HR4.out.below b5 HR4.out.lt
      have he5 := HE4.out.trans (b5.mono HE4.out.size)
      have f := fun i => hr5.frozen i
      have d0 := hr5.cell 0
      have d1 := hr5.cell 1
      have d2 := hr5.cell 2
      have d3 := hr5.cell 3
      have HR5 := Lib.hid hr5; clear hr5
      have HE5 := Lib.hid he5; clear he5 b5
      obtain ⟨y, hy⟩ : ∃ y, turnsW 4 ⟨xo a m, bb, xo c n, d⟩ = y := ⟨_, rfl⟩
      rw [hy]
      have HY := Lib.hid hy; clear hy
      go_wp2_with fail
      have hR := HR5.out.set4 (.int .u32 (y.a.toNat : Int)) (.int .u32 (y.b.toNat : Int)) (.int .u32 (y.c.toNat : Int)) (.int .u32 (y.d.toNat : Int))
      have e0 := hR.cell 0
      have e1 := hR.cell 1
      have e2 := hR.cell 2
      have e3 := hR.cell 3
      have E := below_set4 HE5.out (g := w.heap.size + 1) (by omega) (.int .u32 (y.a.toNat : Int)) (.int .u32 (y.b.toNat : Int)) (.int .u32 (y.c.toNat : Int)) (.int .u32 (y.d.toNat : Int))
      clear hR
      exact bodyPost_ret (v := ag y) (by simp [results, Tryz.results259, go_sem, e0, e1, e2, e3]) rfl ⟨by rw [← HY.out]; rfl, E⟩
end Go.Proofs.YtafbidhbmfdlkaaGreatDoor
/-
  slices.Chunk of a slice of bytes by eights, of a length that eights make up, hands the loop its windows in their order.
-/
namespace Go.Proofs.YtafbidhbmfdlkaaGreatDoor
open Go.RowKit Go.Shelf
set_option maxRecDepth 100000
attribute [local go_sem] Oper.semAt_some

/-- What the walk goes on reading: the box of the slice, and that of the size. -/
def ReachC (Bs Bn : Nat) (A : Option Addr) (q cap : Nat) (W : World) : Prop :=
  W.cell? ⟨Bs, 0, none⟩ = some (.slice A (8 * q) cap) ∧ W.cell? ⟨Bn, 0, none⟩ = some (.int .i64 8)

theorem chunk_in (F : Fence) (n : Nat) (h : F.fn 159) (hro : F.round = none) (a : Option Addr) (len cap : Nat) (w : World) :
    CallsIn F n Tryz.prog 159 #[.slice a len cap, .int .i64 8] w fun e w' => e = .returned (.func (.func 230) #[] #[.pointer (some ⟨w.heap.size, 0, none⟩), .pointer (some ⟨w.heap.size + 1, 0, none⟩)]) ∧
      w' = (w.alloc (.cells #[.slice a len cap] 26)).alloc (.cells #[.int .i64 8] 3) := by
  refine callsIn_of_wp Tryz.func159 rfl h ?_ hro
  simp only [Tryz.ntmps159, List.size_toArray, List.length_cons, List.length_nil, Nat.reduceAdd, Nat.reduceSub, Array.replicate_succ, Array.replicate_zero, List.push_toArray, List.append_toArray, List.nil_append, List.cons_append]
  gi_wp2
  go_ret
  exact ⟨rfl, rfl⟩

/-- s[l:], where it is not empty. -/
theorem slice_l (W : World) (g off len cap l : Nat) (hl : l < len) (hc : len ≤ cap) : (Instr.slice 26 (.slice (some ⟨g, off, none⟩) len cap) (some (.int .i64 (l : Int))) none none).run Tryz.prog W = .ok (.slice (some ⟨g, off + l, none⟩) (len - l) (cap - l)) W := by
  rw [run_slice_l W 26 _ _ _ (by kernel_rfl) .i64 _ (by omega) (by omega)]
  have hz : (Go.sizeOf (Tryz.prog.elem 26)).run Tryz.prog W = .ok 1 W := by kernel_rfl
  rw [hz]
  simp [Result.andThen, sliced, Addr.add]
  rw [if_neg (by omega)]
  by_cases h0 : l = 0
  · subst h0; simp
  · rw [if_neg h0]
/-- The window of number x. -/
@[reducible] def win (b off : Nat) (x : Nat) : Array Value := #[.slice (some ⟨b, off + 8 * x, none⟩) 8 8]

set_option maxHeartbeats 2000000 in
theorem chunk1_in (n : Nat) (hn : 1 ≤ n) (l Bs Bn b off q cap : Nat) (A : Option Addr) (hA : 0 < q → A = some ⟨b, off, none⟩) (hqc : 8 * q ≤ cap) (hcm : cap ≤ 9223372036854775807) (J Jx : List (Fin q) → World → Prop)
    (hY : ∀ pre x W, J pre W → pre.length < q → YieldAt Fence.wide (n - 1) Tryz.prog l (win b off x.val) W fun e W' =>
      (e = .returned (.bool true) ∧ J (pre ++ [x]) W' ∧ (ReachC Bs Bn A q cap W → ReachC Bs Bn A q cap W')) ∨ (e = .returned (.bool false) ∧ Jx (pre ++ [x]) W'))
    (hJd : ∀ pre W, J pre W → J pre W.drew)
    (W : World) (hR : ReachC Bs Bn A q cap W) (h0 : J [] W) :
    CallsIn Fence.wide n Tryz.prog 230 #[.func (.yield l) #[] #[], .pointer (some ⟨Bs, 0, none⟩), .pointer (some ⟨Bn, 0, none⟩)] W fun e W' => (∃ v, e = .returned v) ∧
      ((∃ ys, ys.map (·.val) = List.range q ∧ J ys W') ∨ (∃ pre, pre.map (·.val) = List.range pre.length ∧ Jx pre W')) := by
  refine callsIn_of_wp Tryz.func230 rfl trivial ?_ rfl
  simp only [Tryz.ntmps230, List.size_toArray, List.length_cons, List.length_nil, Nat.reduceAdd, Nat.reduceSub, Array.replicate_succ, Array.replicate_zero, List.push_toArray, List.append_toArray, List.nil_append, List.cons_append]
  have hmx : Tryz.prog.follows Departure.mixedOrders = true := by kernel_rfl
  have HR := Lib.hid hR
  clear hR
  gi_wp2
  gi_loopw [4] (fun i wr => ∃ pre : List (Fin q), pre.map (·.val) = List.range pre.length ∧ pre.length ≤ q ∧ i = .int .i64 ((8 * pre.length : Nat) : Int) ∧ J pre wr ∧ ReachC Bs Bn A q cap wr)
    (fun i _ => 8 * q - (intOf i).toNat)
  case atStart => exact ⟨[], rfl, Nat.zero_le _, rfl, h0, HR.out⟩
  case round =>
    obtain ⟨pre, hC, hle, rfl, hJs, hRs⟩ := hrel
    obtain ⟨k, hk⟩ : ∃ k, pre.length = k := ⟨_, rfl⟩
    have hb1 := hRs.1
    have hb2 := hRs.2
    obtain ⟨m, hm⟩ : ∃ m : Nat, 8 * k = m := ⟨_, rfl⟩
    obtain ⟨L, hL⟩ : ∃ L : Nat, 8 * q = L := ⟨_, rfl⟩
    rw [hL] at hb1
    rw [hk, hm]
    by_cases hlt : k < q
    · rw [hA (by omega)] at hb1
      have hmL : m < L := by omega
      have hm8 : m + 8 ≤ L := by omega
      have hLc : L ≤ cap := by omega
      have HRs := Lib.hid hRs; clear hRs
      have HM := Lib.hid hm; clear hm
      have HL := Lib.hid hL; clear hL
      have HK := Lib.hid hk; clear hk
      have h8 : ((m : Int) < (L : Int)) := by omega
      have h80 : (0 : Int) ≤ (m : Int) := by omega
      have h8m : (L : Int) ≤ 9223372036854775807 := by omega
      have hsl := fun W => slice_l W b off L cap m hmL hLc
      have hmin : min (8 : Int) ((L - m : Nat) : Int) = 8 := by omega
      gi_wp2
      refine region_wide_tail 6 hmx (by kernel_rfl) (fun h => by obtain ⟨_, _, ⟨v, hv⟩, _⟩ := h; cases hv) (by kernel_rfl) ?_
      simp only [List.take_succ_cons, List.take_zero, List.drop_succ_cons, List.drop_zero]
      repeat still_step
      refine wpStill_nil ?_
      obtain ⟨fn, tmps, assign, body, hy, hR⟩ := hY pre ⟨k, hlt⟩ wr.drew (hJd _ _ hJs) (by rw [HK.out]; exact hlt)
      have hw : win b off k = #[.slice (some ⟨b, off + m, none⟩) 8 8] := by rw [win, HM.out]
      dsimp only at hy
      rw [hw] at hy
      clear hw
      have HC := Lib.hid hC; clear hC
      go_wp2
      gi_wp2
      refine hR.mono ?_
      rintro e W3 (⟨rfl, hJ3, hk3⟩ | ⟨rfl, hJx3⟩)
      · have hr3 := hk3 HRs.out
        have hb3 := hr3.2
        have HR3 := Lib.hid hr3; clear hr3 hk3
        gi_wp2
        go_roundw
        case rel => exact ⟨pre ++ [⟨k, hlt⟩], by simp [HC.out, List.range_succ, HK.out], by simp; rw [HK.out]; omega, by simp [HK.out]; have := HM.out; omega, hJ3, HR3.out⟩
        case measure => simp [intOf]; have := HM.out; have := HL.out; omega
      · gi_wp2
        refine bodyPost_ret (results_none rfl _ _ _) rfl ?_
        exact ⟨⟨_, rfl⟩, .inr ⟨_, by simp [HC.out, List.range_succ, HK.out], hJx3⟩⟩
    · have hkq : k = q := by omega
      have hmL : m = L := by omega
      rw [hmL]
      have HRs := Lib.hid hRs; clear hRs
      have HM := Lib.hid hm; clear hm
      have HL := Lib.hid hL; clear hL
      have HK := Lib.hid hk; clear hk
      have HKQ := Lib.hid hkq; clear hkq
      have HC := Lib.hid hC; clear hC
      clear hmL
      gi_wp2
      go_end0
      exact ⟨⟨_, rfl⟩, .inl ⟨pre, by rw [HC.out, HK.out, HKQ.out], hJs⟩⟩

theorem reachC_putObj {Bs Bn : Nat} {A : Option Addr} {q cap : Nat} {W : World} (l : Nat) (o o' : Obj) (h : W.heap[l]? = some o) (ho : o.isCells = false) (hR : ReachC Bs Bn A q cap W) : ReachC Bs Bn A q cap (W.putObj l o') := by
  have hk : ∀ r, some l = some r → ∃ o : Obj, W.heap[r]? = some o ∧ o.isCells = false := fun r e => by cases e; exact ⟨_, h, ho⟩
  exact ⟨cell_kept hR.1 (grownBy_putObj' W l o') hk, cell_kept hR.2 (grownBy_putObj' W l o') hk⟩

theorem stopsC (n : Nat) (hn : 1 ≤ n) (Bs Bn b off q cap : Nat) (A : Option Addr) (hA : 0 < q → A = some ⟨b, off, none⟩) (hqc : 8 * q ≤ cap) (hcm : cap ≤ 9223372036854775807) (w : World) (hBs : Bs < w.heap.size) (hBn : Bn < w.heap.size) (hR : ReachC Bs Bn A q cap w) :
    SeqStopsK Fence.wide n Tryz.prog 230 #[.pointer (some ⟨Bs, 0, none⟩), .pointer (some ⟨Bn, 0, none⟩)] (fun x : Fin q => win b off x.val) (fun W W' => ReachC Bs Bn A q cap W → ReachC Bs Bn A q cap W')
      (fun ys => ys.map (·.val) = List.range q) (fun pre => pre.map (·.val) = List.range pre.length) q w := fun l J Jx W hW hJ _ hY h0 =>
  chunk1_in n hn l Bs Bn b off q cap A hA hqc hcm J Jx hY (fun s W1 h => hJ s W1 W1.drew none h (only_drew (World.grownBy.refl W1 none)) (fun r e => by cases e)) W
    ⟨(hW.cell (p := ⟨Bs, 0, none⟩) hBs).trans hR.1, (hW.cell (p := ⟨Bn, 0, none⟩) hBn).trans hR.2⟩ h0
end Go.Proofs.YtafbidhbmfdlkaaGreatDoor
/-
  mix.Four, whatever bytes it is handed, answers the four words of these bytes; nothing that was there is written.
-/
namespace Go.Proofs.YtafbidhbmfdlkaaGreatDoor
open Go.RowKit Go.Shelf
set_option maxRecDepth 100000
attribute [local go_sem] Oper.semAt_some

/-- b[:h], b nil or not. -/
theorem slice_to (W : World) (a : Option Addr) (len cap h : Nat) (hc : h ≤ cap) : (Instr.slice 26 (.slice a len cap) none (some (.int .i64 (h : Int))) none).run Tryz.prog W = .ok (.slice a h cap) W := by
  rw [run_slice_h W 26 _ _ _ (by kernel_rfl) .i64 _ (by omega) (by omega)]
  have hz : (Go.sizeOf (Tryz.prog.elem 26)).run Tryz.prog W = .ok 1 W := by kernel_rfl
  rw [hz]
  cases a <;> simp [Result.andThen, sliced, Addr.add]
/-- b[l:], b nil or not. -/
theorem slice_from (a : Option Addr) (len cap l : Nat) (hl : l ≤ len) (hc : len ≤ cap) : ∃ A', (∀ W : World, (Instr.slice 26 (.slice a len cap) (some (.int .i64 (l : Int))) none none).run Tryz.prog W = .ok (.slice A' (len - l) (cap - l)) W) ∧ (l < len → ∀ b off, a = some ⟨b, off, none⟩ → A' = some ⟨b, off + l, none⟩) := by
  have hz : ∀ W : World, (Go.sizeOf (Tryz.prog.elem 26)).run Tryz.prog W = .ok 1 W := fun W => by kernel_rfl
  cases a with
  | none =>
    refine ⟨none, fun W => ?_, fun _ b off h => by cases h⟩
    rw [run_slice_l W 26 _ _ _ (by kernel_rfl) .i64 _ (by omega) (by omega), hz]
    simp [Result.andThen, sliced]
    try omega
  | some x =>
    refine ⟨if cap = l then some x else some (if l = 0 then x else x.add l), fun W => ?_, fun h b off e => ?_⟩
    · rw [run_slice_l W 26 _ _ _ (by kernel_rfl) .i64 _ (by omega) (by omega), hz]
      have e0 : (if l = 0 then x else x.add l) = x.add l := by
        by_cases h0 : l = 0
        · subst h0; simp [Addr.add]
        · rw [if_neg h0]
      simp [Result.andThen, sliced, e0]
    · cases e
      rw [if_neg (by omega)]
      by_cases h0 : l = 0
      · subst h0; simp
      · rw [if_neg h0]; unfold Addr.add; rw [if_neg h0]

/-- Eight bytes of a text, one byte 1 and noughts behind it. -/
def octP (s : List UInt8) (j : Nat) : List UInt8 := [byteP s j, byteP s (j + 1), byteP s (j + 2), byteP s (j + 3), byteP s (j + 4), byteP s (j + 5), byteP s (j + 6), byteP s (j + 7)]
theorem octP_get (s : List UInt8) (j i : Nat) (h : i < (octP s j).length) : (octP s j)[i] = byteP s (j + i) := by
  have h8 : i < 8 := h
  have : i = 0 ∨ i = 1 ∨ i = 2 ∨ i = 3 ∨ i = 4 ∨ i = 5 ∨ i = 6 ∨ i = 7 := by omega
  rcases this with rfl | rfl | rfl | rfl | rfl | rfl | rfl | rfl <;> rfl
theorem octP_lo (s : List UInt8) (j : Nat) : (octP s j).take 4 = quadP s j := rfl
theorem octP_hi (s : List UInt8) (j : Nat) : ((octP s j).drop 4).take 4 = quadP s (j + 4) := rfl

/-- The words behind these pieces, whichever they are. -/
def foldP (s : List UInt8) (pre : List Nat) : W4 := pre.foldl (fun x k => stepW x (wordP s (8 * k)) (wordP s (8 * k + 4))) ⟨1, 2, 3, 4⟩
theorem foldP_snoc (s : List UInt8) (pre : List Nat) (k : Nat) : foldP s (pre ++ [k]) = stepW (foldP s pre) (wordP s (8 * k)) (wordP s (8 * k + 4)) := by simp [foldP]
theorem foldP_range (s : List UInt8) : ∀ k, foldP s (List.range k) = behind s k
  | 0 => rfl
  | k + 1 => by rw [List.range_succ, foldP_snoc, foldP_range s k]; rfl

theorem vals_length (s : List UInt8) : (vals s).length = s.length := by simp [vals]
/-- What copy lays at the beginning of eight noughts, and one byte 1 behind it. -/
theorem octP_laid (s : List UInt8) (L r : Nat) (hr : r < 8) (hs : s.length = L + r) :
    ((splice (List.replicate 8 (Value.int .u8 0)) 0 (vals (s.drop L))).toArray).setIfInBounds r (.int .u8 1) = (vals (octP s L)).toArray := by
  have hcl : (vals (s.drop L)).length = r := by rw [vals_length, List.length_drop]; omega
  obtain ⟨Z, hZ⟩ : ∃ Z, List.replicate 8 (Value.int .u8 0) = Z := ⟨_, rfl⟩
  have hZl : Z.length = 8 := by rw [← hZ]; rfl
  have hZg : ∀ i (h : i < Z.length), Z[i] = .int .u8 0 := by subst hZ; intro i h; exact List.getElem_replicate _
  rw [hZ]
  clear hZ
  have hlen : (splice Z 0 (vals (s.drop L))).length = 8 := by rw [length_splice _ _ _ (by omega), hZl]
  have ho : (vals (octP s L)).length = 8 := by rw [vals_length]; rfl
  apply Array.ext
  · rw [Array.size_setIfInBounds, List.size_toArray, List.size_toArray, hlen, ho]
  intro i h1 h2
  have hi8 : i < (octP s L).length := by rw [List.size_toArray, vals_length] at h2; exact h2
  have hi9 : i < 8 := hi8
  have hR : ((vals (octP s L)).toArray)[i] = .int .u8 ((byteP s (L + i)).toNat : Int) := by
    have hget := octP_get s L i hi8
    show (List.map (fun x : UInt8 => Value.int .u8 (x.toNat : Int)) (octP s L))[i]'(by rw [List.length_map]; exact hi8) = _
    rw [List.getElem_map, hget]
  refine Eq.trans ?_ hR.symm
  rw [Array.getElem_setIfInBounds (by rw [List.size_toArray, hlen]; exact hi9)]
  by_cases e : r = i
  · subst e
    rw [if_pos rfl]
    unfold byteP
    rw [dif_neg (by omega), if_pos (by omega)]
    rfl
  · rw [if_neg e]
    simp only [List.getElem_toArray, splice, List.take_zero, List.nil_append, Nat.zero_add]
    by_cases hlt : i < r
    · rw [List.getElem_append_left (by rw [hcl]; exact hlt)]
      simp only [vals, List.getElem_map, List.getElem_drop]
      unfold byteP
      rw [dif_pos (by omega)]
    · rw [List.getElem_append_right (by rw [hcl]; omega)]
      simp only [List.getElem_drop, hZg]
      unfold byteP
      rw [dif_neg (by omega), if_neg (by omega)]
      rfl

/-- What the loop of Four keeps: the block of x, that of the result, and what lay below. -/
def FourI (s : List UInt8) (g q : Nat) (w : World) (pre : List (Fin q)) (W : World) : Prop :=
  (Blk W (g + 1) 257 (cl (foldP s (pre.map (·.val)))) ∧ Blk W g 257 #[.int .u32 0, .int .u32 0, .int .u32 0, .int .u32 0]) ∧ Below g w W

theorem keepsOthers_below {W W' : World} (h : Below W.heap.size W W') : KeepsOthers W W' := ⟨h.size, fun k _ hk _ => (h.block k (Array.getElem?_eq_some_iff.1 hk).1).trans hk⟩
theorem keepsOthers_set4 (W : World) (g : Nat) (v0 v1 v2 v3 : Value) : KeepsOthers W ((((W.setCell ⟨g, 0, none⟩ v0).setCell ⟨g, 1, none⟩ v1).setCell ⟨g, 2, none⟩ v2).setCell ⟨g, 3, none⟩ v3) :=
  (((KeepsOthers.setCell _ _ _).trans (KeepsOthers.setCell _ _ _)).trans (KeepsOthers.setCell _ _ _)).trans (KeepsOthers.setCell _ _ _)
theorem cell_set4 {W : World} {g : Nat} {p : Addr} (hp : p.block ≠ g) (v0 v1 v2 v3 : Value) : ((((W.setCell ⟨g, 0, none⟩ v0).setCell ⟨g, 1, none⟩ v1).setCell ⟨g, 2, none⟩ v2).setCell ⟨g, 3, none⟩ v3).cell? p = W.cell? p := by
  have hne : ∀ i, (⟨g, i, none⟩ : Addr) ≠ p := fun i e => hp (by rw [← e])
  rw [World.cell?_setCell_other _ _ _ _ (hne 3), World.cell?_setCell_other _ _ _ _ (hne 2), World.cell?_setCell_other _ _ _ _ (hne 1), World.cell?_setCell_other _ _ _ _ (hne 0)]
theorem reachC_step {Bs Bn g : Nat} {A : Option Addr} {q cap : Nat} {W W1 : World} (hBs : Bs ≠ g) (hBn : Bn ≠ g) (hb : Below W.heap.size W W1) (v0 v1 v2 v3 : Value) (hR : ReachC Bs Bn A q cap W) :
    ReachC Bs Bn A q cap ((((W1.setCell ⟨g, 0, none⟩ v0).setCell ⟨g, 1, none⟩ v1).setCell ⟨g, 2, none⟩ v2).setCell ⟨g, 3, none⟩ v3) := by
  have h1 := World.block_lt_of_cell? W _ hR.1
  have h2 := World.block_lt_of_cell? W _ hR.2
  exact ⟨(cell_set4 (p := ⟨Bs, 0, none⟩) hBs _ _ _ _).trans ((hb.cell h1).trans hR.1), (cell_set4 (p := ⟨Bn, 0, none⟩) hBn _ _ _ _).trans ((hb.cell h2).trans hR.2)⟩
theorem blk_own {β : Type} (B : Nat) (t : TypeId) (f : β → Array Value) : Own (fun s W => Blk W B t (f s)) := fun s X Y row hs hg hrow =>
  Blk.grown hs hg (fun e' => by obtain ⟨o, ho, hc⟩ := hrow B e'.symm; rw [show X.heap[B]? = _ from hs] at ho; cases ho; cases hc)

set_option maxHeartbeats 2000000 in
theorem four_in (m : Nat) (hn : 3 ≤ m) (a : Option Addr) (len cap : Nat) (s : List UInt8) (w : World) (hA : Bsl w w.heap.size a len cap s) (hlen : len ≤ 4294967295) :
    CallsIn Fence.wide m Tryz.prog 202 #[.slice a len cap] w fun e W' => e = .returned (ag (fourW s)) ∧ Below w.heap.size w W' := by
  have hro : Fence.wide.round = none := rfl
  have hmx : Tryz.prog.follows Departure.mixedOrders = true := by kernel_rfl
  obtain ⟨q, hq⟩ : ∃ q, len / 8 = q := ⟨_, rfl⟩
  obtain ⟨r, hr⟩ : ∃ r, len % 8 = r := ⟨_, rfl⟩
  obtain ⟨L, hL⟩ : ∃ L, 8 * q = L := ⟨_, rfl⟩
  have hLl : L ≤ len := by omega
  have hlc := hA.2.1
  have hcm := hA.2.2.1
  have e1 : (len : Int) % 8 = (r : Int) := by omega
  have e2 : (len : Int) - (r : Int) = (L : Int) := by omega
  have hto := fun W => slice_to W a len cap L (by omega)
  obtain ⟨A', hfrom, hA'⟩ := slice_from a len cap L hLl hlc
  have i0 : (0 : Int) ≤ len := by omega
  have i1 : (len : Int) ≤ 4294967295 := by omega
  have i2 : (0 : Int) ≤ (r : Int) := by omega
  have i3 : (r : Int) ≤ 7 := by omega
  have HA := Lib.hid hA; clear hA
  have HA' := Lib.hid hA'; clear hA'
  have HQ := Lib.hid hq; clear hq
  have HR := Lib.hid hr; clear hr
  have HL := Lib.hid hL; clear hL
  have HFrom := Lib.hid hfrom; clear hfrom
  refine callsIn_of_wp_marks Tryz.func202 rfl trivial ?_ hro
  simp only [Tryz.ntmps202, List.size_toArray, List.length_cons, List.length_nil, Nat.reduceAdd, Nat.reduceSub, Array.replicate_succ, Array.replicate_zero, List.push_toArray, List.append_toArray, List.nil_append, List.cons_append]
  have hd : 1 ≤ m := by omega
  gi_wp2_with (refine ⟨trivial, ?_⟩; (gi_at_call 159; refine (chunk_in Fence.wide (m - 1) trivial hro _ _ _ _).mono ?_; rintro e w' ⟨rfl, rfl⟩))
  obtain ⟨g, hg⟩ : ∃ g, w.heap.size = g := ⟨_, rfl⟩
  obtain ⟨W0, hW0⟩ : ∃ W0, ((((w.alloc (Obj.cells #[Value.int IntKind.u32 0, Value.int IntKind.u32 0, Value.int IntKind.u32 0, Value.int IntKind.u32 0] 257)).alloc (Obj.cells #[Value.int IntKind.u32 1, Value.int IntKind.u32 2, Value.int IntKind.u32 3, Value.int IntKind.u32 4] 257)).alloc (Obj.cells #[Value.slice a L cap] 26)).alloc (Obj.cells #[Value.int IntKind.i64 8] 3)) = W0 := ⟨_, rfl⟩
  have hsz : W0.heap.size = g + 4 := by rw [← hW0]; simp [hg]
  have hB0 : Below g w W0 := by rw [← hW0, ← hg]; exact ((((Below.refl _ w).alloc (Nat.le_refl _) _).alloc (by simp) _).alloc (by simp; omega) _).alloc (by simp; omega) _
  have b0 : Blk W0 g 257 #[.int .u32 0, .int .u32 0, .int .u32 0, .int .u32 0] := by rw [← hW0, ← hg]; exact (((Blk.new w _ _).alloc _).alloc _).alloc _
  have b1 : Blk W0 (g + 1) 257 (cl ⟨1, 2, 3, 4⟩) := by
    have := ((Blk.new (w.alloc (Obj.cells #[Value.int IntKind.u32 0, Value.int IntKind.u32 0, Value.int IntKind.u32 0, Value.int IntKind.u32 0] 257)) 257 (cl ⟨1, 2, 3, 4⟩)).alloc (Obj.cells #[Value.slice a L cap] 26)).alloc (Obj.cells #[Value.int IntKind.i64 8] 3)
    rw [World.size_alloc, hg] at this
    rw [← hW0]
    exact this
  have b2 : Blk W0 (g + 2) 26 #[.slice a L cap] := by
    have := (Blk.new ((w.alloc (Obj.cells #[Value.int IntKind.u32 0, Value.int IntKind.u32 0, Value.int IntKind.u32 0, Value.int IntKind.u32 0] 257)).alloc (Obj.cells (cl ⟨1, 2, 3, 4⟩) 257)) 26 #[.slice a L cap]).alloc (Obj.cells #[Value.int IntKind.i64 8] 3)
    rw [World.size_alloc, World.size_alloc, hg] at this
    rw [← hW0]
    exact this
  have b3 : Blk W0 (g + 3) 3 #[.int .i64 8] := by
    have := (Blk.new (((w.alloc (Obj.cells #[Value.int IntKind.u32 0, Value.int IntKind.u32 0, Value.int IntKind.u32 0, Value.int IntKind.u32 0] 257)).alloc (Obj.cells (cl ⟨1, 2, 3, 4⟩) 257)).alloc (Obj.cells #[Value.slice a L cap] 26)) 3 #[.int .i64 8])
    rw [World.size_alloc, World.size_alloc, World.size_alloc, hg] at this
    rw [← hW0]
    exact this
  obtain ⟨b, off, hbo⟩ : ∃ b off, 0 < len → a = some ⟨b, off, none⟩ ∧ b < g ∧ ∀ i (h : i < s.length), w.cell? ⟨b, off + i, none⟩ = some (.int .u8 ((s[i]).toNat : Int)) := by
    rcases Nat.eq_zero_or_pos len with h0 | h0
    · exact ⟨0, 0, fun h => by omega⟩
    · obtain ⟨b, off, h1, h2, h3⟩ := HA.out.2.2.2.2 h0
      exact ⟨b, off, fun _ => ⟨h1, by omega, h3⟩⟩
  have hqL : 8 * q = L := HL.out
  rw [hW0, hg]
  have hR : ReachC (g + 2) (g + 3) a q cap W0 := ⟨by rw [hqL]; exact b2.cell 0, b3.cell 0⟩
  refine wpIn_rangeFunc_ownG hro hd (gf := 230) (lb := #[.pointer (some ⟨g + 1 + 1, 0, none⟩), .pointer (some ⟨g + 1 + 1 + 1, 0, none⟩)]) rfl trivial (enters_of Tryz.func230 (by kernel_rfl) rfl)
    (stopsC (m - 1) (by omega) (g + 1 + 1) (g + 1 + 1 + 1) b off q cap a (fun h => (hbo (by omega)).1) (by omega) (by unfold maxLen at hcm; omega) W0 (by omega) (by omega) hR) (fun h k r => k (h r)) (fun W l o o' _ h ho _ => reachC_putObj l o o' h ho) (Below.refl _ _) (fun _ => rfl)
    (FourI s g q w) (fun _ _ _ => False) ?hI (fun _ _ _ _ _ hs _ _ => hs) ⟨⟨b1, b0⟩, hB0⟩
    (fun x => { tmps := #[Value.slice a len cap, undef, Value.pointer (some { block := g, off := 0 }), Value.pointer (some { block := g + 1, off := 0 }), Value.int IntKind.i64 ↑L, .slice (some ⟨b, off + 8 * x.val, none⟩) 8 8, undef, Value.agg #[Value.int IntKind.u32 1, Value.int IntKind.u32 2, Value.int IntKind.u32 3, Value.int IntKind.u32 4], Value.slice a len cap, Value.int IntKind.i64 ↑len, Value.slice a len cap, Value.int IntKind.i64 ↑len, Value.int IntKind.i64 ↑r, Value.int IntKind.i64 ↑L, Value.slice a len cap, Value.int IntKind.i64 ↑L, Value.slice a L cap, Value.func (Fn.func 230) #[] #[Value.pointer (some { block := g + 1 + 1, off := 0 }), Value.pointer (some { block := g + 1 + 1 + 1, off := 0 })], .slice (some ⟨b, off + 8 * x.val, none⟩) 8 8, undef, undef, undef, undef, undef, undef, undef, undef, undef, undef, undef, undef, undef, undef, undef, undef, undef, undef, undef, undef, undef], defers := [] }) ?assign ?body ?done ?stop
  case hI => exact OwnFrom.and (OwnFrom.and ((blk_own _ _ _).from _) ((blk_own _ _ _).from _)) (ownFrom_below (by omega) (by omega))
  case assign =>
    intro l x W K hK
    gi_wp2
    exact hK
  case body =>
    rintro l pre x W ⟨⟨hx, hr0⟩, hB⟩ _
    have c0 := hx.cell 0
    have c1 := hx.cell 1
    have c2 := hx.cell 2
    have c3 := hx.cell 3
    have hbt := hbo (by have := x.isLt; omega)
    have htk := take_any (foldP s (pre.map (·.val))) b (off + 8 * x.val) 8 (octP s (8 * x.val)) rfl (by omega) (by omega) W (Nat.lt_of_lt_of_le hbt.2.1 (by rw [← hg]; exact hB.size)) (fun i hi => by
      have hi8 : i < 8 := hi
      have hxq := x.isLt
      have hls : s.length = len := HA.out.1
      rw [octP_get, Nat.add_assoc, hB.cell (p := ⟨b, off + (8 * x.val + i), none⟩) hbt.2.1, hbt.2.2 (8 * x.val + i) (by omega)]
      unfold byteP
      rw [dif_pos (by omega)])
    rw [octP_lo, octP_hi] at htk
    have HX := Lib.hid hx; clear hx
    have HR0 := Lib.hid hr0; clear hr0
    have HB := Lib.hid hB; clear hB
    have HT := Lib.hid htk; clear htk
    have HBO := Lib.hid hbo; clear hbo
    have HBT := Lib.hid hbt; clear hbt
    have hd2 : 1 ≤ m - 1 - 1 := by omega
    gi_wp2
    refine ⟨trivial, ?_⟩
    refine (CallsIn.inRound l (callsIn_wide.2 HT.out)).mono ?_
    rintro e W1 ⟨rfl, bb⟩
    have hx1 := HX.out.below bb HX.out.lt
    have hr1 := HR0.out.below bb HR0.out.lt
    have hb1 := HB.out.trans (bb.mono (by rw [← hg]; exact HB.out.size))
    have f := fun i => hx1.frozen i
    have d0 := hx1.cell 0
    have d1 := hx1.cell 1
    have d2 := hx1.cell 2
    have d3 := hx1.cell 3
    have HX1 := Lib.hid hx1; clear hx1
    have HR1 := Lib.hid hr1; clear hr1
    have HB1 := Lib.hid hb1; clear hb1
    have HBB := Lib.hid bb; clear bb
    clear c0 c1 c2 c3
    have hy : foldP s ((pre ++ [x]).map (·.val)) = stepW (foldP s (pre.map (·.val))) (BitVec.ofNat 32 (leN (quadP s (8 * x.val)))) (BitVec.ofNat 32 (leN (quadP s (8 * x.val + 4)))) := by rw [List.map_append, List.map_cons, List.map_nil, foldP_snoc]; rfl
    obtain ⟨y, hy'⟩ : ∃ y, stepW (foldP s (pre.map (·.val))) (BitVec.ofNat 32 (leN (quadP s (8 * x.val)))) (BitVec.ofNat 32 (leN (quadP s (8 * x.val + 4)))) = y := ⟨_, rfl⟩
    rw [hy'] at hy ⊢
    clear hy' HT
    have HY := Lib.hid hy; clear hy
    gi_wp2
    exact ⟨((keepsOthers_below HBB.out).trans (keepsOthers_set4 _ _ _ _ _ _)).from _, fun hr => reachC_step (by omega) (by omega) HBB.out _ _ _ _ hr,
      ⟨by rw [HY.out]; exact HX1.out.set4 _ _ _ _, (((HR1.out.far (by simp) _).far (by simp) _).far (by simp) _).far (by simp) _⟩, below_set4 HB1.out (by omega) _ _ _ _⟩
  case done =>
    rintro D ys W hD hC ⟨⟨hx, hr0⟩, hB⟩ hK
    have hC' : ys.map (·.val) = List.range q := hC
    rw [hC', foldP_range] at hx
    clear hC hC'
    have hD' : g + 4 ≤ D := by omega
    have HX := Lib.hid hx; clear hx
    have HR0 := Lib.hid hr0; clear hr0
    have HB := Lib.hid hB; clear hB
    have HK := Lib.hid hK; clear hK
    have HBO := Lib.hid hbo; clear hbo
    have hfr := HFrom.out
    have HSZ := Lib.hid hsz; clear hsz
    have HW0 := Lib.hid hW0; clear hW0
    have HG := Lib.hid hg; clear hg
    have HQL := Lib.hid hqL; clear hqL
    have HB0 := Lib.hid hB0; clear hB0 b0 b1 b2 b3 hR
    gi_wp2
    obtain ⟨t, ht⟩ : ∃ t, W.heap.size = t := ⟨_, rfl⟩
    obtain ⟨W1, hW1⟩ : ∃ W1, (W.alloc (Obj.cells #[Value.int IntKind.u8 0, Value.int IntKind.u8 0, Value.int IntKind.u8 0, Value.int IntKind.u8 0, Value.int IntKind.u8 0, Value.int IntKind.u8 0, Value.int IntKind.u8 0, Value.int IntKind.u8 0] 312)).drew = W1 := ⟨_, rfl⟩
    have hbt : Blk W1 t 312 (List.replicate 8 (Value.int .u8 0)).toArray := by rw [← hW1, ← ht]; exact (Blk.new W _ _).drew
    have hx1 : Blk W1 (g + 1) 257 (cl (behind s q)) := by rw [← hW1]; exact (HX.out.alloc _).drew
    have hr1 : Blk W1 g 257 #[.int .u32 0, .int .u32 0, .int .u32 0, .int .u32 0] := by rw [← hW1]; exact (HR0.out.alloc _).drew
    have hgW : g ≤ W.heap.size := by rw [← HG.out]; exact HB.out.size
    have hb1 : Below g w W1 := by rw [← hW1]; exact (HB.out.alloc hgW _).drew
    have hk1 : W1.heap[D]? = some (.deferred (some [])) := by
      rw [← hW1]
      exact (Below.heap_alloc W _ D (Array.getElem?_eq_some_iff.1 HK.out).1).trans HK.out
    have hst : W1.heap.size = t + 1 := by rw [← hW1, ← ht]; simp
    have hgt : g + 1 < t := by rw [← ht]; exact HX.out.lt
    have hDt : D < t := by rw [← ht]; exact (Array.getElem?_eq_some_iff.1 HK.out).1
    rw [ht]
    have HW1 := Lib.hid hW1; clear hW1
    have HT := Lib.hid ht; clear ht
    have HBT := Lib.hid hbt; clear hbt
    have HX1 := Lib.hid hx1; clear hx1
    have HR1 := Lib.hid hr1; clear hr1
    have HB1 := Lib.hid hb1; clear hb1
    have HK1 := Lib.hid hk1; clear hk1
    have HST := Lib.hid hst; clear hst
    refine region_wide_named 4 hmx (by kernel_rfl) (fun h => by obtain ⟨_, _, h, _⟩ := h; cases h) (by kernel_rfl) HW1.out ?_
    simp only [List.take_succ_cons, List.take_zero, List.drop_succ_cons, List.drop_zero]
    repeat still_step
    refine wpStill_nil ?_
    have hls : s.length = L + r := by rw [HA.out.1]; have := HQ.out; have := HR.out; have := HQL.out; omega
    have hcl : (vals (s.drop L)).length = r := by rw [vals_length, List.length_drop]; omega
    refine wpList_copy_splice rfl (.tmp 22) (.tmp 25) 26 26 rfl 5 Tryz.underlying26 (by kernel_rfl) (some ⟨t, 0, none⟩) A' 8 8 (len - L) (cap - L) rfl rfl t 0 (List.replicate 8 (.int .u8 0)) 312 HBT.out (vals (s.drop L)) ?_ ?_ ?_ ?_ t W1 (Below.refl _ _) (Nat.le_refl _) ?_
    · rw [hcl]
      have : len - L = r := by have := HA.out.1; omega
      rw [this]
      show r = min r 8
      omega
    · intro hpos
      have hlp : L < len := by have := HA.out.1; omega
      obtain ⟨ea, hbg, hc⟩ := HBO.out (by omega)
      refine ⟨rfl, ⟨b, off + L, none⟩, HA'.out hlp b off ea, fun j v hv => ?_⟩
      obtain ⟨hj, rfl⟩ := vals_get hv
      have hj' : L + j < s.length := by rw [List.length_drop] at hj; omega
      have e1 : (⟨b, off + L, none⟩ : Addr).add j = ⟨b, off + (L + j), none⟩ := by
        unfold Addr.add
        by_cases h0 : j = 0
        · subst h0; simp
        · rw [if_neg h0]; simp; omega
      rw [e1, HB1.out.cell (p := ⟨b, off + (L + j), none⟩) hbg, hc (L + j) hj']
      simp only [List.getElem_drop]
    · rw [hcl]; simp; omega
    · intro v hv
      obtain ⟨y, _, rfl⟩ := List.mem_map.1 hv
      rfl
    · intro W2 hh hb2
      rw [hcl]
      have hbt2 : Blk W2 t 312 (splice (List.replicate 8 (Value.int .u8 0)) 0 (vals (s.drop L))).toArray := hh.out
      have hsp : (splice (List.replicate 8 (Value.int .u8 0)) 0 (vals (s.drop L))).length = 8 := by rw [length_splice _ _ _ (by rw [hcl]; simp; omega)]; rfl
      have hlr : ∃ u, W2.cell? ⟨t, r, none⟩ = some u := by
        rw [hbt2.cell r]
        exact ⟨_, Array.getElem?_eq_getElem (by rw [List.size_toArray, hsp]; omega)⟩
      obtain ⟨u, hu⟩ := hlr
      have hfz := hbt2.frozen r
      have hset := octP_laid s L r (by omega) hls
      have j0 : (r : Int) < 8 := by omega
      have hx2 := HX1.out.below hb2 hgt
      have hr2 := HR1.out.below hb2 (by omega)
      have hbw2 : Below g w W2 := HB1.out.trans (hb2.mono (by omega))
      have hk2 : W2.heap[D]? = some (.deferred (some [])) := (hb2.block D hDt).trans HK1.out
      have HX2 := Lib.hid hx2; clear hx2
      have HR2 := Lib.hid hr2; clear hr2
      have HBW2 := Lib.hid hbw2; clear hbw2
      have HK2 := Lib.hid hk2; clear hk2
      have HBT2 := Lib.hid hbt2; clear hbt2
      have HSET := Lib.hid hset; clear hset
      have HLS := Lib.hid hls; clear hls
      have HCL := Lib.hid hcl; clear hcl
      have HB2 := Lib.hid hb2; clear hb2
      clear hsp hh
      go_wp2
      gi_wp2
      obtain ⟨W3, hW3⟩ : ∃ W3, (W2.setCell ⟨t, r, none⟩ (Value.int IntKind.u8 1)).drew = W3 := ⟨_, rfl⟩
      have hbt3 : Blk W3 t 312 (vals (octP s L)).toArray := by rw [← hW3, ← HSET.out]; exact (HBT2.out.set_ r _).drew
      have hx3 : Blk W3 (g + 1) 257 (cl (behind s q)) := by rw [← hW3]; exact (HX2.out.far (by simp; omega) _).drew
      have hr3 : Blk W3 g 257 #[.int .u32 0, .int .u32 0, .int .u32 0, .int .u32 0] := by rw [← hW3]; exact (HR2.out.far (by simp; omega) _).drew
      have hb3 : Below g w W3 := by rw [← hW3]; exact (HBW2.out.setCell (p := ⟨t, r, none⟩) (by simp; omega) _).drew
      have hk3 : W3.heap[D]? = some (.deferred (some [])) := by rw [← hW3]; exact (Below.heap_setCell W2 ⟨t, r, none⟩ _ D (by simp; omega)).trans HK2.out
      have htk := take_any (behind s q) t 0 8 (octP s L) rfl (by omega) (by omega) W3 hbt3.lt (fun i hi => by
        have hi8 : i < 8 := hi
        rw [Nat.zero_add, hbt3.cell i, List.getElem?_toArray]
        show (List.map _ (octP s L))[i]? = _
        rw [List.getElem?_map, List.getElem?_eq_getElem hi]
        rfl)
      rw [octP_lo, octP_hi] at htk
      have hst : stepW (behind s q) (BitVec.ofNat 32 (leN (quadP s L))) (BitVec.ofNat 32 (leN (quadP s (L + 4)))) = behind s (q + 1) := by rw [← HQL.out]; rfl
      rw [hst] at htk
      have c0 := hx3.cell 0
      have c1 := hx3.cell 1
      have c2 := hx3.cell 2
      have c3 := hx3.cell 3
      have HW3 := Lib.hid hW3; clear hW3
      have HTK := Lib.hid htk; clear htk hst
      have HX3 := Lib.hid hx3; clear hx3
      have HR3 := Lib.hid hr3; clear hr3
      have HB3 := Lib.hid hb3; clear hb3
      have HK3 := Lib.hid hk3; clear hk3
      clear hbt3 hfz hu
      refine region_wide_named 2 hmx (by kernel_rfl) (fun h => by obtain ⟨_, _, h, _⟩ := h; cases h) (by kernel_rfl) HW3.out ?_
      simp only [List.take_succ_cons, List.take_zero, List.drop_succ_cons, List.drop_zero]
      repeat still_step
      refine wpStill_nil ?_
      go_wp2_with fail
      refine HTK.out.mono ?_
      rintro e W4 ⟨rfl, b4⟩
      obtain ⟨y, hy⟩ : ∃ y, behind s (q + 1) = y := ⟨_, rfl⟩
      rw [hy]
      have hx4 := HX3.out.below b4 HX3.out.lt
      have hr4 := HR3.out.below b4 HR3.out.lt
      have hb4 : Below g w W4 := HB3.out.trans (b4.mono (by rw [← HG.out]; exact HB3.out.size))
      have hk4 : W4.heap[D]? = some (.deferred (some [])) := (b4.block D (Array.getElem?_eq_some_iff.1 HK3.out).1).trans HK3.out
      have f := fun i => hx4.frozen i
      have d0 := hx4.cell 0
      have d1 := hx4.cell 1
      have d2 := hx4.cell 2
      have d3 := hx4.cell 3
      have hxl : ∀ x : BitVec 32, bits .xor .u32 (x.toNat : Int) (len : Int) = ((xo x (BitVec.ofNat 32 len)).toNat : Int) := fun x => by
        have e : (BitVec.ofNat 32 len).toNat = len := by rw [BitVec.toNat_ofNat]; exact Nat.mod_eq_of_lt (by omega)
        have := xor32 x (BitVec.ofNat 32 len)
        rwa [e] at this
      have HY := Lib.hid hy; clear hy
      have HX4 := Lib.hid hx4; clear hx4
      have HR4 := Lib.hid hr4; clear hr4
      have HB4 := Lib.hid hb4; clear hb4
      have HK4 := Lib.hid hk4; clear hk4
      clear b4 c0 c1 c2 c3
      go_wp2
      obtain ⟨W5, hW5⟩ : ∃ W5, ((((W4.setCell ⟨g + 1, 0, none⟩ (.int .u32 (y.a.toNat : Int))).setCell ⟨g + 1, 1, none⟩ (.int .u32 (y.b.toNat : Int))).setCell ⟨g + 1, 2, none⟩ (.int .u32 (y.c.toNat : Int))).setCell ⟨g + 1, 3, none⟩ (.int .u32 (y.d.toNat : Int))) = W5 := ⟨_, rfl⟩
      have hx5 : Blk W5 (g + 1) 257 (cl y) := hW5 ▸ HX4.out.set4 _ _ _ _
      have hr5 : Blk W5 g 257 #[.int .u32 0, .int .u32 0, .int .u32 0, .int .u32 0] := hW5 ▸ (((HR4.out.far (by simp) _).far (by simp) _).far (by simp) _).far (by simp) _
      have hb5 : Below g w W5 := hW5 ▸ below_set4 HB4.out (by omega) _ _ _ _
      have hk5 : W5.heap[D]? = some (.deferred (some [])) := hW5 ▸ (keepsOthers_set4 W4 (g + 1) _ _ _ _).same D _ HK4.out rfl
      rw [hW5]
      clear hW5 f d0 d1 d2 d3 e1 e2 hto hfr HX4 HR4 HB4 HK4
      have f := fun i => hx5.frozen i
      have d0 := hx5.cell 0
      have d1 := hx5.cell 1
      have d2 := hx5.cell 2
      have d3 := hx5.cell 3
      have HX5 := Lib.hid hx5; clear hx5
      have HR5 := Lib.hid hr5; clear hr5
      have HB5 := Lib.hid hb5; clear hb5
      have HK5 := Lib.hid hk5; clear hk5
      gi_wp2_with (fail)
      refine ⟨trivial, ?_⟩
      refine (callsIn_wide.2 (turns_any ⟨y.a, xo y.b (BitVec.ofNat 32 len), y.c, y.d⟩ 8 (by omega) _)).mono ?_
      rintro e W6 ⟨rfl, b6⟩
      have hz : turnsW 8 ⟨y.a, xo y.b (BitVec.ofNat 32 len), y.c, y.d⟩ = fourW s := by
        have h1 : s.length = len := HA.out.1
        have h2 : len / 8 = q := HQ.out
        unfold fourW
        rw [h1, h2, HY.out]
      rw [hz]
      obtain ⟨z, hz'⟩ : ∃ z, fourW s = z := ⟨_, rfl⟩
      rw [hz']
      have hr6 : Blk W6 g 257 _ := (HR5.out.far (p := ⟨g + 1, 1, none⟩) (by simp) (.int .u32 ((xo y.b (BitVec.ofNat 32 len)).toNat : Int))).below b6 (by simp; exact HR5.out.lt)
      have hb6 : Below g w W6 := (HB5.out.setCell (p := ⟨g + 1, 1, none⟩) (by simp) _).trans (b6.mono (by simp; rw [← HG.out]; exact HB5.out.size))
      have hk6 : W6.heap[D]? = some (.deferred (some [])) := (b6.block D (by simp; exact (Array.getElem?_eq_some_iff.1 HK5.out).1)).trans ((Below.heap_setCell W5 ⟨g + 1, 1, none⟩ _ D (by simp; omega)).trans HK5.out)
      have HZ := Lib.hid hz'; clear hz' hz
      clear f d0 d1 d2 d3 b6
      have f := fun i => hr6.frozen i
      have d0 := hr6.cell 0
      have d1 := hr6.cell 1
      have d2 := hr6.cell 2
      have d3 := hr6.cell 3
      have HR6 := Lib.hid hr6; clear hr6
      have HB6 := Lib.hid hb6; clear hb6
      have HK6 := Lib.hid hk6; clear hk6
      gi_wp2_with (fail)
      obtain ⟨W7, hW7⟩ : ∃ W7, ((((W6.setCell ⟨g, 0, none⟩ (.int .u32 (z.a.toNat : Int))).setCell ⟨g, 1, none⟩ (.int .u32 (z.b.toNat : Int))).setCell ⟨g, 2, none⟩ (.int .u32 (z.c.toNat : Int))).setCell ⟨g, 3, none⟩ (.int .u32 (z.d.toNat : Int))) = W7 := ⟨_, rfl⟩
      have hr7 : Blk W7 g 257 (cl z) := hW7 ▸ HR6.out.set4 _ _ _ _
      have hb7 : Below g w W7 := hW7 ▸ below_set4 HB6.out (Nat.le_refl _) _ _ _ _
      have hk7 : W7.heap[D]? = some (.deferred (some [])) := hW7 ▸ (keepsOthers_set4 W6 g _ _ _ _).same D _ HK6.out rfl
      rw [hW7]
      clear hW7 f d0 d1 d2 d3
      refine ⟨by simp, .inl ⟨_, _, rfl, run_takeDeferred hk7, ?_⟩⟩
      have hr8 : Blk (W7.putObj D (.deferred none)) g 257 (cl z) := hr7.grown (grownBy_putObj' W7 D (.deferred none)) (fun e => by injection e; omega)
      have e0 := hr8.cell 0
      have e1 := hr8.cell 1
      have e2 := hr8.cell 2
      have e3 := hr8.cell 3
      trace_state
      refine ⟨ag z, by simp [results, Tryz.f202, go_sem, e0, e1, e2, e3], ?_, ?_⟩
      · rw [HZ.out]
      · rw [HG.out]
        exact hb7.trans (belowK_b (w := w) (by rw [HG.out]; exact Nat.le_refl _) W7 D _ _ (by rw [HG.out]; omega) hk7 rfl rfl)
  case stop =>
    rintro D c pre W _ _ h _
    exact h.elim
end Go.Proofs.YtafbidhbmfdlkaaGreatDoor
/-
  mix.Four, mix.Sum and mix.Key, whatever bytes they are handed, answer the four words of these bytes, the first of them, and all of them as bytes; nothing that was there is written.
-/
namespace Go.Proofs.YtafbidhbmfdlkaaGreatDoor
open Go.RowKit Go.Shelf
set_option maxRecDepth 100000

theorem four_any (a : Option Addr) (len cap : Nat) (s : List UInt8) (w : World) (hA : Bsl w w.heap.size a len cap s) (hlen : len ≤ 4294967295) :
    Calls Tryz.prog 202 #[.slice a len cap] w fun e W' => e = .returned (ag (fourW s)) ∧ Below w.heap.size w W' :=
  callsIn_wide.1 (four_in 3 (Nat.le_refl _) a len cap s w hA hlen)

theorem sum_any (a : Option Addr) (len cap : Nat) (s : List UInt8) (w : World) (hA : Bsl w w.heap.size a len cap s) (hlen : len ≤ 4294967295) :
    Calls Tryz.prog 139 #[.slice a len cap] w fun e W' => e = .returned (.int .u32 ((fourW s).a.toNat : Int)) ∧ Below w.heap.size w W' := by
  have hf := four_any a len cap s w hA hlen
  have HF := Lib.hid hf; clear hf hA
  obtain ⟨x, hx⟩ : ∃ x, fourW s = x := ⟨_, rfl⟩
  rw [hx] at HF ⊢
  clear hx
  have hi : ∀ W : World, (Instr.index 257 (ag x) (.int .i64 0)).run Tryz.prog W = .ok (.int .u32 (x.a.toNat : Int)) W := fun W => by kernel_rfl
  go_enter Tryz.func139, Tryz.ntmps139
  go_wp2_with fail
  refine HF.out.mono ?_
  rintro e W1 ⟨rfl, b1⟩
  have HB := Lib.hid b1; clear b1
  go_wp2_with fail
  go_ret
  exact ⟨rfl, HB.out⟩

end Go.Proofs.YtafbidhbmfdlkaaGreatDoor
/-
  dev.mayBe tells whether a disk may be.
-/
namespace Go.Proofs.YtafbidhbmfdlkaaGreatDoor
open Go.RowKit Go.Shelf
set_option maxRecDepth 100000

theorem dIsLong_any (a : Option Addr) (n c : Nat) (w : World) : Calls Tryz.prog 25 #[.slice a n c] w fun e w' => e = .returned (.bool (decide (n = 256))) ∧ w = w' := by
  by_cases h : n = 256
  · subst h
    go_enter Tryz.func25, Tryz.ntmps25
    go_wp2_with fail
    go_ret
    exact ⟨rfl, rfl⟩
  · have h1 : ((n : Int) == 256) = false := by simp; omega
    rw [decide_eq_false h]
    go_enter Tryz.func25, Tryz.ntmps25
    go_wp2_with fail
    go_ret
    exact ⟨rfl, rfl⟩
theorem dIsBlock_any (p : Int) (w : World) : Calls Tryz.prog 52 #[.int .i64 p] w fun e w' => e = .returned (.bool (decide (0 ≤ p ∧ p < 256))) ∧ w = w' := by
  by_cases h0 : 0 ≤ p
  · by_cases h1 : p < 256
    · rw [decide_eq_true (show 0 ≤ p ∧ p < 256 from ⟨h0, h1⟩)]
      go_enter Tryz.func52, Tryz.ntmps52
      go_wp2_with fail
      go_ret
      exact ⟨by simp; try omega, rfl⟩
    · rw [decide_eq_false (show ¬ (0 ≤ p ∧ p < 256) from fun h => h1 h.2)]
      go_enter Tryz.func52, Tryz.ntmps52
      go_wp2_with fail
      go_ret
      exact ⟨by simp; try omega, rfl⟩
  · rw [decide_eq_false (show ¬ (0 ≤ p ∧ p < 256) from fun h => h0 h.1)]
    go_enter Tryz.func52, Tryz.ntmps52
    go_wp2_with fail
    go_ret
    exact ⟨by simp; try omega, rfl⟩
theorem dMayWait_any (p : Int) (a : Option Addr) (n c : Nat) (w : World) : Calls Tryz.prog 27 #[.agg #[.int .i64 p, .slice a n c]] w fun e w' => e = .returned (.bool (decide ((0 ≤ p ∧ p < 256) ∧ n = 256))) ∧ Below w.heap.size w w' := by
  have hb := dIsBlock_any p
  have hl := dIsLong_any a n c
  have HX := Lib.hid ((Below.refl w.heap.size w).alloc (Nat.le_refl _) (.cells #[.int .i64 p, .slice a n c] 53))
  by_cases h : 0 ≤ p ∧ p < 256
  · simp only [decide_eq_true h] at hb
    have e : decide ((0 ≤ p ∧ p < 256) ∧ n = 256) = decide (n = 256) := by simp [h]
    rw [e]
    have HB := Lib.hid hb
    have HL := Lib.hid hl
    clear hb hl h e
    go_enter Tryz.func27, Tryz.ntmps27
    go_wp2_with fail
    refine (HB.out _).mono ?_
    rintro e w1 ⟨rfl, rfl⟩
    go_wp2_with fail
    refine (HL.out _).mono ?_
    rintro e w1 ⟨rfl, rfl⟩
    go_wp2_with fail
    go_ret
    exact ⟨rfl, HX.out⟩
  · simp only [decide_eq_false h] at hb
    have e : decide ((0 ≤ p ∧ p < 256) ∧ n = 256) = false := by simp; omega
    rw [e]
    have HB := Lib.hid hb
    clear hb hl h e
    go_enter Tryz.func27, Tryz.ntmps27
    go_wp2_with fail
    refine (HB.out _).mono ?_
    rintro e w1 ⟨rfl, rfl⟩
    go_wp2_with fail
    go_ret
    exact ⟨rfl, HX.out⟩
theorem dNotLong_any (a : Option Addr) (n c g : Nat) (w : World) (hg : w.cell? ⟨g, 0, none⟩ = some (.func (.func 25) #[] #[])) : Calls Tryz.prog 49 #[.slice a n c, .pointer (some ⟨g, 0, none⟩)] w fun e w' => e = .returned (.bool (!decide (n = 256))) ∧ w = w' := by
  have HL := Lib.hid (dIsLong_any a n c w)
  go_enter Tryz.func49, Tryz.ntmps49
  go_wp2_with fail
  refine HL.out.mono ?_
  rintro e w1 ⟨rfl, rfl⟩
  go_wp2_with fail
  go_ret
  exact ⟨rfl, rfl⟩
theorem dNotWait_any (p : Int) (a : Option Addr) (n c g : Nat) (r : Bool) (hr : decide ((0 ≤ p ∧ p < 256) ∧ n = 256) = r) (w : World) (hl : g < w.heap.size) (hg : w.cell? ⟨g, 0, none⟩ = some (.func (.func 27) #[] #[])) : Calls Tryz.prog 51 #[.agg #[.int .i64 p, .slice a n c], .pointer (some ⟨g, 0, none⟩)] w fun e w' => e = .returned (.bool (!r)) ∧ Below w.heap.size w w' := by
  have b1 := (Below.refl w.heap.size w).alloc (Nat.le_refl _) (.cells #[.int .i64 p, .slice a n c] 53)
  have hg1 := (b1.cell (p := ⟨g, 0, none⟩) hl).trans hg
  have HL : Hid (∀ W, Calls Tryz.prog 27 #[.agg #[.int .i64 p, .slice a n c]] W fun e w' => e = .returned (.bool r) ∧ Below W.heap.size W w') := Lib.hid fun W => by
    have := dMayWait_any p a n c W
    rw [hr] at this
    exact this
  have HB := Lib.hid b1
  clear b1 hl hr
  go_enter Tryz.func51, Tryz.ntmps51
  go_wp2_with fail
  refine (HL.out _).mono ?_
  rintro e w1 ⟨rfl, b2⟩
  have HB2 := Lib.hid (HB.out.trans (b2.mono HB.out.size))
  clear b2
  go_wp2_with fail
  go_ret
  exact ⟨rfl, HB2.out⟩
/-- slices.IndexFunc over blocks: none is odd. -/
theorem dIndexB_none (a : Option Addr) (n c : Nat) (bl : List (List UInt8)) (g : Nat) (w : World) (hB : Bls w w.heap.size a n c bl) (hg : w.cell? ⟨g, 0, none⟩ = some (.func (.func 25) #[] #[])) (hall : ∀ i, i < n → (bl.getD i []).length = 256) :
    Calls Tryz.prog 97 #[.slice a n c, .func (.func 49) #[] #[.pointer (some ⟨g, 0, none⟩)]] w fun e w' => e = .returned (.int .i64 (-1)) ∧ w = w' := by
  have n0 : (0 : Int) ≤ n := by omega
  have n1 := hB.len_le
  have HB := Lib.hid hB
  have HA := Lib.hid hall
  have HG := Lib.hid hg
  clear hB hall hg
  go_enter Tryz.func97, Tryz.ntmps97
  go_wp2_with fail
  go_loop [8] (fun i => ∃ k : Nat, k ≤ n ∧ i = .int .i64 k) (fun i => n - (intOf i).toNat)
  case atStart => exact ⟨0, Nat.zero_le _, rfl⟩
  case round =>
    obtain ⟨k, hk, rfl⟩ := hrel
    have k0 : (0 : Int) ≤ k := by omega
    by_cases hlt : k < n
    · have k1 : (k : Int) < n := by omega
      obtain ⟨b, off, A, l, c', s, rfl, _, hl, hc, hA⟩ := HB.out.at_ hlt
      have hl6 : l = 256 := by rw [← hA.1, ← hl]; exact HA.out k hlt
      subst hl6
      have hx := dNotLong_any A 256 c' g w HG.out
      have HX := Lib.hid hx
      clear hx hA hl
      go_wp2_with fail
      refine HX.out.mono ?_
      rintro e w1 ⟨rfl, rfl⟩
      go_wp2_with fail
      go_round
      case rel => exact ⟨k + 1, by omega, by go_num⟩
      case measure => simp [intOf]; omega
    · obtain rfl : k = n := by omega
      go_wp2_with fail
      go_ret
      exact ⟨rfl, rfl⟩
/-- One is. -/
theorem dIndexB_some (a : Option Addr) (n c : Nat) (bl : List (List UInt8)) (g : Nat) (w : World) (hB : Bls w w.heap.size a n c bl) (hg : w.cell? ⟨g, 0, none⟩ = some (.func (.func 25) #[] #[])) (j : Nat) (hj : j < n) (hodd : (bl.getD j []).length ≠ 256) :
    Calls Tryz.prog 97 #[.slice a n c, .func (.func 49) #[] #[.pointer (some ⟨g, 0, none⟩)]] w fun e w' => ∃ k : Nat, e = .returned (.int .i64 k) ∧ w = w' := by
  have n0 : (0 : Int) ≤ n := by omega
  have n1 := hB.len_le
  have HB := Lib.hid hB
  have HA := Lib.hid hodd
  have HG := Lib.hid hg
  clear hB hodd hg
  go_enter Tryz.func97, Tryz.ntmps97
  go_wp2_with fail
  go_loop [8] (fun i => ∃ k : Nat, k ≤ j ∧ i = .int .i64 k) (fun i => n - (intOf i).toNat)
  case atStart => exact ⟨0, Nat.zero_le _, rfl⟩
  case round =>
    obtain ⟨k, hk, rfl⟩ := hrel
    have k0 : (0 : Int) ≤ k := by omega
    have k1 : (k : Int) < n := by omega
    obtain ⟨b, off, A, l, c', s, rfl, _, hl, hc, hA⟩ := HB.out.at_ (show k < n by omega)
    have hx := dNotLong_any A l c' g w HG.out
    by_cases hl6 : l = 256
    · have hkj : k < j := by
        rcases Nat.lt_or_ge k j with h | h
        · exact h
        · obtain rfl : k = j := by omega
          exact absurd (by rw [hl, hA.1]; exact hl6) HA.out
      subst hl6
      have HX := Lib.hid hx
      clear hx hA hl
      go_wp2_with fail
      refine HX.out.mono ?_
      rintro e w1 ⟨rfl, rfl⟩
      go_wp2_with fail
      go_round
      case rel => exact ⟨k + 1, by omega, by go_num⟩
      case measure => simp [intOf]; omega
    · simp only [decide_eq_false hl6] at hx
      have HX := Lib.hid hx
      clear hx hA hl
      go_wp2_with fail
      refine HX.out.mono ?_
      rintro e w1 ⟨rfl, rfl⟩
      go_wp2_with fail
      go_ret
      exact ⟨k, rfl, rfl⟩
/-- slices.IndexFunc over writes: none is odd. -/
theorem dIndexW_none (a : Option Addr) (n c : Nat) (ws : WrL) (g : Nat) (w : World) (hB : Wts w w.heap.size a n c ws) (hlg : g < w.heap.size) (hg : w.cell? ⟨g, 0, none⟩ = some (.func (.func 27) #[] #[])) (hall : ∀ i, i < n → (0 ≤ (wr_ ws i).1 ∧ (wr_ ws i).1 < 256) ∧ (wr_ ws i).2.length = 256) :
    Calls Tryz.prog 98 #[.slice a n c, .func (.func 51) #[] #[.pointer (some ⟨g, 0, none⟩)]] w fun e w' => e = .returned (.int .i64 (-1)) ∧ Below w.heap.size w w' := by
  have n0 : (0 : Int) ≤ n := by omega
  have n1 := hB.len_le
  have HB := Lib.hid hB
  have HA := Lib.hid hall
  have HG := Lib.hid hg
  clear hB hall hg
  go_enter Tryz.func98, Tryz.ntmps98
  go_wp2_with fail
  go_loopw [8] (fun i wr => ∃ k : Nat, k ≤ n ∧ i = .int .i64 k ∧ Below w.heap.size w wr) (fun i _ => n - (intOf i).toNat)
  case atStart => exact ⟨0, Nat.zero_le _, rfl, Below.refl _ _⟩
  case round =>
    obtain ⟨k, hk, rfl, hb⟩ := hrel
    have k0 : (0 : Int) ≤ k := by omega
    by_cases hlt : k < n
    · have k1 : (k : Int) < n := by omega
      obtain ⟨b, off, p, A, l, c', s, rfl, hbl, hl, _, hc, hd, hA⟩ := HB.out.at_ hlt
      have hok := HA.out k hlt
      rw [hl] at hok
      have hl6 : l = 256 := by rw [← hA.1]; exact hok.2
      subst hl6
      have c1 := (hb.cell (p := ⟨b, off + k * 2, none⟩) hbl).trans hc
      have c2 := (hb.cell (p := ⟨b, off + k * 2 + 1, none⟩) hbl).trans hd
      have hx := dNotWait_any p A 256 c' g true (decide_eq_true ⟨hok.1, rfl⟩) wr (Nat.lt_of_lt_of_le hlg hb.size) ((hb.cell (p := ⟨g, 0, none⟩) hlg).trans HG.out)
      have HX := Lib.hid hx
      have HBr := Lib.hid hb
      clear hx hA hl hok hb hc hd
      go_wp2_with fail
      refine HX.out.mono ?_
      rintro e w1 ⟨rfl, b2⟩
      have HB2 := Lib.hid (HBr.out.trans (b2.mono HBr.out.size))
      clear b2
      go_wp2_with fail
      go_roundw
      case rel => exact ⟨k + 1, by omega, by go_num, HB2.out⟩
      case measure => simp [intOf]; omega
    · obtain rfl : k = n := by omega
      have HBr := Lib.hid hb
      clear hb
      go_wp2_with fail
      go_ret
      exact ⟨rfl, HBr.out⟩
/-- One is. -/
theorem dIndexW_some (a : Option Addr) (n c : Nat) (ws : WrL) (g : Nat) (w : World) (hB : Wts w w.heap.size a n c ws) (hlg : g < w.heap.size) (hg : w.cell? ⟨g, 0, none⟩ = some (.func (.func 27) #[] #[])) (j : Nat) (hj : j < n) (hodd : ¬ ((0 ≤ (wr_ ws j).1 ∧ (wr_ ws j).1 < 256) ∧ (wr_ ws j).2.length = 256)) :
    Calls Tryz.prog 98 #[.slice a n c, .func (.func 51) #[] #[.pointer (some ⟨g, 0, none⟩)]] w fun e w' => ∃ k : Nat, e = .returned (.int .i64 k) ∧ Below w.heap.size w w' := by
  have n0 : (0 : Int) ≤ n := by omega
  have n1 := hB.len_le
  have HB := Lib.hid hB
  have HA := Lib.hid hodd
  have HG := Lib.hid hg
  clear hB hodd hg
  go_enter Tryz.func98, Tryz.ntmps98
  go_wp2_with fail
  go_loopw [8] (fun i wr => ∃ k : Nat, k ≤ j ∧ i = .int .i64 k ∧ Below w.heap.size w wr) (fun i _ => n - (intOf i).toNat)
  case atStart => exact ⟨0, Nat.zero_le _, rfl, Below.refl _ _⟩
  case round =>
    obtain ⟨k, hk, rfl, hb⟩ := hrel
    have k0 : (0 : Int) ≤ k := by omega
    have k1 : (k : Int) < n := by omega
    obtain ⟨b, off, p, A, l, c', s, rfl, hbl, hl, _, hc, hd, hA⟩ := HB.out.at_ (show k < n by omega)
    have c1 := (hb.cell (p := ⟨b, off + k * 2, none⟩) hbl).trans hc
    have c2 := (hb.cell (p := ⟨b, off + k * 2 + 1, none⟩) hbl).trans hd
    have hx := fun r hr => dNotWait_any p A l c' g r hr wr (Nat.lt_of_lt_of_le hlg hb.size) ((hb.cell (p := ⟨g, 0, none⟩) hlg).trans HG.out)
    by_cases hl6 : (0 ≤ p ∧ p < 256) ∧ l = 256
    · have hkj : k < j := by
        rcases Nat.lt_or_ge k j with h | h
        · exact h
        · obtain rfl : k = j := by omega
          exact absurd (by rw [hl]; exact ⟨hl6.1, by rw [hA.1]; exact hl6.2⟩) HA.out
      have HX := Lib.hid (hx true (decide_eq_true hl6))
      have HBr := Lib.hid hb
      clear hx hA hl hl6 hb hc hd
      go_wp2_with fail
      refine HX.out.mono ?_
      rintro e w1 ⟨rfl, b2⟩
      have HB2 := Lib.hid (HBr.out.trans (b2.mono HBr.out.size))
      clear b2
      go_wp2_with fail
      go_roundw
      case rel => exact ⟨k + 1, by omega, by go_num, HB2.out⟩
      case measure => simp [intOf]; omega
    · have HX := Lib.hid (hx false (decide_eq_false hl6))
      have HBr := Lib.hid hb
      clear hx hA hl hl6 hb hc hd
      go_wp2_with fail
      refine HX.out.mono ?_
      rintro e w1 ⟨rfl, b2⟩
      have HB2 := Lib.hid (HBr.out.trans (b2.mono HBr.out.size))
      clear b2
      go_wp2_with fail
      go_ret
      exact ⟨k, rfl, HB2.out⟩
/-- slices.ContainsFunc: is one odd? -/
theorem dContB_any (a : Option Addr) (n c : Nat) (bl : List (List UInt8)) (g : Nat) (w : World) (hB : Bls w w.heap.size a n c bl) (hg : w.cell? ⟨g, 0, none⟩ = some (.func (.func 25) #[] #[])) (r : Bool) (hr : r = true ↔ ∀ i, i < n → (bl.getD i []).length = 256) :
    Calls Tryz.prog 48 #[.slice a n c, .func (.func 49) #[] #[.pointer (some ⟨g, 0, none⟩)]] w fun e w' => e = .returned (.bool (!r)) ∧ w = w' := by
  cases r with
  | true =>
    have HI := Lib.hid (dIndexB_none a n c bl g w hB hg (hr.1 rfl))
    clear hB hg hr
    go_enter Tryz.func48, Tryz.ntmps48
    go_wp2_with fail
    refine HI.out.mono ?_
    rintro e w1 ⟨rfl, rfl⟩
    
    go_wp2_with fail
    go_ret
    exact ⟨rfl, rfl⟩
  | false =>
    obtain ⟨j, hj, hodd⟩ : ∃ i, i < n ∧ ¬ ((bl.getD i []).length = 256) := by
      apply Classical.byContradiction
      intro hn
      have : false = true := hr.2 fun i hi => Classical.byContradiction fun h => hn ⟨i, hi, h⟩
      cases this
    have HI := Lib.hid (dIndexB_some a n c bl g w hB hg j hj hodd)
    clear hB hg hr hodd
    go_enter Tryz.func48, Tryz.ntmps48
    go_wp2_with fail
    refine HI.out.mono ?_
    rintro e w1 ⟨k, rfl, rfl⟩
    have k0 : (0 : Int) ≤ k := by omega
    
    go_wp2_with fail
    go_ret
    exact ⟨rfl, rfl⟩
/-- All are as they should be: dev.allAre. -/
theorem dAllB_any (a : Option Addr) (n c : Nat) (bl : List (List UInt8)) (w : World) (hB : Bls w w.heap.size a n c bl) (r : Bool) (hr : r = true ↔ ∀ i, i < n → (bl.getD i []).length = 256) :
    Calls Tryz.prog 24 #[.slice a n c, .func (.func 25) #[] #[]] w fun e w' => e = .returned (.bool r) ∧ Below w.heap.size w w' := by
  have b0 := (Below.refl w.heap.size w).alloc (Nat.le_refl _) (.cells #[.func (.func 25) #[] #[]] 70)
  have x0 := Blk.new w 70 #[.func (.func 25) #[] #[]]
  have HI := Lib.hid (dContB_any a n c bl w.heap.size _ (hB.step b0) (x0.cell 0) r hr)
  have HB := Lib.hid b0
  clear hB hr b0 x0
  go_enter Tryz.func24, Tryz.ntmps24
  go_wp2_with fail
  refine HI.out.mono ?_
  rintro e w1 ⟨rfl, rfl⟩
  have HB2 := HB
  go_wp2_with fail
  go_ret
  exact ⟨by simp, HB2.out⟩
/-- slices.ContainsFunc: is one odd? -/
theorem dContW_any (a : Option Addr) (n c : Nat) (ws : WrL) (g : Nat) (w : World) (hB : Wts w w.heap.size a n c ws) (hlg : g < w.heap.size) (hg : w.cell? ⟨g, 0, none⟩ = some (.func (.func 27) #[] #[])) (r : Bool) (hr : r = true ↔ ∀ i, i < n → (0 ≤ (wr_ ws i).1 ∧ (wr_ ws i).1 < 256) ∧ (wr_ ws i).2.length = 256) :
    Calls Tryz.prog 50 #[.slice a n c, .func (.func 51) #[] #[.pointer (some ⟨g, 0, none⟩)]] w fun e w' => e = .returned (.bool (!r)) ∧ Below w.heap.size w w' := by
  cases r with
  | true =>
    have HI := Lib.hid (dIndexW_none a n c ws g w hB hlg hg (hr.1 rfl))
    clear hB hg hr
    go_enter Tryz.func50, Tryz.ntmps50
    go_wp2_with fail
    refine HI.out.mono ?_
    rintro e w1 ⟨rfl, b2⟩
    have HB2 := Lib.hid b2; clear b2
    go_wp2_with fail
    go_ret
    exact ⟨rfl, HB2.out⟩
  | false =>
    obtain ⟨j, hj, hodd⟩ : ∃ i, i < n ∧ ¬ ((0 ≤ (wr_ ws i).1 ∧ (wr_ ws i).1 < 256) ∧ (wr_ ws i).2.length = 256) := by
      apply Classical.byContradiction
      intro hn
      have : false = true := hr.2 fun i hi => Classical.byContradiction fun h => hn ⟨i, hi, h⟩
      cases this
    have HI := Lib.hid (dIndexW_some a n c ws g w hB hlg hg j hj hodd)
    clear hB hg hr hodd
    go_enter Tryz.func50, Tryz.ntmps50
    go_wp2_with fail
    refine HI.out.mono ?_
    rintro e w1 ⟨k, rfl, b2⟩
    have k0 : (0 : Int) ≤ k := by omega
    have HB2 := Lib.hid b2; clear b2
    go_wp2_with fail
    go_ret
    exact ⟨rfl, HB2.out⟩
/-- All are as they should be: dev.allAre. -/
theorem dAllW_any (a : Option Addr) (n c : Nat) (ws : WrL) (w : World) (hB : Wts w w.heap.size a n c ws) (r : Bool) (hr : r = true ↔ ∀ i, i < n → (0 ≤ (wr_ ws i).1 ∧ (wr_ ws i).1 < 256) ∧ (wr_ ws i).2.length = 256) :
    Calls Tryz.prog 26 #[.slice a n c, .func (.func 27) #[] #[]] w fun e w' => e = .returned (.bool r) ∧ Below w.heap.size w w' := by
  have b0 := (Below.refl w.heap.size w).alloc (Nat.le_refl _) (.cells #[.func (.func 27) #[] #[]] 72)
  have x0 := Blk.new w 72 #[.func (.func 27) #[] #[]]
  have HI := Lib.hid (dContW_any a n c ws w.heap.size _ (hB.step b0) (by rw [World.size_alloc]; omega) (x0.cell 0) r hr)
  have HB := Lib.hid b0
  clear hB hr b0 x0
  go_enter Tryz.func26, Tryz.ntmps26
  go_wp2_with fail
  refine HI.out.mono ?_
  rintro e w1 ⟨rfl, b2⟩
  have HB2 := Lib.hid (HB.out.trans (b2.mono HB.out.size)); clear b2
  go_wp2_with fail
  go_ret
  exact ⟨by simp, HB2.out⟩
/-- dev.mayBe. -/
theorem dMay_yes (x : DAt) (D : DkL) (w : World) (h : Dsk w w.heap.size x D) (hm : MayD D) : Calls Tryz.prog 15 #[dval x D] w fun e w' => e = .returned (.bool true) ∧ Below w.heap.size w w' := by
  obtain ⟨ba, bc, wa, wc⟩ := x
  obtain ⟨bl, ws⟩ := D
  obtain ⟨hB, hW⟩ := h
  obtain ⟨⟨m1, m2⟩, m3, m4⟩ := hm
  simp only [dval] at hB hW m1 m2 m3 m4 ⊢
  obtain ⟨m, hm⟩ : ∃ m, ws.length = m := ⟨_, rfl⟩
  rw [hm] at hW m3 m4 ⊢
  rw [m1] at hB ⊢
  have i0 : (m : Int) ≤ 4096 := by omega
  have b0 := (Below.refl w.heap.size w).alloc (Nat.le_refl _) (.cells #[.slice ba 256 bc, .slice wa m wc] 25)
  have x0 := Blk.new w 25 #[.slice ba 256 bc, .slice wa m wc]
  have HI := Lib.hid (dAllB_any ba 256 bc bl _ (hB.step b0) true ⟨fun _ => m2, fun _ => rfl⟩)
  have HX := Lib.hid x0
  have HB := Lib.hid b0
  have HW := Lib.hid (hW.step b0)
  have HP := Lib.hid m4
  clear hB hW b0 x0 m1 m2 m4 hm
  go_enter Tryz.func15, Tryz.ntmps15
  go_wp2_with fail
  refine HI.out.mono ?_
  rintro e w1 ⟨rfl, b1⟩
  have c0 := (HX.out.below b1 HX.out.lt).cell 0
  have c1 := (HX.out.below b1 HX.out.lt).cell 1
  have HI2 := Lib.hid (dAllW_any wa m wc ws w1 (HW.out.step b1) true ⟨fun _ => HP.out, fun _ => rfl⟩)
  have HB2 := Lib.hid (HB.out.trans (b1.mono HB.out.size))
  clear b1
  go_wp2_with fail
  refine HI2.out.mono ?_
  rintro e w2 ⟨rfl, b2⟩
  have HB3 := Lib.hid (HB2.out.trans (b2.mono HB2.out.size))
  clear b2 c0 c1
  go_wp2_with fail
  go_ret
  exact ⟨rfl, HB3.out⟩
theorem dMay_no (x : DAt) (D : DkL) (w : World) (h : Dsk w w.heap.size x D) (hm : ¬ MayD D) : Calls Tryz.prog 15 #[dval x D] w fun e w' => e = .returned (.bool false) ∧ Below w.heap.size w w' := by
  obtain ⟨ba, bc, wa, wc⟩ := x
  obtain ⟨bl, ws⟩ := D
  obtain ⟨hB, hW⟩ := h
  unfold MayD at hm
  simp only [dval] at hB hW hm ⊢
  have l1 := hB.len_le
  have l2 := hW.len_le
  obtain ⟨n, hn⟩ : ∃ n, bl.length = n := ⟨_, rfl⟩
  obtain ⟨m, hm'⟩ : ∃ m, ws.length = m := ⟨_, rfl⟩
  rw [hm'] at hW hm l2 ⊢
  rw [hn] at hB hm l1 ⊢
  have n0 : (0 : Int) ≤ n := by omega
  have m0 : (0 : Int) ≤ m := by omega
  have b0 := (Below.refl w.heap.size w).alloc (Nat.le_refl _) (.cells #[.slice ba n bc, .slice wa m wc] 25)
  have x0 := Blk.new w 25 #[.slice ba n bc, .slice wa m wc]
  have HX := Lib.hid x0
  have HB := Lib.hid b0
  have HW := Lib.hid (hW.step b0)
  have HBl := Lib.hid (hB.step b0)
  clear hB hW b0 x0 hn hm'
  by_cases h1 : n = 256
  · subst h1
    by_cases h2 : (m : Int) ≤ 4096
    · have hm2 : ¬ ((∀ i, i < 256 → (bl.getD i []).length = 256) ∧ ∀ i, i < m → (0 ≤ (wr_ ws i).1 ∧ (wr_ ws i).1 < 256) ∧ (wr_ ws i).2.length = 256) := fun hh => hm ⟨⟨rfl, hh.1⟩, by omega, hh.2⟩
      by_cases h3 : ∀ i, i < 256 → (bl.getD i []).length = 256
      · have HI := Lib.hid (dAllB_any ba 256 bc bl _ HBl.out true ⟨fun _ => h3, fun _ => rfl⟩)
        have HP := Lib.hid (show ¬ ∀ i, i < m → (0 ≤ (wr_ ws i).1 ∧ (wr_ ws i).1 < 256) ∧ (wr_ ws i).2.length = 256 from fun hh => hm2 ⟨h3, hh⟩)
        clear hm hm2 h3
        go_enter Tryz.func15, Tryz.ntmps15
        go_wp2_with fail
        refine HI.out.mono ?_
        rintro e w1 ⟨rfl, b1⟩
        have c0 := (HX.out.below b1 HX.out.lt).cell 0
        have c1 := (HX.out.below b1 HX.out.lt).cell 1
        have HI2 := Lib.hid (dAllW_any wa m wc ws w1 (HW.out.step b1) false ⟨fun h => (by cases h), fun h => absurd h HP.out⟩)
        have HB2 := Lib.hid (HB.out.trans (b1.mono HB.out.size))
        clear b1
        go_wp2_with fail
        refine HI2.out.mono ?_
        rintro e w2 ⟨rfl, b2⟩
        have HB3 := Lib.hid (HB2.out.trans (b2.mono HB2.out.size))
        clear b2 c0 c1
        go_wp2_with fail
        go_ret
        exact ⟨rfl, HB3.out⟩
      · have HI := Lib.hid (dAllB_any ba 256 bc bl _ HBl.out false ⟨fun h => (by cases h), fun h => absurd h h3⟩)
        clear hm hm2 h3
        go_enter Tryz.func15, Tryz.ntmps15
        go_wp2_with fail
        refine HI.out.mono ?_
        rintro e w1 ⟨rfl, b1⟩
        have HB2 := Lib.hid (HB.out.trans (b1.mono HB.out.size))
        clear b1
        go_wp2_with fail
        go_ret
        exact ⟨rfl, HB2.out⟩
    · clear hm
      go_enter Tryz.func15, Tryz.ntmps15
      go_wp2_with fail
      go_ret
      exact ⟨rfl, HB.out⟩
  · have h2 : ((n : Int) == 256) = false := by simp; omega
    clear hm
    go_enter Tryz.func15, Tryz.ntmps15
    go_wp2_with fail
    go_ret
    exact ⟨rfl, HB.out⟩
end Go.Proofs.YtafbidhbmfdlkaaGreatDoor
/-
  Words for a map[int]int that the call made: what it holds, as a function; a lookup, a store.
-/
namespace Go.Proofs.YtafbidhbmfdlkaaGreatDoor
open Go.RowKit Go.Shelf Go.Maps Go.WideShapes
set_option maxRecDepth 100000

theorem lawInt : Keyed Tryz.prog 3 := int_keyed Tryz.underlying3
theorem zeroInt (w : World) : (zeroValue 3).run Tryz.prog w = .ok (.int .i64 0) w := by kernel_rfl
/-- Block g is a map of at most n entries that holds just what f tells. -/
def MapI (w : World) (g n : Nat) (f : Int → Option Nat) : Prop :=
  ∃ D : DataW Unit, w.ownsMap Tryz.prog 3 (plainElem Tryz.prog 3) g n D ∧ IsMap D ∧ ∀ p : Int, (Lit.int .i64 p).wf = true → has D (.int .i64 p) = (f p).isSome ∧ ∀ i, f p = some i → D.atKey (.int .i64 p) (.lit (.int .i64 0)) = .lit (.int .i64 (i : Nat))
section
variable {w w' : World} {g n : Nat} {f : Int → Option Nat}
theorem MapI.lt (h : MapI w g n f) : g < w.heap.size := by obtain ⟨D, h1, _⟩ := h; exact h1.lt
theorem MapI.kept {row : Option Nat} (h : MapI w g n f) (hg : w.grownBy w' row) (hne : some g ≠ row) : MapI w' g n f := by
  obtain ⟨D, h1, h2⟩ := h
  exact ⟨D, h1.kept hg hne, h2⟩
theorem MapI.below {B : Nat} (h : MapI w g n f) (hb : Below B w w') (hg : g < B) : MapI w' g n f := by
  obtain ⟨D, ⟨es, clock, h1, h3⟩, h2⟩ := h
  exact ⟨D, ⟨es, clock, (hb.block g hg).trans h1, h3⟩, h2⟩
theorem mapI_made (w : World) : MapI (w.alloc (.map #[] 0)) w.heap.size 0 (fun _ => none) :=
  ⟨.map [], World.ownsMap_made _ _ _ _, isMap_empty, fun p _ => ⟨rfl, fun i h => by cases h⟩⟩
theorem MapI.congr {f' : Int → Option Nat} (h : MapI w g n f) (e : ∀ p, f p = f' p) : MapI w g n f' := by
  obtain rfl : f = f' := funext e
  exact h
end
section
variable {w : World} {ops : Array Oper} {rest : List Oper} {o : Oper} {a : Act} {Q : Exit → Act → World → Prop}
/-- m[p] = i. -/
theorem wpList_mapI_put (hg : o.guard = none) (m x v : Operand) (hop : o.op = Op.mapUpdate 130 m x v) (g n : Nat) (f : Int → Option Nat) (hm : a.eval m = .map (some g)) (hown : MapI w g n f) (hn : n < maxLen)
    (p : Int) (i : Nat) (hp : (Lit.int .i64 p).wf = true) (hi : (i : Int) ≤ 9223372036854775807) (hx : a.eval x = .int .i64 p) (hv : a.eval v = .int .i64 (i : Nat))
    (hK : ∀ w', MapI w' g (n + 1) (fun q => if q = p then some i else f q) → w.grownBy w' (some g) → wpList Tryz.prog ops Q rest (a.put o.dst undef) w') : wpList Tryz.prog ops Q (o :: rest) a w := by
  obtain ⟨D, h1, h2, h3⟩ := hown
  have hwi : (Lit.int .i64 (i : Nat)).wf = true := by simp [Lit.wf, IntKind.min, IntKind.max, IntKind.signed, IntKind.bits]; omega
  refine wpList_mapUpdate_own w hg m x v 130 hop 3 3 lawInt Tryz.underlying130 _ g n D hm h1 hn (.int .i64 p) (.int .i64 (i : Nat)) (.int .i64 p) hx hv (keyOf_int_mk Tryz.underlying3 hp) (.lit (.int .i64 (i : Nat))) [] (plainElem_int Tryz.underlying3 hwi) ?_
  intro w' hw' hgr
  refine hK w' ⟨_, hw', h2.put _ _, fun q hq => ?_⟩ hgr
  by_cases e : q = p
  · subst e
    have ef : (fun r => if r = q then some i else f r) q = some i := if_pos rfl
    have hk : WideAt.IsKeyLit (.int .i64 q) := by unfold WideAt.IsKeyLit; exact trivial
    rw [ef]
    refine ⟨has_put_same h2 hk _, fun j hj => ?_⟩
    cases hj
    exact atKey_put_same h2 hk _ _
  · have hne : (Lit.int .i64 q) ≠ (Lit.int .i64 p) := fun h => e (by injection h)
    have ef : (fun r => if r = p then some i else f r) q = f q := if_neg e
    obtain ⟨h4, h5⟩ := h3 q hq
    rw [ef]
    refine ⟨by rw [has_put_other hne, h4], fun j hj => ?_⟩
    rw [atKey_put_other hne]
    exact h5 j hj
/-- i, ok := m[p]. -/
theorem wpList_mapI_get (hg : o.guard = none) (m x : Operand) (hop : o.op = Op.lookup 130 m x true) (g n : Nat) (f : Int → Option Nat) (hm : a.eval m = .map (some g)) (hown : MapI w g n f)
    (p : Int) (hp : (Lit.int .i64 p).wf = true) (hx : a.eval x = .int .i64 p)
    (hK : ∀ c : Int, (∀ i, f p = some i → c = (i : Nat)) → wpList Tryz.prog ops Q rest (a.put o.dst (.tuple #[.int .i64 c, .bool (f p).isSome])) w) : wpList Tryz.prog ops Q (o :: rest) a w := by
  obtain ⟨D, h1, h2, h3⟩ := hown
  refine wpList_lookup_own_ok_int w hg m x 130 hop 3 3 .i64 lawInt Tryz.underlying130 Tryz.underlying3 (zeroInt w) g n D hm h1 (.int .i64 p) (.int .i64 p) hx (keyOf_int_mk Tryz.underlying3 hp) ?_
  intro c hat hwc
  obtain ⟨h4, h5⟩ := h3 p hp
  rw [h4]
  refine hK c fun i hi => ?_
  rw [h5 i hi] at hat
  injection hat with hat
  injection hat with _ hat
  exact hat.symm
theorem wpList_mapI_some (hg : o.guard = none) (m x : Operand) (hop : o.op = Op.lookup 130 m x true) (g n : Nat) (f : Int → Option Nat) (hm : a.eval m = .map (some g)) (hown : MapI w g n f)
    (p : Int) (hp : (Lit.int .i64 p).wf = true) (hx : a.eval x = .int .i64 p) (i : Nat) (hf : f p = some i)
    (hK : wpList Tryz.prog ops Q rest (a.put o.dst (.tuple #[.int .i64 (i : Nat), .bool true])) w) : wpList Tryz.prog ops Q (o :: rest) a w :=
  wpList_mapI_get hg m x hop g n f hm hown p hp hx fun c hc => by
    rw [hf, hc i hf]
    exact hK
theorem wpList_mapI_none (hg : o.guard = none) (m x : Operand) (hop : o.op = Op.lookup 130 m x true) (g n : Nat) (f : Int → Option Nat) (hm : a.eval m = .map (some g)) (hown : MapI w g n f)
    (p : Int) (hp : (Lit.int .i64 p).wf = true) (hx : a.eval x = .int .i64 p) (hf : f p = none)
    (hK : ∀ c : Int, wpList Tryz.prog ops Q rest (a.put o.dst (.tuple #[.int .i64 c, .bool false])) w) : wpList Tryz.prog ops Q (o :: rest) a w :=
  wpList_mapI_get hg m x hop g n f hm hown p hp hx fun c _ => by
    rw [hf]
    exact hK c
end
end Go.Proofs.YtafbidhbmfdlkaaGreatDoor
/-
  dev.lastOnes tells for each block which is the last one of the writes whose mark is true.
-/
namespace Go.Proofs.YtafbidhbmfdlkaaGreatDoor
open Go.RowKit Go.Shelf
set_option maxRecDepth 100000

/-- A new map that tells of each block its last one among the first m. -/
def LastPost (ws : WrL) (mk : Nat → Bool) (m : Nat) (w : World) (e : Ending) (w' : World) : Prop :=
  ∃ g, e = .returned (.map (some g)) ∧ w.heap.size ≤ g ∧ MapI w' g m (fun p => lastTo ws mk p m) ∧ Below w.heap.size w w'
theorem lastTo_put {ws : WrL} {mk : Nat → Bool} {k : Nat} {p : Int} {s : List UInt8} (h : wr_ ws k = (p, s)) (hm : mk k = true) (q : Int) : (if q = p then some k else lastTo ws mk q k) = lastTo ws mk q (k + 1) := by
  rw [lastTo, h]
  by_cases e : q = p
  · rw [if_pos e, if_pos ⟨hm, e.symm⟩]
  · rw [if_neg e, if_neg (fun h => e h.2.symm)]
theorem lastTo_skip {ws : WrL} {mk : Nat → Bool} {k : Nat} (hm : mk k = false) (q : Int) : lastTo ws mk q k = lastTo ws mk q (k + 1) := by
  rw [lastTo, if_neg (fun h => by rw [hm] at h; cases h.1)]
set_option maxHeartbeats 1000000 in
theorem dLast0_any (a : Option Addr) (m c : Nat) (ws : WrL) (mk : Nat → Bool) (w : World) (hW : Wts w w.heap.size a m c ws)
    (hF : ∀ W, Below w.heap.size w W → ∀ i, i < m → Calls Tryz.prog 130 #[.int .i64 (i : Nat)] W fun e w' => e = .returned (.bool (mk i)) ∧ Below W.heap.size W w') :
    Calls Tryz.prog 76 #[.slice a m c, .func (.func 130) #[] #[]] w (LastPost ws mk m w) := by
  have hmm := @run_makeMap Tryz.prog
  have m0 : (0 : Int) ≤ m := by omega
  have m1 := hW.len_le
  obtain ⟨g, hg⟩ : ∃ g, w.heap.size = g := ⟨_, rfl⟩
  obtain ⟨w0, hw0⟩ : ∃ w0, w.alloc (.map #[] 0) = w0 := ⟨_, rfl⟩
  have hM := mapI_made w
  have hb0 : Below w.heap.size w w0 := by rw [← hw0]; exact (Below.refl _ w).alloc (Nat.le_refl _) _
  rw [hw0, hg] at hM
  rw [hg] at hb0
  have hM0 : MapI w0 g 0 (fun p => lastTo ws mk p 0) := hM
  have HW := Lib.hid hW
  have HF := Lib.hid hF
  have HG := Lib.hid hg
  have HM0 := Lib.hid hM0
  have HB0 := Lib.hid hb0
  clear hW hF hM hM0 hb0
  go_enter Tryz.func76, Tryz.ntmps76
  go_wp2_with fail
  clear hg hw0
  go_loopw [11] (fun i wr => ∃ k : Nat, k ≤ m ∧ i = .int .i64 k ∧ Hid (MapI wr g k (fun p => lastTo ws mk p k)) ∧ Hid (Below g w wr)) (fun i _ => m - (intOf i).toNat)
  case atStart => exact ⟨0, Nat.zero_le _, rfl, HM0, HB0⟩
  case round =>
    obtain ⟨k, hk, rfl, HM, HB⟩ := hrel
    have k0 : (0 : Int) ≤ k := by omega
    by_cases hlt : k < m
    · have k1 : (k : Int) < m := by omega
      obtain ⟨b, off, p, A, l, c', s, rfl, hlb, hl, hwf, hc, hd, hA⟩ := HW.out.at_ hlt
      rw [HG.out] at hlb
      have c1 := (HB.out.cell (p := ⟨b, off + k * 2, none⟩) hlb).trans hc
      have c2 := (HB.out.cell (p := ⟨b, off + k * 2 + 1, none⟩) hlb).trans hd
      have hx := Blk.new wr 53 #[.int .i64 p, .slice A l c']
      have ba := (Below.refl wr.heap.size wr).alloc (Nat.le_refl _) (.cells #[.int .i64 p, .slice A l c'] 53)
      have hgr : g < wr.heap.size := HM.out.lt
      have ha := HM.out.below ba hgr
      have hb := HB.out.trans (ba.mono (Nat.le_of_lt hgr))
      have hcl := HF.out _ (by rw [HG.out]; exact hb) k hlt
      obtain ⟨wa, hwa⟩ : ∃ wa, wr.alloc (.cells #[.int .i64 p, .slice A l c'] 53) = wa := ⟨_, rfl⟩
      obtain ⟨gt, hgt⟩ : ∃ gt, wr.heap.size = gt := ⟨_, rfl⟩
      rw [hwa, hgt] at hx
      rw [hwa] at ha hb hcl
      rw [hgt] at hgr
      have HX := Lib.hid hx
      have HA := Lib.hid ha
      have HBa := Lib.hid hb
      have HC := Lib.hid hcl
      have HL := Lib.hid hl
      have HWF := Lib.hid hwf
      clear hc hd hA ba hx ha hb hcl HM HB hl hwf
      go_wp2_with fail
      refine HC.out.mono ?_
      rintro e w1 ⟨rfl, b1⟩
      have hgw := HA.out.lt
      have HB1 := Lib.hid (HBa.out.trans (b1.mono (by omega)))
      have HM1 := Lib.hid (HA.out.below b1 hgw)
      have d0 := (HX.out.below b1 HX.out.lt).cell 0
      clear b1 hgt hwa c1 c2 HC HA HBa HX hgw hgr
      by_cases hm : mk k = true
      · have HMK := Lib.hid hm
        go_wp2_with (at_mapUpdate; refine wpList_mapI_put rfl (.tmp 19) (.tmp 21) (.tmp 22) rfl g k _ rfl HM1.out (by unfold maxLen; omega) p k HWF.out (by omega) rfl rfl ?_
                     intro w2 hm2 hg2
                     have HM2 := Lib.hid (hm2.congr (lastTo_put HL.out HMK.out))
                     have HB2 := Lib.hid (HB1.out.grown hg2 (by have := HM1.out.lt; omega) (fun j e => by cases e; exact Nat.le_refl _))
                     clear hm2 hg2)
        go_roundw
        case rel => exact ⟨k + 1, by omega, by go_num, HM2, HB2⟩
        case measure => simp [intOf]; omega
      · have hm' : mk k = false := by simpa using hm
        have HM2 := Lib.hid ((HM1.out.congr (lastTo_skip hm')))
        clear hm
        go_wp2_with fail
        go_roundw
        case rel =>
          obtain ⟨D, h1, h2⟩ := HM2.out
          exact ⟨k + 1, by omega, by go_num, Lib.hid ⟨D, h1.mono (Nat.le_succ _), h2⟩, HB1⟩
        case measure => simp [intOf]; omega
    · obtain rfl : k = m := by omega
      go_wp2_with fail
      go_ret
      exact ⟨g, rfl, by rw [HG.out]; exact Nat.le_refl _, HM.out, by rw [HG.out]; exact HB.out⟩
set_option maxHeartbeats 1000000 in
theorem dLast2_any (a : Option Addr) (m c : Nat) (ws : WrL) (mk : Nat → Bool) (pa pb : Addr) (w : World) (hW : Wts w w.heap.size a m c ws)
    (hF : ∀ W, Below w.heap.size w W → ∀ i, i < m → Calls Tryz.prog 77 #[.int .i64 (i : Nat), .pointer (some pa), .pointer (some pb)] W fun e w' => e = .returned (.bool (mk i)) ∧ Below W.heap.size W w') :
    Calls Tryz.prog 76 #[.slice a m c, .func (.func 77) #[] #[.pointer (some pa), .pointer (some pb)]] w (LastPost ws mk m w) := by
  have hmm := @run_makeMap Tryz.prog
  have m0 : (0 : Int) ≤ m := by omega
  have m1 := hW.len_le
  obtain ⟨g, hg⟩ : ∃ g, w.heap.size = g := ⟨_, rfl⟩
  obtain ⟨w0, hw0⟩ : ∃ w0, w.alloc (.map #[] 0) = w0 := ⟨_, rfl⟩
  have hM := mapI_made w
  have hb0 : Below w.heap.size w w0 := by rw [← hw0]; exact (Below.refl _ w).alloc (Nat.le_refl _) _
  rw [hw0, hg] at hM
  rw [hg] at hb0
  have hM0 : MapI w0 g 0 (fun p => lastTo ws mk p 0) := hM
  have HW := Lib.hid hW
  have HF := Lib.hid hF
  have HG := Lib.hid hg
  have HM0 := Lib.hid hM0
  have HB0 := Lib.hid hb0
  clear hW hF hM hM0 hb0
  go_enter Tryz.func76, Tryz.ntmps76
  go_wp2_with fail
  clear hg hw0
  go_loopw [11] (fun i wr => ∃ k : Nat, k ≤ m ∧ i = .int .i64 k ∧ Hid (MapI wr g k (fun p => lastTo ws mk p k)) ∧ Hid (Below g w wr)) (fun i _ => m - (intOf i).toNat)
  case atStart => exact ⟨0, Nat.zero_le _, rfl, HM0, HB0⟩
  case round =>
    obtain ⟨k, hk, rfl, HM, HB⟩ := hrel
    have k0 : (0 : Int) ≤ k := by omega
    by_cases hlt : k < m
    · have k1 : (k : Int) < m := by omega
      obtain ⟨b, off, p, A, l, c', s, rfl, hlb, hl, hwf, hc, hd, hA⟩ := HW.out.at_ hlt
      rw [HG.out] at hlb
      have c1 := (HB.out.cell (p := ⟨b, off + k * 2, none⟩) hlb).trans hc
      have c2 := (HB.out.cell (p := ⟨b, off + k * 2 + 1, none⟩) hlb).trans hd
      have hx := Blk.new wr 53 #[.int .i64 p, .slice A l c']
      have ba := (Below.refl wr.heap.size wr).alloc (Nat.le_refl _) (.cells #[.int .i64 p, .slice A l c'] 53)
      have hgr : g < wr.heap.size := HM.out.lt
      have ha := HM.out.below ba hgr
      have hb := HB.out.trans (ba.mono (Nat.le_of_lt hgr))
      have hcl := HF.out _ (by rw [HG.out]; exact hb) k hlt
      obtain ⟨wa, hwa⟩ : ∃ wa, wr.alloc (.cells #[.int .i64 p, .slice A l c'] 53) = wa := ⟨_, rfl⟩
      obtain ⟨gt, hgt⟩ : ∃ gt, wr.heap.size = gt := ⟨_, rfl⟩
      rw [hwa, hgt] at hx
      rw [hwa] at ha hb hcl
      rw [hgt] at hgr
      have HX := Lib.hid hx
      have HA := Lib.hid ha
      have HBa := Lib.hid hb
      have HC := Lib.hid hcl
      have HL := Lib.hid hl
      have HWF := Lib.hid hwf
      clear hc hd hA ba hx ha hb hcl HM HB hl hwf
      go_wp2_with fail
      refine HC.out.mono ?_
      rintro e w1 ⟨rfl, b1⟩
      have hgw := HA.out.lt
      have HB1 := Lib.hid (HBa.out.trans (b1.mono (by omega)))
      have HM1 := Lib.hid (HA.out.below b1 hgw)
      have d0 := (HX.out.below b1 HX.out.lt).cell 0
      clear b1 hgt hwa c1 c2 HC HA HBa HX hgw hgr
      by_cases hm : mk k = true
      · have HMK := Lib.hid hm
        go_wp2_with (at_mapUpdate; refine wpList_mapI_put rfl (.tmp 19) (.tmp 21) (.tmp 22) rfl g k _ rfl HM1.out (by unfold maxLen; omega) p k HWF.out (by omega) rfl rfl ?_
                     intro w2 hm2 hg2
                     have HM2 := Lib.hid (hm2.congr (lastTo_put HL.out HMK.out))
                     have HB2 := Lib.hid (HB1.out.grown hg2 (by have := HM1.out.lt; omega) (fun j e => by cases e; exact Nat.le_refl _))
                     clear hm2 hg2)
        go_roundw
        case rel => exact ⟨k + 1, by omega, by go_num, HM2, HB2⟩
        case measure => simp [intOf]; omega
      · have hm' : mk k = false := by simpa using hm
        have HM2 := Lib.hid ((HM1.out.congr (lastTo_skip hm')))
        clear hm
        go_wp2_with fail
        go_roundw
        case rel =>
          obtain ⟨D, h1, h2⟩ := HM2.out
          exact ⟨k + 1, by omega, by go_num, Lib.hid ⟨D, h1.mono (Nat.le_succ _), h2⟩, HB1⟩
        case measure => simp [intOf]; omega
    · obtain rfl : k = m := by omega
      go_wp2_with fail
      go_ret
      exact ⟨g, rfl, by rw [HG.out]; exact Nat.le_refl _, HM.out, by rw [HG.out]; exact HB.out⟩
end Go.Proofs.YtafbidhbmfdlkaaGreatDoor
/-
  dev.left tells what last ones leave of a block; the closures that tell marks.
-/
namespace Go.Proofs.YtafbidhbmfdlkaaGreatDoor
open Go.RowKit Go.Shelf
set_option maxRecDepth 100000

/-- A list below block B that reads as s. -/
def ReadPost (B : Nat) (s : List UInt8) (w : World) (e : Ending) (w' : World) : Prop := ∃ A c, e = .returned (.slice A s.length c) ∧ Bsl w' B A s.length c s ∧ Below w.heap.size w w'
theorem wf64 {p : Int} (h0 : -9223372036854775808 ≤ p) (h1 : p ≤ 9223372036854775807) : (Lit.int .i64 p).wf = true := by simp [Lit.wf, IntKind.min, IntKind.max, IntKind.signed, IntKind.bits]; omega
set_option maxHeartbeats 1000000 in
theorem dLeft_some (B : Nat) (x : DAt) (D : DkL) (g N : Nat) (f : Int → Option Nat) (p : Int) (i : Nat) (w : World) (hB : B ≤ w.heap.size) (h : Dsk w B x D) (hM : MapI w g N f) (hp : (Lit.int .i64 p).wf = true) (hf : f p = some i) (hi : i < D.2.length) :
    Calls Tryz.prog 78 #[dval x D, .map (some g), .int .i64 p] w (ReadPost B (wr_ D.2 i).2 w) := by
  obtain ⟨b, off, q, A, l, c, s, hbe, hlb, hl, _, hc, hd, hA⟩ := h.2.at_ hi
  obtain ⟨ba, bc, wa, wc⟩ := x
  obtain rfl : wa = some ⟨b, off, none⟩ := hbe
  simp only [dval]
  have m1 := h.2.len_le
  obtain ⟨n, hn⟩ : ∃ n, D.1.length = n := ⟨_, rfl⟩
  obtain ⟨m, hm⟩ : ∃ m, D.2.length = m := ⟨_, rfl⟩
  rw [hm] at m1 hi
  have i0 : (0 : Int) ≤ i := by omega
  have i1 : (i : Int) < m := by omega
  have hb := (Below.refl w.heap.size w).alloc (Nat.le_refl _) (.cells #[.slice ba D.1.length bc, .slice (some ⟨b, off, none⟩) D.2.length wc] 25)
  have hx := Blk.new w 25 #[.slice ba D.1.length bc, .slice (some ⟨b, off, none⟩) D.2.length wc]
  have hM1 := hM.below hb hM.lt
  have c1 := (hb.cell (p := ⟨b, off + i * 2, none⟩) (Nat.lt_of_lt_of_le hlb hB)).trans hc
  have c2 := (hb.cell (p := ⟨b, off + i * 2 + 1, none⟩) (Nat.lt_of_lt_of_le hlb hB)).trans hd
  have hA1 := hA.below (hb.mono hB)
  rw [hn, hm] at hb hx hM1 c1 c2 hA1 ⊢
  rw [hl]
  have hls := hA.1
  subst hls
  have HB := Lib.hid hb
  have HX := Lib.hid hx
  have HM := Lib.hid hM1
  have HA := Lib.hid hA1
  have HP := Lib.hid hp
  have HF := Lib.hid hf
  clear h hM hb hx hM1 hc hd hA hA1 hl hn hm hp hf
  go_enter Tryz.func78, Tryz.ntmps78
  go_wp2_with (at_lookup; refine wpList_mapI_some rfl (.tmp 10) (.tmp 11) rfl g N f rfl HM.out p HP.out rfl i HF.out ?_)
  go_ret
  exact ⟨A, c, rfl, HA.out, HB.out⟩
set_option maxHeartbeats 1000000 in
theorem dLeft_none (B : Nat) (x : DAt) (D : DkL) (g N : Nat) (f : Int → Option Nat) (p : Nat) (w : World) (hB : B ≤ w.heap.size) (h : Dsk w B x D) (hM : MapI w g N f) (hf : f (p : Int) = none) (hp : p < D.1.length) :
    Calls Tryz.prog 78 #[dval x D, .map (some g), .int .i64 p] w (ReadPost B (D.1.getD p []) w) := by
  have m1 := h.1.len_le
  obtain ⟨b, off, A, l, c, s, hbe, hlb, hl, hc, hA⟩ := h.1.at_ hp
  obtain ⟨ba, bc, wa, wc⟩ := x
  obtain rfl : ba = some ⟨b, off, none⟩ := hbe
  simp only [dval]
  obtain ⟨n, hn⟩ : ∃ n, D.1.length = n := ⟨_, rfl⟩
  obtain ⟨m, hm⟩ : ∃ m, D.2.length = m := ⟨_, rfl⟩
  rw [hn] at m1 hp
  have i0 : (0 : Int) ≤ p := by omega
  have i1 : (p : Int) < n := by omega
  have hwf := wf64 (p := p) (by omega) (by omega)
  have hb := (Below.refl w.heap.size w).alloc (Nat.le_refl _) (.cells #[.slice (some ⟨b, off, none⟩) D.1.length bc, .slice wa D.2.length wc] 25)
  have hx := Blk.new w 25 #[.slice (some ⟨b, off, none⟩) D.1.length bc, .slice wa D.2.length wc]
  have hM1 := hM.below hb hM.lt
  have c1 := (hb.cell (p := ⟨b, off + p, none⟩) (Nat.lt_of_lt_of_le hlb hB)).trans hc
  have hA1 := hA.below (hb.mono hB)
  rw [hn, hm] at hb hx hM1 c1 hA1 ⊢
  rw [hl]
  have hls := hA.1
  subst hls
  have HB := Lib.hid hb
  have HX := Lib.hid hx
  have HM := Lib.hid hM1
  have HA := Lib.hid hA1
  have HP := Lib.hid hwf
  have HF := Lib.hid hf
  clear h hM hb hx hM1 hc hA hA1 hl hn hm hwf hf
  go_enter Tryz.func78, Tryz.ntmps78
  go_wp2_with (at_lookup; refine wpList_mapI_none rfl (.tmp 10) (.tmp 11) rfl g N f rfl HM.out p HP.out rfl HF.out ?_; intro cx)
  go_ret
  exact ⟨A, c, rfl, HA.out, HB.out⟩
/-- What last ones leave. -/
theorem dLeft_any (B : Nat) (x : DAt) (D : DkL) (g N : Nat) (mk : Nat → Bool) (p : Nat) (w : World) (hB : B ≤ w.heap.size) (h : Dsk w B x D) (hM : MapI w g N (fun q => lastTo D.2 mk q D.2.length)) (hp : p < D.1.length) :
    Calls Tryz.prog 78 #[dval x D, .map (some g), .int .i64 p] w (ReadPost B (leftD D mk p) w) := by
  have m1 := h.1.len_le
  unfold leftD
  split
  · rename_i i hi
    exact dLeft_some B x D g N _ p i w hB h hM (wf64 (by omega) (by omega)) hi (lastTo_lt hi).1
  · rename_i hi
    exact dLeft_none B x D g N _ p w hB h hM hi hp
theorem dAllMarks (i : Int) (w : World) : Calls Tryz.prog 130 #[.int .i64 i] w fun e w' => e = .returned (.bool true) ∧ Below w.heap.size w w' := by
  go_enter Tryz.func130, Tryz.ntmps130
  go_wp2_with fail
  go_ret
  exact ⟨rfl, Below.refl _ _⟩
/-- A slice of marks that lies below block B reads as ks. -/
def Mks (w : World) (B : Nat) (a : Option Addr) (len cap : Nat) (ks : List Bool) : Prop :=
  ks.length = len ∧ len ≤ cap ∧ cap ≤ maxLen ∧ (0 < len → ∃ b off, a = some ⟨b, off, none⟩ ∧ b < B ∧ ∀ i, i < len → w.cell? ⟨b, off + i, none⟩ = some (.bool (ks.getD i false)))
theorem Mks.below {w w' : World} {B len cap : Nat} {a : Option Addr} {ks : List Bool} (h : Mks w B a len cap ks) (hb : Below B w w') : Mks w' B a len cap ks := by
  obtain ⟨h1, h2, h3, h4⟩ := h
  refine ⟨h1, h2, h3, fun hl => ?_⟩
  obtain ⟨b, off, e, hlt, hc⟩ := h4 hl
  exact ⟨b, off, e, hlt, fun i hi => (hb.cell (p := ⟨b, off + i, none⟩) hlt).trans (hc i hi)⟩
theorem Mks.more {w : World} {B B' len cap : Nat} {a : Option Addr} {ks : List Bool} (h : Mks w B a len cap ks) (hB : B ≤ B') : Mks w B' a len cap ks := by
  obtain ⟨h1, h2, h3, h4⟩ := h
  refine ⟨h1, h2, h3, fun hl => ?_⟩
  obtain ⟨b, off, e, hlt, hc⟩ := h4 hl
  exact ⟨b, off, e, by omega, hc⟩
theorem Mks.step {w w' : World} {len cap : Nat} {a : Option Addr} {ks : List Bool} (h : Mks w w.heap.size a len cap ks) (hb : Below w.heap.size w w') : Mks w' w'.heap.size a len cap ks := (h.below hb).more hb.size
theorem Mks.len_le {w : World} {B len cap : Nat} {a : Option Addr} {ks : List Bool} (h : Mks w B a len cap ks) : (len : Int) ≤ 9223372036854775807 := by have h1 := h.2.1; have h2 := h.2.2.1; unfold maxLen at h2; omega
theorem dGoes_any (B : Nat) (x : DAt) (D : DkL) (gd ga : Nat) (p : Int) (i : Nat) (w : World) (h : Dsk w B x D) (hd : Blk w gd 25 #[.slice x.ba D.1.length x.bc, .slice x.wa D.2.length x.wc]) (hp : w.cell? ⟨ga, 0, none⟩ = some (.int .i64 p)) (hi : i < D.2.length) :
    Calls Tryz.prog 77 #[.int .i64 (i : Nat), .pointer (some ⟨gd, 0, none⟩), .pointer (some ⟨ga, 0, none⟩)] w fun e w' => e = .returned (.bool (decide ((wr_ D.2 i).1 = p))) ∧ Below w.heap.size w w' := by
  obtain ⟨b, off, q, A, l, c, s, hbe, hlb, hl, _, hc, _, hA⟩ := h.2.at_ hi
  obtain ⟨ba, bc, wa, wc⟩ := x
  obtain rfl : wa = some ⟨b, off, none⟩ := hbe
  have m1 := h.2.len_le
  obtain ⟨m, hm⟩ : ∃ m, D.2.length = m := ⟨_, rfl⟩
  rw [hm] at m1 hi
  rw [hl]
  have i0 : (0 : Int) ≤ i := by omega
  have i1 : (i : Int) < m := by omega
  have d1 : w.cell? ⟨gd, 1, none⟩ = some (.slice (some ⟨b, off, none⟩) m wc) := by rw [← hm]; exact hd.cell 1
  have e : (q == p) = decide (q = p) := rfl
  have HB := Lib.hid (fun k => below_drewN (Below.refl w.heap.size w) k)
  have HE := Lib.hid e
  clear h hd hA hm hl e
  go_enter Tryz.func77, Tryz.ntmps77
  go_wp2_with fail
  go_quiet (fail)
  go_wp2_with fail
  go_ret
  exact ⟨by first | rfl | (rw [← HE.out]; rfl), HB.out _⟩
end Go.Proofs.YtafbidhbmfdlkaaGreatDoor
/-
  Words for the document's own Twin of a disk: rows of the call's own whose pieces lie each in a block of its own.
-/
namespace Go.Proofs.YtafbidhbmfdlkaaGreatDoor
open Go.RowKit Go.Shelf
set_option maxRecDepth 100000

theorem own_val {w : World} {base n : Nat} {v : Value} {s : List UInt8} (h : w.ownsRow base 5 1 v n (vals s)) : ∃ A c, v = .slice A n c ∧ ∀ B, BslO w B A n c s := by
  obtain ⟨A, c, rfl⟩ := own_slice h
  exact ⟨A, c, rfl, fun B => BslO.own h B⟩
/-- The pieces' values: those that are there yet. -/
def ifDone (k i : Nat) (v : Value) : Value := if i < k then v else .slice none 0 0
theorem done_yes {k i : Nat} {v : Value} (h : i < k) : ifDone k i v = v := if_pos h
theorem done_no {k i : Nat} {v : Value} (h : ¬ i < k) : ifDone k i v = .slice none 0 0 := if_neg h
/-- One value more. -/
def putV (vs : Nat → Value) (k : Nat) (v : Value) (i : Nat) : Value := if i = k then v else vs i
theorem put_same (vs : Nat → Value) (k : Nat) (v : Value) : putV vs k v k = v := if_pos rfl
theorem put_ne {vs : Nat → Value} {k i : Nat} {v : Value} (h : i ≠ k) : putV vs k v i = vs i := if_neg h
/-- A disk whose first k pieces are there, each in a block of its own. -/
def TwI (base hb hw : Nat) (D : DkL) (k : Nat) (w : World) : Prop :=
  ∃ (vs : Nat → Value) (cb cw : Array Value), Blk w hb 26 cb ∧ cb.size = D.1.length ∧ Blk w hw 53 cw ∧ cw.size = D.2.length * 2 ∧
    (∀ i, i < D.1.length → cb[i]? = some (ifDone k i (vs i))) ∧
    (∀ j, j < D.2.length → cw[j * 2 + 1]? = some (ifDone k (D.1.length + j) (vs (D.1.length + j))) ∧ (D.1.length + j < k → cw[j * 2]? = some (.int .i64 (wr_ D.2 j).1))) ∧
    (∀ i, i < k → w.ownsRow base 5 1 (vs i) ((pieces D).getD i []).length (vals ((pieces D).getD i []))) ∧
    (∀ i j, i < j → j < k → ∀ b, (vs i).ownBlock = some b → (vs j).ownBlock ≠ some b)
theorem TwI.below {base hb hw k : Nat} {D : DkL} {w w' : World} (h : TwI base hb hw D k w) (hb' : Below w.heap.size w w') : TwI base hb hw D k w' := by
  obtain ⟨vs, cb, cw, h1, h2, h3, h4, h5, h6, h7, h8⟩ := h
  exact ⟨vs, cb, cw, h1.below hb' h1.lt, h2, h3.below hb' h3.lt, h4, h5, h6, fun i hi => own_below (h7 i hi) hb', h8⟩
theorem own_ne {w : World} {base n g : Nat} {v : Value} {xs : List Value} {t : TypeId} {cs : Array Value} (h : w.ownsRow base 5 1 v n xs) (hg : Blk w g t cs) (ht : t ≠ 5) : ∀ b, v.ownBlock = some b → b ≠ g := by
  intro b hb
  obtain ⟨_, ⟨rfl, _⟩ | ⟨g', cap, cur, rfl, _, h3, _⟩⟩ := h
  · cases hb
  · obtain rfl : g' = b := Option.some.inj hb
    exact fun e => (show Blk w g' _ cur from h3).ne hg (Ne.symm ht) e
/-- The next block is there. -/
theorem TwI.block {base hb hw k : Nat} {D : DkL} {w w' : World} {v : Value} (h : TwI base hb hw D k w) (hk : k < D.1.length) (hb' : Below w.heap.size w w') (hv : w'.ownsRow w.heap.size 5 1 v (D.1.getD k []).length (vals (D.1.getD k []))) (hbase : base ≤ w.heap.size) :
    TwI base hb hw D (k + 1) (w'.setCell ⟨hb, k, none⟩ v) := by
  have h0 := h.below hb'
  obtain ⟨vs, cb, cw, h1, h2, h3, h4, h5, h6, h7, h8⟩ := h
  have hlt : ∀ i, i < k → ∀ b, (vs i).ownBlock = some b → b < w.heap.size := fun i hi b e => ((h7 i hi).lt b e).2
  have x1 := h1.below hb' h1.lt
  have x3 := h3.below hb' h3.lt
  have hne : hw ≠ hb := x3.ne x1 (by decide)
  have gs : w'.grownBy (w'.setCell ⟨hb, k, none⟩ v) (some hb) := only_setCell (World.grownBy.refl w' _) (.inl rfl) _
  have hps : (pieces D).getD k [] = D.1.getD k [] := pieces_left hk
  refine ⟨putV vs k v, _, cw, x1.set_ k v, by simpa using h2, x3.far (by simpa using hne) _, h4, fun i hi => ?_, fun j hj => ?_, fun i hi => ?_, fun i j hij hj b e1 e2 => ?_⟩
  · rw [Array.getElem?_setIfInBounds]
    by_cases e : k = i
    · subst e
      rw [if_pos rfl, if_pos (by omega), done_yes (by omega), put_same]
    · rw [if_neg e, h5 i hi, put_ne (Ne.symm e)]
      by_cases e2 : i < k
      · rw [done_yes e2, done_yes (by omega)]
      · rw [done_no e2, done_no (by omega)]
  · obtain ⟨e1, e2⟩ := h6 j hj
    refine ⟨?_, fun hh => absurd hh (by omega)⟩
    rw [e1, done_no (by omega), done_no (by omega)]
  · by_cases e : i = k
    · subst e
      rw [put_same, hps]
      exact own_mono (own_other hv gs (own_ne hv x1 (by decide))) hbase
    · rw [put_ne e]
      have := own_below (h7 i (by omega)) hb'
      exact own_other this gs (own_ne this x1 (by decide))
  · rw [put_ne (by omega)] at e1
    by_cases e : j = k
    · subst e
      rw [put_same] at e2
      have h9 := hlt i (by omega) b e1
      have h10 := (hv.lt b e2).1
      omega
    · rw [put_ne e] at e2
      exact h8 i j hij (by omega) b e1 e2
/-- The next write's place is there. -/
theorem TwI.at_ {base hb hw k j : Nat} {D : DkL} {w : World} {u : Value} (h : TwI base hb hw D k w) (hk : k ≤ D.1.length + j) : TwI base hb hw D k (w.setCell ⟨hw, j * 2, none⟩ u) := by
  obtain ⟨vs, cb, cw, h1, h2, h3, h4, h5, h6, h7, h8⟩ := h
  have hne : hb ≠ hw := h1.ne h3 (by decide)
  have gs : w.grownBy (w.setCell ⟨hw, j * 2, none⟩ u) (some hw) := only_setCell (World.grownBy.refl w _) (.inl rfl) _
  refine ⟨vs, cb, _, h1.far (by simpa using hne) _, h2, h3.set_ _ _, by simpa using h4, h5, fun i hi => ?_, fun i hi => own_other (h7 i hi) gs (own_ne (h7 i hi) h3 (by decide)), h8⟩
  obtain ⟨e1, e2⟩ := h6 i hi
  refine ⟨by rw [Array.getElem?_setIfInBounds, if_neg (by omega)]; exact e1, fun hh => ?_⟩
  rw [Array.getElem?_setIfInBounds, if_neg (by omega)]
  exact e2 hh
/-- The next write is there. -/
theorem TwI.write {base hb hw k j : Nat} {D : DkL} {w w' : World} {v : Value} (h : TwI base hb hw D k w) (hk : k = D.1.length + j) (hj : j < D.2.length) (hat : w.cell? ⟨hw, j * 2, none⟩ = some (.int .i64 (wr_ D.2 j).1)) (hb' : Below w.heap.size w w') (hv : w'.ownsRow w.heap.size 5 1 v (wr_ D.2 j).2.length (vals (wr_ D.2 j).2)) (hbase : base ≤ w.heap.size) :
    TwI base hb hw D (k + 1) (w'.setCell ⟨hw, j * 2 + 1, none⟩ v) := by
  obtain ⟨vs, cb, cw, h1, h2, h3, h4, h5, h6, h7, h8⟩ := h
  have hlt : ∀ i, i < k → ∀ b, (vs i).ownBlock = some b → b < w.heap.size := fun i hi b e => ((h7 i hi).lt b e).2
  have x1 := h1.below hb' h1.lt
  have x3 := h3.below hb' h3.lt
  have hne : hb ≠ hw := x1.ne x3 (by decide)
  rw [h3.cell] at hat
  have gs : w'.grownBy (w'.setCell ⟨hw, j * 2 + 1, none⟩ v) (some hw) := only_setCell (World.grownBy.refl w' _) (.inl rfl) _
  have hps : (pieces D).getD k [] = (wr_ D.2 j).2 := by rw [hk]; exact pieces_right hj
  refine ⟨putV vs k v, cb, _, x1.far (by simpa using hne) _, h2, x3.set_ _ _, by simpa using h4, fun i hi => ?_, fun i hi => ?_, fun i hi => ?_, fun i i' hij hi' b e1 e2 => ?_⟩
  · rw [h5 i hi, put_ne (by omega), done_yes (by omega), done_yes (by omega)]
  · obtain ⟨e1, e2⟩ := h6 i hi
    by_cases e : i = j
    · subst e
      subst hk
      refine ⟨?_, fun _ => ?_⟩
      · rw [Array.getElem?_setIfInBounds, if_pos rfl, if_pos (by omega), done_yes (by omega), put_same]
      · rw [Array.getElem?_setIfInBounds, if_neg (by omega)]
        exact hat
    · refine ⟨?_, fun hh => ?_⟩
      · rw [Array.getElem?_setIfInBounds, if_neg (by omega), e1, put_ne (by omega)]
        by_cases e3 : D.1.length + i < k
        · rw [done_yes e3, done_yes (by omega)]
        · rw [done_no e3, done_no (by omega)]
      · rw [Array.getElem?_setIfInBounds, if_neg (by omega)]
        exact e2 (by omega)
  · by_cases e : i = k
    · subst e
      rw [put_same, hps]
      exact own_mono (own_other hv gs (own_ne hv x3 (by decide))) hbase
    · rw [put_ne e]
      have := own_below (h7 i (by omega)) hb'
      exact own_other this gs (own_ne this x3 (by decide))
  · rw [put_ne (by omega)] at e1
    by_cases e : i' = k
    · subst e
      rw [put_same] at e2
      have h9 := hlt i (by omega) b e1
      have h10 := (hv.lt b e2).1
      omega
    · rw [put_ne e] at e2
      exact h8 i i' hij (by omega) b e1 e2
/-- A disk all of whose pieces are there. -/
def Tw (w : World) (base : Nat) (x : DAt) (D : DkL) : Prop :=
  ∃ hb hw, x = ⟨some ⟨hb, 0, none⟩, D.1.length, some ⟨hw, 0, none⟩, D.2.length⟩ ∧ base ≤ hb ∧ base ≤ hw ∧ Fits D ∧ (∀ i, i < D.2.length → (Lit.int .i64 (wr_ D.2 i).1).wf = true) ∧ TwI base hb hw D (D.1.length + D.2.length) w
theorem Tw.below {w w' : World} {base : Nat} {x : DAt} {D : DkL} (h : Tw w base x D) (hb : Below w.heap.size w w') : Tw w' base x D := by
  obtain ⟨a, b, c, d, e, f, g, h1⟩ := h
  exact ⟨a, b, c, d, e, f, g, h1.below hb⟩
theorem Tw.brow {w : World} {base : Nat} {x : DAt} {D : DkL} (h : Tw w base x D) (C : Nat) : BRowC w C base (.slice x.ba D.1.length x.bc) D.1 := by
  obtain ⟨hb, hw, rfl, k1, k2, hf, hwf, vs, cb, cw, h1, h2, h3, h4, h5, h6, h7, h8⟩ := h
  refine ⟨cb.toList, ⟨by simp [h2], .inr ⟨hb, D.1.length, cb, rfl, k1, h1, Nat.le_refl _, by have := hf.1; unfold maxLen; omega, by omega, List.take_of_length_le (by simp [h2])⟩⟩, fun i hi => ?_⟩
  have ho := h7 i (by omega)
  rw [pieces_left hi] at ho
  obtain ⟨A, c, e, hs⟩ := own_val ho
  refine ⟨A, c, ?_, hs C⟩
  have := h5 i hi
  rw [done_yes (by omega), e] at this
  rw [List.getD_eq_getElem?_getD, Array.getElem?_toList, this]
  rfl
theorem Tw.wrow {w : World} {base : Nat} {x : DAt} {D : DkL} (h : Tw w base x D) (C : Nat) : WRowC w C base (.slice x.wa D.2.length x.wc) D.2 := by
  obtain ⟨hb, hw, rfl, k1, k2, hf, hwf, vs, cb, cw, h1, h2, h3, h4, h5, h6, h7, h8⟩ := h
  refine ⟨cw.toList, ⟨by simp [h4], .inr ⟨hw, D.2.length, cw, rfl, k2, h3, Nat.le_refl _, by have := hf.2.1; unfold maxLen; omega, h4, List.take_of_length_le (by simp [h4])⟩⟩, fun i hi => ?_⟩
  have ho := h7 (D.1.length + i) (by omega)
  rw [pieces_right hi] at ho
  obtain ⟨A, c, e, hs⟩ := own_val ho
  obtain ⟨e1, e2⟩ := h6 i hi
  rw [done_yes (by omega), e] at e1
  refine ⟨hwf i hi, ?_, A, c, ?_, hs C⟩
  · rw [List.getD_eq_getElem?_getD, Array.getElem?_toList, e2 (by omega)]
    rfl
  · rw [List.getD_eq_getElem?_getD, Array.getElem?_toList, e1]
    rfl
theorem Tw.dsk {w : World} {base : Nat} {x : DAt} {D : DkL} (h : Tw w base x D) : Dsk w w.heap.size x D := by
  obtain ⟨a, c, e1, h1⟩ := (h.brow 0).bls
  obtain ⟨a', c', e2, h2⟩ := (h.wrow 0).wts
  cases e1
  cases e2
  exact ⟨h1, h2⟩
/-- A disk that stays where a box of disks is written. -/
def DskT (w : World) (x : DAt) (D : DkL) : Prop := Dsk w w.heap.size x D ∧ ∀ g cs u v, Blk w g 25 cs → Dsk ((w.setCell ⟨g, 0, none⟩ u).setCell ⟨g, 1, none⟩ v) w.heap.size x D
theorem rows_dsk {w : World} {C C' b1 b2 : Nat} {x : DAt} {D : DkL} (h1 : BRowC w C b1 (.slice x.ba D.1.length x.bc) D.1) (h2 : WRowC w C' b2 (.slice x.wa D.2.length x.wc) D.2) : Dsk w w.heap.size x D := by
  obtain ⟨a, c, e1, h1⟩ := h1.bls
  obtain ⟨a', c', e2, h2⟩ := h2.wts
  cases e1
  cases e2
  exact ⟨h1, h2⟩
theorem rows_dskT {w : World} {b1 b2 : Nat} {x : DAt} {D : DkL} (h1 : BRowC w 0 b1 (.slice x.ba D.1.length x.bc) D.1) (h2 : WRowC w 0 b2 (.slice x.wa D.2.length x.wc) D.2) : DskT w x D :=
  ⟨rows_dsk h1 h2, fun g cs u v hg => by
    have gs : w.grownBy ((w.setCell ⟨g, 0, none⟩ u).setCell ⟨g, 1, none⟩ v) (some g) := only_two w g u v
    have := rows_dsk (h1.row gs (Nat.zero_le _) hg (by decide) (by decide)) (h2.row gs (Nat.zero_le _) hg (by decide) (by decide))
    simpa using this⟩
theorem Tw.dskT {w : World} {base : Nat} {x : DAt} {D : DkL} (h : Tw w base x D) : DskT w x D := rows_dskT (h.brow 0) (h.wrow 0)
end Go.Proofs.YtafbidhbmfdlkaaGreatDoor
/-
  dev.settled of a disk that may be answers what the writes leave whose mark is true, laid in one new piece.
-/
namespace Go.Proofs.YtafbidhbmfdlkaaGreatDoor
open Go.RowKit Go.Shelf
set_option maxRecDepth 100000

/-- A row of one's own whose first k cells are lists below block B that read as f tells. -/
def RowsI (B : Nat) (f : Nat → List UInt8) (hb n k : Nat) (w : World) : Prop := ∃ cb, Blk w hb 26 cb ∧ cb.size = n ∧ ∀ i, i < k → ∃ A c, cb[i]? = some (.slice A (f i).length c) ∧ Bsl w B A (f i).length c (f i)
theorem RowsI.below {B : Nat} {f : Nat → List UInt8} {hb n k : Nat} {w w' : World} (h : RowsI B f hb n k w) (hB : B ≤ w.heap.size) (hw : Below w.heap.size w w') : RowsI B f hb n k w' := by
  obtain ⟨cb, h1, h2, h3⟩ := h
  refine ⟨cb, h1.below hw h1.lt, h2, fun i hi => ?_⟩
  obtain ⟨A, c, h4, h5⟩ := h3 i hi
  exact ⟨A, c, h4, h5.below (hw.mono hB)⟩
theorem RowsI.put {B : Nat} {f : Nat → List UInt8} {hb n k : Nat} {w : World} (h : RowsI B f hb n k w) (hB : B ≤ hb) (hk : k < n) {A : Option Addr} {c : Nat} (hs : Bsl w B A (f k).length c (f k)) : RowsI B f hb n (k + 1) (w.setCell ⟨hb, k, none⟩ (.slice A (f k).length c)) := by
  obtain ⟨cb, h1, h2, h3⟩ := h
  have hb' : Below B w (w.setCell ⟨hb, k, none⟩ (.slice A (f k).length c)) := (Below.refl B w).setCell (p := ⟨hb, k, none⟩) hB _
  refine ⟨_, h1.set_ k _, by simpa using h2, fun i hi => ?_⟩
  rcases Nat.lt_or_ge i k with h9 | h9
  · obtain ⟨A', c', h4, h5⟩ := h3 i h9
    exact ⟨A', c', by rw [Array.getElem?_setIfInBounds, if_neg (by omega)]; exact h4, h5.below hb'⟩
  · obtain rfl : i = k := by omega
    exact ⟨A, c, by rw [Array.getElem?_setIfInBounds, if_pos rfl, if_pos (by omega)], hs.below hb'⟩
theorem RowsI.bls {B : Nat} {f : Nat → List UInt8} {hb n : Nat} {w : World} (h : RowsI B f hb n n w) (hB : B ≤ w.heap.size) (hn : n ≤ 1000000) : Bls w w.heap.size (some ⟨hb, 0, none⟩) n n ((List.range n).map f) := by
  obtain ⟨cb, h1, h2, h3⟩ := h
  refine ⟨by simp, Nat.le_refl _, by unfold maxLen; omega, fun h0 => ⟨hb, 0, rfl, h1.lt, fun i hi => ?_⟩⟩
  obtain ⟨A, c, h4, h5⟩ := h3 i hi
  have e : ((List.range n).map f).getD i [] = f i := by simp [List.getD_eq_getElem?_getD, hi]
  rw [e]
  exact ⟨A, c, by rw [Nat.zero_add, h1.cell, h4], h5.more hB⟩
set_option maxHeartbeats 2000000 in
theorem dSettled0_any (x : DAt) (D : DkL) (mk : Nat → Bool) (w : World) (h : Dsk w w.heap.size x D) (hmay : MayD D)
    (hF : ∀ W, Below w.heap.size w W → ∀ i, i < D.2.length → Calls Tryz.prog 130 #[.int .i64 (i : Nat)] W fun e w' => e = .returned (.bool (mk i)) ∧ Below W.heap.size W w') :
    Calls Tryz.prog 129 #[dval x D, .func (.func 130) #[] #[]] w (LaidPost (keptD D mk) w) := by
  obtain ⟨ba, bc, wa, wc⟩ := x
  have hl1 := hmay.1.1
  have hfits := may_fits (keptD_may hmay mk)
  have hkl := keptD_length D mk
  simp only [dval]
  rw [hl1]
  have hmk : ∀ W : World, (Instr.makeSlice 22 (.int .i64 256) (.int .i64 256)).run Tryz.prog W = .ok (.slice (some ⟨W.heap.size, 0, none⟩) 256 256) (W.alloc (.cells (Array.replicate 256 (.slice none 0 0)) 26)) := make_rows 256 (by omega)
  obtain ⟨m, hm⟩ : ∃ m, D.2.length = m := ⟨_, rfl⟩
  obtain ⟨B, hB⟩ : ∃ B, w.heap.size = B := ⟨_, rfl⟩
  obtain ⟨w0, hw0⟩ : ∃ w0, (w.alloc (.cells #[.slice ba 256 bc, .slice wa m wc] 25)).alloc (.cells #[.slice none 0 0, .slice none 0 0] 25) = w0 := ⟨_, rfl⟩
  have b0 : Below B w w0 := by rw [← hw0, ← hB]; exact ((Below.refl _ w).alloc (Nat.le_refl _) _).alloc (by simp) _
  have z0 : w0.heap.size = B + 2 := by rw [← hw0, ← hB]; simp
  have x0 : Blk w0 B 25 #[.slice ba 256 bc, .slice wa m wc] := by rw [← hw0, ← hB]; exact (Blk.new w _ _).alloc _
  have x1 : Blk w0 (B + 1) 25 #[.slice none 0 0, .slice none 0 0] := by
    have := Blk.new (w.alloc (.cells #[.slice ba 256 bc, .slice wa m wc] 25)) 25 #[.slice none 0 0, .slice none 0 0]
    rw [World.size_alloc, hB, hw0] at this
    exact this
  have hD0 : Dsk w0 B ⟨ba, bc, wa, wc⟩ D := by
    rw [← hB] at b0 ⊢
    exact ⟨h.1.below b0, h.2.below b0⟩
  have hW0 := (hD0.2.more (B' := w0.heap.size) (by omega))
  have hl := dLast0_any wa m wc D.2 mk w0 (by rw [← hm]; exact hW0) (fun W hW i hi => hF W (by rw [hB]; exact b0.trans (hW.mono (by omega))) i (by rw [hm]; exact hi))
  rw [hm]
  have c0 := x0.cell 0
  have c1 := x0.cell 1
  have HL := Lib.hid hl
  have HX0 := Lib.hid x0
  have HX1 := Lib.hid x1
  have HB0 := Lib.hid b0
  have HZ0 := Lib.hid z0
  have HD := Lib.hid hD0
  have HM := Lib.hid hm
  have HBB := Lib.hid hB
  have HMAY := Lib.hid hmay
  have HFI := Lib.hid hfits
  have HKL := Lib.hid hkl
  have HL1 := Lib.hid hl1
  clear hl x0 x1 b0 z0 hD0 hm hmay hF h hfits hkl hl1 hW0
  go_enter Tryz.func129, Tryz.ntmps129
  go_wp2_with fail
  clear hw0 c0 c1 hB
  refine HL.out.mono ?_
  rintro e w1 ⟨g, rfl, hge, hM1, b1⟩
  have c0 := (HX0.out.below b1 HX0.out.lt).cell 0
  have c1 := (HX0.out.below b1 HX0.out.lt).cell 1
  obtain ⟨hb, hhb⟩ : ∃ hb, w1.heap.size = hb := ⟨_, rfl⟩
  obtain ⟨w2, hw2⟩ : ∃ w2, w1.alloc (.cells (Array.replicate 256 (.slice none 0 0)) 26) = w2 := ⟨_, rfl⟩
  have ba2 : Below w1.heap.size w1 w2 := by rw [← hw2]; exact (Below.refl _ w1).alloc (Nat.le_refl _) _
  have b2 : Below w0.heap.size w0 w2 := b1.trans (ba2.mono b1.size)
  have hR0 : RowsI B (leftD D mk) hb 256 0 w2 := ⟨_, by rw [← hw2, ← hhb]; exact Blk.new w1 _ _, by simp, fun i hi => absurd hi (Nat.not_lt_zero _)⟩
  have hM2 : MapI w2 g m _ := hM1.below ba2 hM1.lt
  have hhb' : g < hb := by rw [← hhb]; exact hM1.lt
  have HB2 := Lib.hid b2
  have HR := Lib.hid hR0
  have HM2 := Lib.hid hM2
  have HGE := Lib.hid (And.intro hge hhb')
  clear b1 hM1 hge ba2 b2 hR0 hM2 hhb' HL
  go_wp2_with fail
  clear hhb hw2 c0 c1
  go_loopw [18] (fun i wr => ∃ k : Nat, k ≤ 256 ∧ i = .int .i64 k ∧ Hid (RowsI B (leftD D mk) hb 256 k wr) ∧ Hid (MapI wr g m (fun p => lastTo D.2 mk p m)) ∧ Hid (Below w0.heap.size w0 wr)) (fun i _ => 256 - (intOf i).toNat)
  case atStart => exact ⟨0, Nat.zero_le _, rfl, HR, HM2, HB2⟩
  case round =>
    obtain ⟨k, hk, rfl, HRr, HMr, HBr⟩ := hrel
    clear HR HM2 HB2
    have k0 : (0 : Int) ≤ k := by omega
    have hz := HZ0.out
    have hzr := HBr.out.size
    have xr := HX0.out.below HBr.out HX0.out.lt
    have d0 := xr.cell 0
    have d1 := xr.cell 1
    by_cases hlt : k < 256
    · have k1 : (k : Int) < 256 := by omega
      have hDr : Dsk wr B ⟨ba, bc, wa, wc⟩ D := ⟨HD.out.1.below (HBr.out.mono (by omega)), HD.out.2.below (HBr.out.mono (by omega))⟩
      have hcl := dLeft_any B ⟨ba, bc, wa, wc⟩ D g m mk k wr (by omega) hDr (by rw [HM.out]; exact HMr.out) (by rw [HL1.out]; exact hlt)
      simp only [dval] at hcl
      rw [HL1.out, HM.out] at hcl
      obtain ⟨s, hs⟩ : ∃ s, leftD D mk k = s := ⟨_, rfl⟩
      rw [hs] at hcl
      have HS := Lib.hid hs
      have HC := Lib.hid hcl
      clear hDr hcl hs xr hz
      go_wp2_with fail
      refine HC.out.mono ?_
      rintro e w3 ⟨A, c, rfl, h3, b3⟩
      have hBr := HBr.out.trans (b3.mono hzr)
      have hR3 := HRr.out.below (by have := HZ0.out; omega) b3
      have hM3 := HMr.out.below b3 HMr.out.lt
      obtain ⟨cb, y1, y2, _⟩ := id hR3
      obtain ⟨u3, hu3⟩ : ∃ u, w3.cell? ⟨hb, k, none⟩ = some u := ⟨_, by rw [y1.cell]; exact Array.getElem?_eq_getElem (by omega)⟩
      have hf3 := y1.frozen k
      have hge := HGE.out
      have hp := hR3.put (k := k) (A := A) (c := c) (by have := HZ0.out; omega) hlt (by rw [HS.out]; exact h3)
      rw [HS.out] at hp
      have gs : w3.grownBy (w3.setCell ⟨hb, k, none⟩ (.slice A s.length c)) (some hb) := only_setCell (World.grownBy.refl w3 _) (.inl rfl) _
      have HP := Lib.hid hp
      have HM3 := Lib.hid (hM3.kept gs (fun e => by have := Option.some.inj e; omega))
      have HB3 := Lib.hid (hBr.setCell (p := ⟨hb, k, none⟩) (by show w0.heap.size ≤ hb; omega) (.slice A s.length c))
      clear h3 b3 hBr hR3 hM3 y1 y2 hp gs HC d0 d1 hzr hge
      go_wp2_with fail
      go_roundw
      case rel => exact ⟨k + 1, by omega, by go_num, HP, HM3, HB3⟩
      case measure => simp [intOf]; omega
    · obtain rfl : k = 256 := by omega
      have hBl := HRr.out.bls (by omega) (by omega)
      have hkd : (keptD D mk).1 = (List.range 256).map (leftD D mk) := rfl
      rw [← hkd] at hBl
      have hla := dLaid_any ⟨some ⟨hb, 0, none⟩, 256, none, 0⟩ (keptD D mk) wr ⟨by rw [HKL.out]; exact hBl, wts_nil _ _⟩ HFI.out
      simp only [HKL.out] at hla
      have e2 : (keptD D mk).2.length = 0 := rfl
      rw [e2] at hla
      have x1r := HX1.out.below HBr.out HX1.out.lt
      have HLA := Lib.hid hla
      have HX1r := Lib.hid x1r
      have HBw := Lib.hid (HB0.out.trans (HBr.out.mono (by omega)))
      have HZR := Lib.hid (show B + 2 ≤ wr.heap.size by omega)
      clear hBl hkd hla e2 xr d0 d1 hz hzr x1r HRr HMr HBr
      go_wp2_with fail
      refine HLA.out.mono ?_
      rintro e w4 ⟨x4, rfl, h4, b4⟩
      have hz := HZR.out
      have y4 := HX1r.out.below b4 HX1r.out.lt
      have d0 := y4.cell 0
      have d1 := y4.cell 1
      have hf := fun i => y4.frozen i
      have hKD : ∀ (u v : Value), Laid ((w4.setCell ⟨B + 1, 0, none⟩ u).setCell ⟨B + 1, 1, none⟩ v) B x4 (keptD D mk) := fun u v => laid_far h4 (by omega) (by omega) u v
      have hBF : ∀ (u v : Value), Below B w ((w4.setCell ⟨B + 1, 0, none⟩ u).setCell ⟨B + 1, 1, none⟩ v) := fun u v => ((HBw.out.trans (b4.mono (by omega))).setCell (p := ⟨B + 1, 0, none⟩) (Nat.le_succ _) u).setCell (p := ⟨B + 1, 1, none⟩) (Nat.le_succ _) v
      have hXF := fun (u v : Value) => (y4.set_ 0 u).set_ 1 v
      have HK := Lib.hid hKD
      have HBF := Lib.hid hBF
      have HXF := Lib.hid hXF
      obtain ⟨ba4, bc4, wa4, wc4⟩ := x4
      clear h4 b4 y4 hz hKD hBF hXF HLA HX1r HBw
      simp only [dval]
      go_wp2_with fail
      have hKD := HK.out (.slice ba4 (keptD D mk).1.length bc4) (.slice wa4 (keptD D mk).2.length wc4)
      have hBF := HBF.out (.slice ba4 (keptD D mk).1.length bc4) (.slice wa4 (keptD D mk).2.length wc4)
      have hXF := HXF.out (.slice ba4 (keptD D mk).1.length bc4) (.slice wa4 (keptD D mk).2.length wc4)
      obtain ⟨wf, hwf⟩ : ∃ wf, ((w4.setCell ⟨B + 1, 0, none⟩ (.slice ba4 (keptD D mk).1.length bc4)).setCell ⟨B + 1, 1, none⟩ (.slice wa4 (keptD D mk).2.length wc4)) = wf := ⟨_, rfl⟩
      rw [hwf] at hKD hBF hXF ⊢
      clear hwf d0 d1 hf
      have e0 := hXF.cell 0
      have e1 := hXF.cell 1
      refine bodyPost_ret (v := dval ⟨ba4, bc4, wa4, wc4⟩ (keptD D mk)) (by simp [results, Tryz.f129, go_sem, e0, e1, dval]) rfl ?_
      exact ⟨⟨ba4, bc4, wa4, wc4⟩, rfl, by rw [HBB.out]; exact hKD, by rw [HBB.out]; exact hBF⟩
end Go.Proofs.YtafbidhbmfdlkaaGreatDoor
/-
  dev.Check, Flush, Crash, Twin: what they answer, whatever disk they are handed.
-/
namespace Go.Proofs.YtafbidhbmfdlkaaGreatDoor
open Go.RowKit Go.Shelf
set_option maxRecDepth 100000

/-- A disk that is answered: none, or one laid in a new piece. -/
def OutD (w : World) (lo : Nat) (x : DAt) (D : DkL) : Prop := (x = ⟨none, 0, none, 0⟩ ∧ D = ([], [])) ∨ Laid w lo x D
theorem OutD.dsk {w : World} {lo : Nat} {x : DAt} {D : DkL} (h : OutD w lo x D) : Dsk w w.heap.size x D := by
  rcases h with ⟨rfl, rfl⟩ | h
  · exact ⟨bls_nil _ _, wts_nil _ _⟩
  · exact h.dsk
theorem OutD.below {w w' : World} {lo : Nat} {x : DAt} {D : DkL} (h : OutD w lo x D) (hb : Below w.heap.size w w') : OutD w' lo x D := h.imp id fun h => h.below hb
theorem OutD.lower {w : World} {lo lo' : Nat} {x : DAt} {D : DkL} (h : OutD w lo x D) (hl : lo' ≤ lo) : OutD w lo' x D := h.imp id fun h => h.lower hl
/-- A disk and an error's number. -/
def ToldD (o : DkL × Int) (w : World) (e : Ending) (w' : World) : Prop := ∃ x', e = .returned (.tuple #[dval x' o.1, .int .i64 o.2]) ∧ OutD w' w.heap.size x' o.1 ∧ Below w.heap.size w w'
/-- An error, and no disk. -/
theorem toldD_no {c : Int} {w : World} {e : Ending} {w' : World} (he : e = .returned (.tuple #[.agg #[.slice none 0 0, .slice none 0 0], .int .i64 c])) (hb : Below w.heap.size w w') : ToldD (([], []), c) w e w' := ⟨⟨none, 0, none, 0⟩, he, .inl ⟨rfl, rfl⟩, hb⟩
def flushO (D : DkL) : DkL × Int := if MayD D then (keptD D (fun _ => true), 0) else (([], []), 8)
def checkO (D : DkL) : Int := if MayD D then 0 else 8
theorem dCheck_any (x : DAt) (D : DkL) (w : World) (h : Dsk w w.heap.size x D) : Calls Tryz.prog 9 #[dval x D] w fun e w' => e = .returned (.int .i64 (checkO D)) ∧ Below w.heap.size w w' := by
  have b0 := (Below.refl w.heap.size w).alloc (Nat.le_refl _) (.cells #[.slice x.ba D.1.length x.bc, .slice x.wa D.2.length x.wc] 25)
  have h0 := h.step b0
  unfold checkO
  by_cases hm : MayD D
  · rw [if_pos hm]
    have HC := Lib.hid (dMay_yes x D _ h0 hm)
    simp only [dval] at HC ⊢
    have HB := Lib.hid b0
    clear b0 h0 h hm
    go_enter Tryz.func9, Tryz.ntmps9
    go_wp2_with fail
    refine HC.out.mono ?_
    rintro e w1 ⟨rfl, b1⟩
    have HB1 := Lib.hid (HB.out.trans (b1.mono HB.out.size))
    clear b1
    go_wp2_with fail
    go_ret
    exact ⟨rfl, HB1.out⟩
  · rw [if_neg hm]
    have HC := Lib.hid (dMay_no x D _ h0 hm)
    simp only [dval] at HC ⊢
    have HB := Lib.hid b0
    clear b0 h0 h hm
    go_enter Tryz.func9, Tryz.ntmps9
    go_wp2_with fail
    refine HC.out.mono ?_
    rintro e w1 ⟨rfl, b1⟩
    have HB1 := Lib.hid (HB.out.trans (b1.mono HB.out.size))
    clear b1
    go_wp2_with fail
    go_ret
    exact ⟨rfl, HB1.out⟩
/-- Boxed, and room for the answer. -/
theorem two_boxes (w : World) (u v : Value) : ∃ w0, (w.alloc (.cells #[u, v] 25)).alloc (.cells #[.slice none 0 0, .slice none 0 0] 25) = w0 ∧ Below w.heap.size w w0 ∧ w0.heap.size = w.heap.size + 2 ∧ Blk w0 w.heap.size 25 #[u, v] ∧ Blk w0 (w.heap.size + 1) 25 #[.slice none 0 0, .slice none 0 0] := by
  refine ⟨_, rfl, ((Below.refl _ w).alloc (Nat.le_refl _) _).alloc (by simp) _, by simp, (Blk.new w _ _).alloc _, ?_⟩
  have := Blk.new (w.alloc (.cells #[u, v] 25)) 25 #[.slice none 0 0, .slice none 0 0]
  rw [World.size_alloc] at this
  exact this
set_option maxHeartbeats 1000000 in
theorem dFlush_any (x : DAt) (D : DkL) (w : World) (h : Dsk w w.heap.size x D) : Calls Tryz.prog 73 #[dval x D] w (ToldD (flushO D) w) := by
  obtain ⟨w0, hw0, b0, z0, x0, x1⟩ := two_boxes w (.slice x.ba D.1.length x.bc) (.slice x.wa D.2.length x.wc)
  have h0 := h.step b0
  have c0 := x0.cell 0
  have c1 := x0.cell 1
  have HX0 := Lib.hid x0
  have HX1 := Lib.hid x1
  have HB := Lib.hid b0
  have HZ := Lib.hid z0
  have HD := Lib.hid h0
  unfold flushO
  by_cases hm : MayD D
  · rw [if_pos hm]
    have HC := Lib.hid (dMay_yes x D _ h0 hm)
    have HM := Lib.hid hm
    simp only [dval] at HC ⊢
    clear b0 h0 h hm x0 x1 z0
    go_enter Tryz.func73, Tryz.ntmps73
    go_wp2_with fail
    clear hw0 c0 c1
    refine HC.out.mono ?_
    rintro e w1 ⟨rfl, b1⟩
    have c0 := (HX0.out.below b1 HX0.out.lt).cell 0
    have c1 := (HX0.out.below b1 HX0.out.lt).cell 1
    have hs := dSettled0_any x D (fun _ => true) w1 (HD.out.step b1) HM.out (fun W _ i _ => dAllMarks i W)
    simp only [dval] at hs
    have HS := Lib.hid hs
    have HX2 := Lib.hid (HX1.out.below b1 HX1.out.lt)
    have HB1 := Lib.hid (HB.out.trans (b1.mono HB.out.size))
    have HZ1 := Lib.hid (show w.heap.size + 2 ≤ w1.heap.size by have := b1.size; have := HZ.out; omega)
    clear b1 hs HC
    go_wp2_with fail
    refine HS.out.mono ?_
    rintro e w2 ⟨x2, rfl, h2, b2⟩
    clear c0 c1
    have y2 := HX2.out.below b2 HX2.out.lt
    have d0 := y2.cell 0
    have d1 := y2.cell 1
    have hf := fun i => y2.frozen i
    have hz := HZ1.out
    have HK := Lib.hid (fun (u v : Value) => laid_far (g := w.heap.size + 1) (lo' := w.heap.size) h2 (by omega) (by omega) u v)
    have HBF := Lib.hid (fun (u v : Value) => ((HB1.out.trans (b2.mono (by omega))).setCell (p := ⟨w.heap.size + 1, 0, none⟩) (Nat.le_add_right _ _) u).setCell (p := ⟨w.heap.size + 1, 1, none⟩) (Nat.le_add_right _ _) v)
    have HXF := Lib.hid (fun (u v : Value) => (y2.set_ 0 u).set_ 1 v)
    obtain ⟨K, hK⟩ : ∃ K, keptD D (fun _ => true) = K := ⟨_, rfl⟩
    rw [hK] at HK ⊢
    have HK0 := Lib.hid hK
    obtain ⟨ba2, bc2, wa2, wc2⟩ := x2
    clear h2 b2 y2 hz hK
    simp only [dval]
    go_wp2_with fail
    have hKD := HK.out (.slice ba2 K.1.length bc2) (.slice wa2 K.2.length wc2)
    have hBF := HBF.out (.slice ba2 K.1.length bc2) (.slice wa2 K.2.length wc2)
    have hXF := HXF.out (.slice ba2 K.1.length bc2) (.slice wa2 K.2.length wc2)
    obtain ⟨wf, hwf⟩ : ∃ wf, ((w2.setCell ⟨w.heap.size + 1, 0, none⟩ (.slice ba2 K.1.length bc2)).setCell ⟨w.heap.size + 1, 1, none⟩ (.slice wa2 K.2.length wc2)) = wf := ⟨_, rfl⟩
    rw [hwf] at hKD hBF hXF ⊢
    clear hwf d0 d1 hf
    have e0 := hXF.cell 0
    have e1 := hXF.cell 1
    refine bodyPost_ret (v := .tuple #[dval ⟨ba2, bc2, wa2, wc2⟩ K, .int .i64 0]) (by simp [results, Tryz.f73, go_sem, e0, e1, dval]) rfl ?_
    exact ⟨⟨ba2, bc2, wa2, wc2⟩, by rw [HK0.out], .inr (by rw [HK0.out]; exact hKD), hBF⟩
  · rw [if_neg hm]
    have HC := Lib.hid (dMay_no x D _ h0 hm)
    simp only [dval] at HC ⊢
    clear b0 h0 h hm x0 x1 z0
    go_enter Tryz.func73, Tryz.ntmps73
    go_wp2_with fail
    clear hw0 c0 c1
    refine HC.out.mono ?_
    rintro e w1 ⟨rfl, b1⟩
    have y2 := HX1.out.below b1 HX1.out.lt
    have d0 := y2.cell 0
    have d1 := y2.cell 1
    have hf := fun i => y2.frozen i
    have HY := Lib.hid y2
    have HB1 := Lib.hid (HB.out.trans (b1.mono HB.out.size))
    clear b1 y2
    go_wp2_with fail
    have hBF := (HB1.out.setCell (p := ⟨w.heap.size + 1, 0, none⟩) (Nat.le_add_right _ _) (.slice none 0 0)).setCell (p := ⟨w.heap.size + 1, 1, none⟩) (Nat.le_add_right _ _) (.slice none 0 0)
    have hXF := (HY.out.set_ 0 (.slice none 0 0)).set_ 1 (.slice none 0 0)
    obtain ⟨wf, hwf⟩ : ∃ wf, ((w1.setCell ⟨w.heap.size + 1, 0, none⟩ (.slice none 0 0)).setCell ⟨w.heap.size + 1, 1, none⟩ (.slice none 0 0)) = wf := ⟨_, rfl⟩
    rw [hwf] at hBF hXF ⊢
    clear hwf d0 d1 hf
    have e0 := hXF.cell 0
    have e1 := hXF.cell 1
    exact bodyPost_ret (v := .tuple #[.agg #[.slice none 0 0, .slice none 0 0], .int .i64 8]) (by simp [results, Tryz.f73, go_sem, e0, e1]) rfl (toldD_no rfl hBF)
set_option maxHeartbeats 1000000 in
theorem dTwin_any (x : DAt) (D : DkL) (w : World) (h : Dsk w w.heap.size x D) (hf : Fits D) : Calls Tryz.prog 88 #[dval x D] w (LaidPost D w) := by
  obtain ⟨w0, hw0, b0, z0, x0, x1⟩ := two_boxes w (.slice x.ba D.1.length x.bc) (.slice x.wa D.2.length x.wc)
  have h0 := h.step b0
  have c0 := x0.cell 0
  have c1 := x0.cell 1
  have HX2 := Lib.hid x1
  have HB1 := Lib.hid b0
  have HZ1 := Lib.hid (Nat.le_of_eq z0.symm)
  have HS := Lib.hid (dLaid_any x D w0 h0 hf)
  simp only [dval]
  clear b0 h0 h x0 x1 z0 hf
  go_enter Tryz.func88, Tryz.ntmps88
  go_wp2_with fail
  clear hw0
  refine HS.out.mono ?_
  rintro e w2 ⟨x2, rfl, h2, b2⟩
  clear c0 c1
  have y2 := HX2.out.below b2 HX2.out.lt
  have d0 := y2.cell 0
  have d1 := y2.cell 1
  have hf := fun i => y2.frozen i
  have hz := HZ1.out
  have HK := Lib.hid (fun (u v : Value) => laid_far (g := w.heap.size + 1) (lo' := w.heap.size) h2 (by omega) (by omega) u v)
  have HBF := Lib.hid (fun (u v : Value) => ((HB1.out.trans (b2.mono (by omega))).setCell (p := ⟨w.heap.size + 1, 0, none⟩) (Nat.le_add_right _ _) u).setCell (p := ⟨w.heap.size + 1, 1, none⟩) (Nat.le_add_right _ _) v)
  have HXF := Lib.hid (fun (u v : Value) => (y2.set_ 0 u).set_ 1 v)
  obtain ⟨ba2, bc2, wa2, wc2⟩ := x2
  clear h2 b2 y2 hz
  simp only [dval]
  go_wp2_with fail
  have hKD := HK.out (.slice ba2 D.1.length bc2) (.slice wa2 D.2.length wc2)
  have hBF := HBF.out (.slice ba2 D.1.length bc2) (.slice wa2 D.2.length wc2)
  have hXF := HXF.out (.slice ba2 D.1.length bc2) (.slice wa2 D.2.length wc2)
  obtain ⟨wf, hwf⟩ : ∃ wf, ((w2.setCell ⟨w.heap.size + 1, 0, none⟩ (.slice ba2 D.1.length bc2)).setCell ⟨w.heap.size + 1, 1, none⟩ (.slice wa2 D.2.length wc2)) = wf := ⟨_, rfl⟩
  rw [hwf] at hKD hBF hXF ⊢
  clear hwf d0 d1 hf
  have e0 := hXF.cell 0
  have e1 := hXF.cell 1
  refine bodyPost_ret (v := dval ⟨ba2, bc2, wa2, wc2⟩ D) (by simp [results, Tryz.f88, go_sem, e0, e1, dval]) rfl ?_
  exact ⟨⟨ba2, bc2, wa2, wc2⟩, rfl, hKD, hBF⟩
end Go.Proofs.YtafbidhbmfdlkaaGreatDoor
/-
  The document's own Twin for layer 9.
-/
namespace Go.Proofs.YtafbidhbmfdlkaaGreatDoor
open Go.RowKit Go.Shelf
set_option maxRecDepth 100000

/-- What Twin answers. -/
def TwinPost (D : DkL) (w : World) (e : Ending) (w' : World) : Prop := ∃ x', e = .returned (dval x' D) ∧ Tw w' w.heap.size x' D ∧ Below w.heap.size w w'
end Go.Proofs.YtafbidhbmfdlkaaGreatDoor
/-
  dev.New answers 256 blocks of noughts, in one new piece; slices.Repeat of one block.
-/
namespace Go.Proofs.YtafbidhbmfdlkaaGreatDoor
open Go.RowKit Go.Shelf
set_option maxRecDepth 100000

theorem dMul64 (w : World) : Calls Tryz.prog 29 #[.int .u64 1, .int .u64 256] w fun e w' => e = .returned (.tuple #[.int .u64 0, .int .u64 256]) ∧ w = w' := by
  go_enter Tryz.func29, Tryz.ntmps29
  go_wp2_with fail
  go_ret2
  exact ⟨rfl, rfl⟩
theorem dMul (w : World) : Calls Tryz.prog 18 #[.int .u64 1, .int .u64 256] w fun e w' => e = .returned (.tuple #[.int .u64 0, .int .u64 256]) ∧ w = w' := by
  go_enter Tryz.func18, Tryz.ntmps18
  go_wp2_with (go_at_call 29; refine (dMul64 _).mono ?_; rintro e w' ⟨rfl, rfl⟩)
  go_ret2
  exact ⟨rfl, rfl⟩
/-- 256 cells, of which n are v. -/
def repR (v : Value) (n : Nat) : List Value := List.replicate n v ++ List.replicate (256 - n) (.slice none 0 0)
theorem repR_length (v : Value) (n : Nat) (h : n ≤ 256) : (repR v n).length = 256 := by simp [repR]; omega
theorem repR_splice (v : Value) (n k : Nat) : splice (repR v n) n (List.replicate k v) = repR v (n + k) := by
  unfold splice repR
  have e1 : (List.replicate n v ++ List.replicate (256 - n) (Value.slice none 0 0)).take n = List.replicate n v := by simp
  have e2 : (List.replicate n v ++ List.replicate (256 - n) (Value.slice none 0 0)).drop (n + (List.replicate k v).length) = List.replicate (256 - (n + k)) (.slice none 0 0) := by
    rw [List.drop_append, List.drop_of_length_le (by simp; try omega)]
    simp
    omega
  rw [e1, e2, ← List.append_assoc, List.replicate_append_replicate]
theorem rep_get {v u : Value} {k j : Nat} (h : (List.replicate k v)[j]? = some u) : j < k ∧ u = v := by
  rw [List.getElem?_replicate] at h
  split at h
  · rename_i h1
    cases h
    exact ⟨h1, rfl⟩
  · cases h
theorem infoSl1 : (Tryz.prog.info? 26).map (·.size) = some 1 := by kernel_rfl
theorem step_copy_rep {ops : Array Oper} {o : Oper} {a : Act} {w w0 : World} {K : Act → World → Prop} {Q : Exit → Act → World → Prop} {E : Prop} (v : Value) (hv : v.oneCell' = true) (hgd : o.guard = none) (d s : Operand)
    (ho : o.op = .call { callee := .builtin .copy, args := #[d, s], argTypes := #[22, 22] }) (g5 n : Nat) (hn : n ≤ 128)
    (hd : a.eval d = .slice (some ⟨g5, n, none⟩) (256 - n) (256 - n)) (hs : a.eval s = .slice (some ⟨g5, 0, none⟩) n 256) (hx : Blk w g5 26 (repR v n).toArray) (hb : Below g5 w0 w)
    (h : ∀ w', Blk w' g5 26 (repR v (n + n)).toArray → Below g5 w0 w' → K (a.put o.dst (.int .i64 n)) w') :
    if Region.wanted o (yielded ops a.tmps) = true then Oper.wp Tryz.prog o a w K Q else E := by
  have hl : (List.replicate n v).length = n := by simp
  refine step_copy_splice hgd d s 22 22 ho 26 Tryz.underlying22 infoSl1 (some ⟨g5, n, none⟩) (some ⟨g5, 0, none⟩) (256 - n) (256 - n) n 256 hd hs g5 n (repR v n) 26 hx (List.replicate n v) (by rw [hl]; simp [Nat.min_def]; omega)
         (fun _ => ⟨rfl, _, rfl, fun j u hu => ?_⟩) (by rw [hl, repR_length v n (by omega)]; omega) (fun u hu => by rw [List.eq_of_mem_replicate hu]; exact hv) g5 w0 hb (Nat.le_refl _) ?_
  · obtain ⟨hj, rfl⟩ := rep_get hu
    have := hx.cell j
    rw [List.getElem?_toArray, repR, List.getElem?_append_left (by simpa using hj), List.getElem?_replicate, if_pos hj] at this
    rw [← this]
    congr 1
    unfold Addr.add
    simp
    exact fun h => h.symm
  · intro w2 hx2 hb2
    rw [hl]
    refine h w2 ?_ hb2
    have := hx2.out
    rwa [repR_splice v n n] at this
theorem rows_l (W : World) (g n : Nat) (hn : n < 256) : (Instr.slice 22 (.slice (some ⟨g, 0, none⟩) 256 256) (some (.int .i64 (n : Int))) none none).run Tryz.prog W = .ok (.slice (some ⟨g, n, none⟩) (256 - n) (256 - n)) W := by
  rw [run_slice_l W 22 _ _ _ (by kernel_rfl) .i64 _ (by omega) (by omega)]
  have hz : (Go.sizeOf (Tryz.prog.elem 22)).run Tryz.prog W = .ok 1 W := by kernel_rfl
  rw [hz]
  have e : ¬ 256 = n := by omega
  simp only [Result.andThen, sliced, Int.toNat_natCast, if_neg e]
  simp [Addr.add]
  exact fun h => h.symm
theorem rows_h (W : World) (g n : Nat) (hn : n < 256) : (Instr.slice 22 (.slice (some ⟨g, 0, none⟩) 256 256) none (some (.int .i64 (n : Int))) none).run Tryz.prog W = .ok (.slice (some ⟨g, 0, none⟩) n 256) W := by
  rw [run_slice_h W 22 _ _ _ (by kernel_rfl) .i64 _ (by omega) (by omega)]
  have hz : (Go.sizeOf (Tryz.prog.elem 22)).run Tryz.prog W = .ok 1 W := by kernel_rfl
  rw [hz]
  simp [Result.andThen, sliced, Addr.add]
/-- The row that Repeat answers. -/
def RepPost (v : Value) (w : World) (e : Ending) (w' : World) : Prop := ∃ g, e = .returned (.slice (some ⟨g, 0, none⟩) 256 256) ∧ w.heap.size ≤ g ∧ Blk w' g 26 (repR v 256).toArray ∧ Below w.heap.size w w'
theorem wpList_copy_one {w w0 : World} {ops : Array Oper} {rest : List Oper} {o : Oper} {a : Act} {Q : Exit → Act → World → Prop} (v : Value) (hv : v.oneCell' = true) (hgd : o.guard = none) (d s : Operand) (ho : o.op = .call { callee := .builtin .copy, args := #[d, s], argTypes := #[22, 22] }) (g g5 : Nat)
    (hd : a.eval d = .slice (some ⟨g5, 0, none⟩) 256 256) (hs : a.eval s = .slice (some ⟨g, 0, none⟩) 1 1) (hx : Blk w g5 26 (repR v 0).toArray) (hN : w.cell? ⟨g, 0, none⟩ = some v) (hb : Below g5 w0 w)
    (h : ∀ w', Blk w' g5 26 (repR v 1).toArray → Below g5 w0 w' → wpList Tryz.prog ops Q rest (a.put o.dst (.int .i64 1)) w') : wpList Tryz.prog ops Q (o :: rest) a w := by
  refine wpList_copy_splice hgd d s 22 22 ho 26 Tryz.underlying22 infoSl1 (some ⟨g5, 0, none⟩) (some ⟨g, 0, none⟩) 256 256 1 1 hd hs g5 0 (repR v 0) 26 hx (List.replicate 1 v) rfl
         (fun _ => ⟨rfl, _, rfl, fun j u hu => ?_⟩) (by rw [repR_length v 0 (by omega)]; simp) (fun u hu => by rw [List.eq_of_mem_replicate hu]; exact hv) g5 w0 hb (Nat.le_refl _) ?_
  · obtain ⟨hj, rfl⟩ := rep_get hu
    obtain rfl : j = 0 := by omega
    exact hN
  · intro w2 hx2 hb2
    refine h w2 ?_ hb2
    have := hx2.out
    rwa [repR_splice v 0 1] at this
set_option maxHeartbeats 4000000 in
theorem dRepeat_any (v : Value) (hv : v.oneCell' = true) (g : Nat) (w : World) (hN : w.cell? ⟨g, 0, none⟩ = some v) :
    Calls Tryz.prog 11 #[.slice (some ⟨g, 0, none⟩) 1 1, .int .i64 256] w (RepPost v w) := by
  have hmk : ∀ W : World, (Instr.makeSlice 22 (.int .i64 256) (.int .i64 256)).run Tryz.prog W = .ok (.slice (some ⟨W.heap.size, 0, none⟩) 256 256) (W.alloc (.cells (repR v 0).toArray 26)) := fun W => by
    have e : (repR v 0).toArray = Array.replicate 256 (.slice none 0 0) := by
      unfold repR
      rw [List.replicate_zero, List.nil_append, Nat.sub_zero, List.toArray_replicate]
    rw [e]
    exact make_rows 256 (by omega) W
  have hg := World.block_lt_of_cell? w _ hN
  have b1 : Below w.heap.size w (w.alloc (.cells (repR v 0).toArray 26)) := (Below.refl _ w).alloc (Nat.le_refl _) _
  have x1 := Blk.new w 26 (repR v 0).toArray
  have n1 : (w.alloc (.cells (repR v 0).toArray 26)).cell? ⟨g, 0, none⟩ = some v := (b1.cell (p := ⟨g, 0, none⟩) hg).trans hN
  obtain ⟨g5, hg5⟩ : ∃ g5, w.heap.size = g5 := ⟨_, rfl⟩
  have HX1 := Lib.hid x1; clear x1
  have HN1 := Lib.hid n1; clear n1 hN
  have HB1 := Lib.hid b1; clear b1 hg
  have HG := Lib.hid hg5; clear hg5
  go_enter Tryz.func11, Tryz.ntmps11
  go_wp2_with (first
    | (go_at_call 18; refine (dMul _).mono ?_; rintro e w' ⟨rfl, rfl⟩)
    | (with_reducible refine dAtCopy ?_
       refine wpList_copy_one v hv rfl (.tmp 31) (.tmp 32) rfl g w.heap.size rfl rfl HX1.out HN1.out HB1.out ?_
       intro w2 hx2 hb2
       have HX2 := Lib.hid hx2
       have HB2 := Lib.hid hb2
       clear hx2 hb2))
  rw [HG.out] at HX2 HB2 ⊢
  go_loopw [8] (fun i wr => ∃ j n : Nat, j ≤ 8 ∧ n = 2 ^ j ∧ i = .int .i64 n ∧ Blk wr g5 26 (repR v n).toArray ∧ Below g5 w wr) (fun i _ => 256 - (intOf i).toNat)
  case atStart => exact ⟨0, 1, by omega, rfl, rfl, HX2.out, HB2.out⟩
  case round =>
    obtain ⟨j, n, hj, hn, rfl, hx, hb⟩ := hrel
    have HX := Lib.hid hx; clear hx
    have HB := Lib.hid hb; clear hb
    have n0 : (0 : Int) ≤ n := by omega
    by_cases h8 : j < 8
    · have hn128 : n ≤ 128 := by
        have : 2 ^ j ≤ 2 ^ 7 := Nat.pow_le_pow_right (by omega) (by omega)
        omega
      have hpos : 0 < n := by rw [hn]; exact Nat.two_pow_pos j
      have hn2 : n + n = 2 ^ (j + 1) := by rw [Nat.pow_succ, hn]; omega
      have i1 : (n : Int) < 256 := by omega
      have s1 := fun W => rows_l W g5 n (by omega)
      have s2 := fun W => rows_h W g5 n (by omega)
      have HX' := Lib.hid HX.out.drew
      have HB' := Lib.hid HB.out.drew
      have HN2 := Lib.hid hn2
      have hsum : IntKind.i64.wrap ((n : Int) + n) = (n : Int) + n := IntWalk.i64_in _ (by omega)
      have HP := Lib.hid hpos
      clear hn hn2 hpos
      go_wp2_with fail
      go_region_law (refine step_copy_rep v hv rfl (.tmp 41) (.tmp 44) rfl g5 n hn128 (by simp [Act.eval, Act.put]) (by simp [Act.eval, Act.put]) HX'.out HB'.out ?_; intro w4 hx4 hb4; have HX4 := Lib.hid hx4; have HB4 := Lib.hid hb4; clear hx4 hb4)
      refine ⟨⟨.int .i64 ((n : Int) + n), _, _, _, _, _, _, _, _, _, _, _, _, _, ⟨j + 1, n + n, by omega, HN2.out, by go_num, HX4.out, HB4.out⟩, rfl⟩, ?_⟩
      have := HP.out
      show 256 - (intOf (.int .i64 ((n : Int) + n))).toNat < 256 - (intOf (.int .i64 (n : Int))).toNat
      simp [intOf]
      omega
    · obtain rfl : j = 8 := by omega
      subst hn
      go_wp2_with fail
      go_ret
      exact ⟨g5, rfl, by rw [HG.out]; exact Nat.le_refl _, HX.out, by rw [HG.out]; exact HB.out⟩
/-- A disk of noughts. -/
def newD : DkL := (List.replicate 256 (List.replicate 256 0), [])
theorem newD_get {i : Nat} (h : i < 256) : newD.1.getD i [] = List.replicate 256 0 := by
  show (List.replicate 256 (List.replicate 256 (0 : UInt8))).getD i [] = _
  rw [List.getD_eq_getElem?_getD, List.getElem?_replicate, if_pos h]
  rfl
theorem newD_len : newD.1.length = 256 := List.length_replicate ..
theorem newD_may : MayD newD := ⟨⟨newD_len, fun i hi => by rw [newD_get hi]; exact List.length_replicate ..⟩, Nat.zero_le _, fun i hi => absurd hi (Nat.not_lt_zero _)⟩
set_option maxHeartbeats 1000000 in
theorem dNew_any (w : World) : Calls Tryz.prog 5 #[] w (LaidPost newD w) := by
  have hmk : ∀ W : World, (Instr.makeSlice 26 (.int .i64 256) (.int .i64 256)).run Tryz.prog W = .ok (.slice (some ⟨W.heap.size, 0, none⟩) 256 256) (W.alloc (.cells (ar (List.replicate 256 0)) 5)) := make_bytes 256 (by omega)
  obtain ⟨B, hB⟩ : ∃ B, w.heap.size = B := ⟨_, rfl⟩
  obtain ⟨Z, hZ⟩ : ∃ Z : List UInt8, List.replicate 256 0 = Z := ⟨_, rfl⟩
  rw [hZ] at hmk
  obtain ⟨w0, hw0⟩ : ∃ w0, ((w.alloc (.cells #[.slice none 0 0, .slice none 0 0] 25)).alloc (.cells (ar Z) 5)).alloc (.cells #[.slice (some ⟨w.heap.size + 1, 0, none⟩) 256 256] 26) = w0 := ⟨_, rfl⟩
  have b0 : Below w.heap.size w w0 := by rw [← hw0]; exact below_alloc3' w _ _ _
  have z0 : w0.heap.size = B + 3 := by rw [← hw0, ← hB]; simp
  have x0 : Blk w0 B 25 #[.slice none 0 0, .slice none 0 0] := by rw [← hw0, ← hB]; exact blk3_0 w _ _ _ _
  have x1 : Blk w0 (B + 1) 5 (ar Z) := by rw [← hw0, ← hB]; exact blk3_1 w _ _ _ _
  have x2 : Blk w0 (B + 2) 26 #[.slice (some ⟨B + 1, 0, none⟩) 256 256] := by rw [← hw0, ← hB]; exact blk3_2 w _ _ _ _
  have hr := dRepeat_any (.slice (some ⟨B + 1, 0, none⟩) 256 256) rfl (B + 2) w0 (x2.cell 0)
  have HR := Lib.hid hr
  have HX0 := Lib.hid x0
  have HX1 := Lib.hid x1
  have HB := Lib.hid b0
  have HZ := Lib.hid z0
  have HBB := Lib.hid hB
  have HZZ := Lib.hid hZ
  rw [hB] at hw0
  clear hr x0 x1 x2 b0 z0 hZ
  go_enter Tryz.func5, Tryz.ntmps5
  go_wp2_with fail
  clear hw0
  refine HR.out.mono ?_
  rintro e w1 ⟨g, rfl, hge, hx, b1⟩
  have hz := HZ.out
  have y1 := HX1.out.below b1 HX1.out.lt
  have hzs := HZZ.out
  have hbs : Bsl w1 w1.heap.size (some ⟨B + 1, 0, none⟩) 256 256 Z := by
    refine ⟨by rw [← hzs]; exact List.length_replicate .., Nat.le_refl _, by unfold maxLen; omega, fun e => (by cases e), fun _ => ⟨B + 1, 0, rfl, y1.lt, fun i hi => ?_⟩⟩
    rw [Nat.zero_add, y1.cell, ar_get Z i hi]
  have hbl : Bls w1 w1.heap.size (some ⟨g, 0, none⟩) 256 256 newD.1 := by
    refine ⟨newD_len, Nat.le_refl _, by unfold maxLen; omega, fun _ => ⟨g, 0, rfl, hx.lt, fun i hi => ?_⟩⟩
    have e : newD.1.getD i [] = Z := by rw [newD_get hi]; exact hzs
    have el : Z.length = 256 := by rw [← hzs]; exact List.length_replicate ..
    rw [e, el]
    refine ⟨some ⟨B + 1, 0, none⟩, 256, ?_, hbs⟩
    rw [Nat.zero_add, hx.cell, List.getElem?_toArray, repR, Nat.sub_self, List.replicate_zero, List.append_nil, List.getElem?_replicate, if_pos hi]
  have hla := dLaid_any ⟨some ⟨g, 0, none⟩, 256, none, 0⟩ newD w1 ⟨by rw [newD_len]; exact hbl, wts_nil _ _⟩ (may_fits newD_may)
  simp only [newD_len] at hla
  have e2 : newD.2.length = 0 := rfl
  rw [e2] at hla
  have HLA := Lib.hid hla
  have HXr := Lib.hid (HX0.out.below b1 HX0.out.lt)
  have HB1 := Lib.hid (HB.out.trans (b1.mono HB.out.size))
  have HZ1 := Lib.hid (show B + 3 ≤ w1.heap.size by have := b1.size; omega)
  clear hge hx b1 y1 hzs hbs hbl hla e2 hz HR
  go_wp2_with fail
  refine HLA.out.mono ?_
  rintro e w4 ⟨x4, rfl, h4, b4⟩
  have hz := HZ1.out
  have y4 := HXr.out.below b4 HXr.out.lt
  have d0 := y4.cell 0
  have d1 := y4.cell 1
  have hf := fun i => y4.frozen i
  have hbb := HBB.out
  obtain ⟨ba4, bc4, wa4, wc4⟩ := x4
  have HK := Lib.hid (fun (u v : Value) => laid_far (g := B) (lo' := B) h4 (by omega) (by omega) u v)
  have HBF := Lib.hid (fun (u v : Value) => ((HB1.out.trans (b4.mono (by omega))).setCell (p := ⟨B, 0, none⟩) (Nat.le_of_eq hbb) u).setCell (p := ⟨B, 1, none⟩) (Nat.le_of_eq hbb) v)
  have HXF := Lib.hid (fun (u v : Value) => (y4.set_ 0 u).set_ 1 v)
  clear h4 b4 y4 hz HLA HXr HB1 hbb
  simp only [dval]
  go_wp2_with fail
  have hKD := HK.out (.slice ba4 newD.1.length bc4) (.slice wa4 newD.2.length wc4)
  have hBF := HBF.out (.slice ba4 newD.1.length bc4) (.slice wa4 newD.2.length wc4)
  have hXF := HXF.out (.slice ba4 newD.1.length bc4) (.slice wa4 newD.2.length wc4)
  obtain ⟨wf, hwf⟩ : ∃ wf, ((w4.setCell ⟨B, 0, none⟩ (.slice ba4 newD.1.length bc4)).setCell ⟨B, 1, none⟩ (.slice wa4 newD.2.length wc4)) = wf := ⟨_, rfl⟩
  rw [hwf] at hKD hBF hXF ⊢
  clear hwf d0 d1 hf
  have e0 := hXF.cell 0
  have e1 := hXF.cell 1
  refine bodyPost_ret (v := dval ⟨ba4, bc4, wa4, wc4⟩ newD) (by simp [results, Tryz.f5, go_sem, e0, e1, dval]) rfl ?_
  exact ⟨⟨ba4, bc4, wa4, wc4⟩, rfl, by rw [HBB.out]; exact hKD, hBF⟩
end Go.Proofs.YtafbidhbmfdlkaaGreatDoor
/-
  The document's own New for layer 9: a new disk is 256 blocks of noughts.
-/
namespace Go.Proofs.YtafbidhbmfdlkaaGreatDoor
open Go.RowKit Go.Shelf
set_option maxRecDepth 100000

/-- A disk is answered. -/
def DskPost (D : DkL) (w : World) (e : Ending) (w' : World) : Prop := ∃ x', e = .returned (dval x' D) ∧ DskT w' x' D ∧ Below w.heap.size w w'
theorem TwinPost.dsk {D : DkL} {w w' : World} {e : Ending} (h : TwinPost D w e w') : DskPost D w e w' := by
  obtain ⟨x', h1, h2, h3⟩ := h
  exact ⟨x', h1, h2.dskT, h3⟩
/-- Rows whose first k are blocks of noughts. -/
def NewI (hb : Nat) (Z : List UInt8) (k : Nat) (w : World) : Prop :=
  ∃ cb, Blk w hb 26 cb ∧ cb.size = 256 ∧ ∀ i, i < k → ∃ g, cb[i]? = some (.slice (some ⟨g, 0, none⟩) 256 256) ∧ Blk w g 5 (ar Z)
theorem NewI.next {hb k : Nat} {Z : List UInt8} {w : World} (h : NewI hb Z k w) (hk : k < 256) : NewI hb Z (k + 1) ((w.alloc (.cells (ar Z) 5)).setCell ⟨hb, k, none⟩ (.slice (some ⟨w.heap.size, 0, none⟩) 256 256)) := by
  obtain ⟨cb, h1, h2, h3⟩ := h
  have x1 := h1.alloc (.cells (ar Z) 5)
  have xn := Blk.new w 5 (ar Z)
  have hne : ∀ {g : Nat} {cs : Array Value}, Blk (w.alloc (.cells (ar Z) 5)) g 5 cs → g ≠ hb := fun hg => hg.ne x1 (by decide)
  refine ⟨_, x1.set_ k _, by simpa using h2, fun i hi => ?_⟩
  rw [Array.getElem?_setIfInBounds]
  by_cases e : k = i
  · subst e
    rw [if_pos rfl, if_pos (by omega)]
    exact ⟨_, rfl, xn.far (by simpa using hne xn) _⟩
  · rw [if_neg e]
    obtain ⟨g, h4, h5⟩ := h3 i (by omega)
    have h6 := h5.alloc (.cells (ar Z) 5)
    exact ⟨g, h4, h6.far (by simpa using hne h6) _⟩
theorem NewI.far {hb k g : Nat} {Z : List UInt8} {w : World} {cs : Array Value} (h : NewI hb Z k w) (hg : Blk w g 25 cs) (u v : Value) : NewI hb Z k ((w.setCell ⟨g, 0, none⟩ u).setCell ⟨g, 1, none⟩ v) := by
  obtain ⟨cb, h1, h2, h3⟩ := h
  have hn1 : hb ≠ g := h1.ne hg (by decide)
  refine ⟨cb, (h1.far (p := ⟨g, 0, none⟩) hn1 u).far (p := ⟨g, 1, none⟩) hn1 v, h2, fun i hi => ?_⟩
  obtain ⟨g', h4, h5⟩ := h3 i hi
  have hn2 : g' ≠ g := h5.ne hg (by decide)
  exact ⟨g', h4, (h5.far (p := ⟨g, 0, none⟩) hn2 u).far (p := ⟨g, 1, none⟩) hn2 v⟩
theorem NewI.dsk {hb : Nat} {Z : List UInt8} {w : World} (h : NewI hb Z 256 w) (hZ : List.replicate 256 0 = Z) : Dsk w w.heap.size ⟨some ⟨hb, 0, none⟩, 256, none, 0⟩ newD := by
  obtain ⟨cb, y1, h2, h3⟩ := h
  refine ⟨⟨newD_len, by rw [newD_len]; exact Nat.le_refl _, (show 256 ≤ maxLen by unfold maxLen; omega), fun _ => ⟨hb, 0, rfl, y1.lt, fun i hi => ?_⟩⟩, wts_nil _ _⟩
  rw [newD_len] at hi
  obtain ⟨g, h4, y2⟩ := h3 i hi
  have e : newD.1.getD i [] = Z := by rw [newD_get hi]; exact hZ
  have el : Z.length = 256 := by rw [← hZ]; exact List.length_replicate ..
  rw [e, el]
  refine ⟨some ⟨g, 0, none⟩, 256, ?_, el, Nat.le_refl _, by unfold maxLen; omega, fun e => (by cases e), fun _ => ⟨g, 0, rfl, y2.lt, fun i hi => ?_⟩⟩
  · rw [Nat.zero_add, y1.cell, h4]
  · rw [Nat.zero_add, y2.cell, ar_get Z i hi]
end Go.Proofs.YtafbidhbmfdlkaaGreatDoor
/-
  dev.Read: what it answers, whatever disk and place it is handed.
-/
namespace Go.Proofs.YtafbidhbmfdlkaaGreatDoor
open Go.RowKit Go.Shelf
set_option maxRecDepth 100000

/-- bytes.Clone: a list of the call's own. -/
theorem dClone_any (B : Nat) (a : Option Addr) (len cap : Nat) (s : List UInt8) (w : World) (hB : B ≤ w.heap.size) (hA : Bsl w B a len cap s) (hlen : len ≤ 1000000000000) :
    Calls Tryz.prog 60 #[.slice a len cap] w (OwnV len s w) := by
  have q22 : ∀ (w : World) (a : Option Addr) (n c n' c' : Nat), (binOp .eql 26 (.slice a n c) (.slice none n' c')).run Tryz.prog w = .ok (.bool a.isNone) w := fun w a n c n' c' => Lib.run_eql_slice_nil w _ _ a n c n' c' Tryz.underlying26
  obtain ⟨h1, h2, h3, h4, h5⟩ := hA
  cases a with
  | none =>
    have hc := h4 rfl
    have hl : len = 0 := by omega
    subst hl; subst hc
    obtain rfl : s = [] := List.eq_nil_of_length_eq_zero h1
    go_enter Tryz.func60, Tryz.ntmps60
    go_wp2_with fail
    go_ret
    exact ⟨_, rfl, own_nil _ _, Below.refl _ _⟩
  | some ad =>
    have hA : Bsl w B (some ad) len cap s := ⟨h1, h2, h3, h4, h5⟩
    have b1 : Below w.heap.size w (w.alloc (.cells #[] 5)) := (Below.refl _ w).alloc (Nat.le_refl _) _
    have HA1 := Lib.hid (hA.below (b1.mono hB)); clear hA
    have HB1 := Lib.hid b1; clear b1
    have HO1 := Lib.hid (own_empty w)
    clear h1 h2 h3 h4 h5
    go_enter Tryz.func60, Tryz.ntmps60
    go_wp2_with (at_builtin
                 refine wpList_append_big rfl (.tmp 5) (.tmp 6) rfl w.heap.size _ 0 _ rfl HO1.out _ (some ad) len cap s rfl HA1.out (by omega) HB1.out.size ?_
                 intro v' W3 hown' hg'
                 have HB3 := Lib.hid (app_below HB1.out HO1.out hg' HB1.out.size); clear hg'
                 have HO3 := Lib.hid hown'; clear hown')
    go_ret
    refine ⟨_, rfl, ?_, HB3.out⟩
    have := HO3.out
    rwa [Nat.zero_add, List.nil_append] at this
/-- A list of the call's own, and an error's number. -/
def ToldL (o : List UInt8 × Int) (w : World) (e : Ending) (w' : World) : Prop := ∃ v, e = .returned (.tuple #[v, .int .i64 o.2]) ∧ w'.ownsRow w.heap.size 5 1 v o.1.length (vals o.1) ∧ Below w.heap.size w w'
def readO (D : DkL) (p : Int) : List UInt8 × Int := if MayD D then (if 0 ≤ p ∧ p < 256 then (leftD D (fun _ => true) p.toNat, 0) else ([], 2)) else ([], 8)
theorem leftD_goes (D : DkL) (p : Nat) : leftD D (fun i => decide ((wr_ D.2 i).1 = (p : Int))) p = leftD D (fun _ => true) p := by
  have : lastTo D.2 (fun i => decide ((wr_ D.2 i).1 = (p : Int))) (p : Int) D.2.length = lastTo D.2 (fun _ => true) (p : Int) D.2.length := lastTo_congr fun i _ => by simp
  unfold leftD
  rw [this]
theorem read_boxes (w : World) (u v k : Value) : ∃ w0, (w.alloc (.cells #[u, v] 25)).alloc (.cells #[k] 3) = w0 ∧ Below w.heap.size w w0 ∧ w0.heap.size = w.heap.size + 2 ∧ Blk w0 w.heap.size 25 #[u, v] ∧ Blk w0 (w.heap.size + 1) 3 #[k] := by
  refine ⟨_, rfl, ((Below.refl _ w).alloc (Nat.le_refl _) _).alloc (by simp) _, by simp, (Blk.new w _ _).alloc _, ?_⟩
  have := Blk.new (w.alloc (.cells #[u, v] 25)) 3 #[k]
  rw [World.size_alloc] at this
  exact this
set_option maxHeartbeats 2000000 in
theorem dRead_any (x : DAt) (D : DkL) (p : Int) (w : World) (h : Dsk w w.heap.size x D) : Calls Tryz.prog 39 #[dval x D, .int .i64 p] w (ToldL (readO D p) w) := by
  obtain ⟨w0, hw0, b0, z0, x0, xp⟩ := read_boxes w (.slice x.ba D.1.length x.bc) (.slice x.wa D.2.length x.wc) (.int .i64 p)
  have h0 := h.step b0
  have c0 := x0.cell 0
  have c1 := x0.cell 1
  have cp := xp.cell 0
  have HX0 := Lib.hid x0
  have HXp := Lib.hid xp
  have HB := Lib.hid b0
  have HZ := Lib.hid z0
  have HD := Lib.hid h0
  unfold readO
  by_cases hm : MayD D
  · rw [if_pos hm]
    have HC := Lib.hid (dMay_yes x D _ h0 hm)
    simp only [dval] at HC ⊢
    have hbk := dIsBlock_any p
    have HM := Lib.hid hm
    by_cases hp : 0 ≤ p ∧ p < 256
    · rw [if_pos hp]
      simp only [decide_eq_true hp] at hbk
      obtain ⟨q, rfl⟩ := Int.eq_ofNat_of_zero_le hp.1
      have hq : q < 256 := by omega
      have HBK := Lib.hid hbk
      have hll := leftD_length hm (fun _ => true) hq
      have e2 : ((q : Int).toNat) = q := by simp
      obtain ⟨s, hs⟩ : ∃ s, leftD D (fun _ => true) q = s := ⟨_, rfl⟩
      rw [hs] at hll
      rw [e2, hs]
      have HLL := Lib.hid hll
      have HS := Lib.hid hs
      clear e2 hs b0 h0 h hm x0 xp z0 hbk hp hll
      go_enter Tryz.func39, Tryz.ntmps39
      go_wp2_with fail
      clear hw0 c0 c1 cp
      refine HC.out.mono ?_
      rintro e w1 ⟨rfl, b1⟩
      have cp := (HXp.out.below b1 HXp.out.lt).cell 0
      have HB1 := Lib.hid b1
      clear b1
      go_wp2_with fail
      refine (HBK.out _).mono ?_
      rintro e w1' ⟨rfl, rfl⟩
      have b1 := HB1.out
      have x01 := HX0.out.below b1 HX0.out.lt
      have xp1 := HXp.out.below b1 HXp.out.lt
      have hD1 := HD.out.step b1
      have c0 := x01.cell 0
      have c1 := x01.cell 1
      have hl := dLast2_any x.wa D.2.length x.wc D.2 (fun i => decide ((wr_ D.2 i).1 = (q : Int))) ⟨w.heap.size, 0, none⟩ ⟨w.heap.size + 1, 0, none⟩ w1 hD1.2 (fun W hW i hi => dGoes_any w1.heap.size x D w.heap.size (w.heap.size + 1) (q : Int) i W ⟨hD1.1.below hW, hD1.2.below hW⟩ (x01.below hW x01.lt) ((xp1.below hW xp1.lt).cell 0) hi)
      have HL := Lib.hid hl
      have HX1 := Lib.hid x01
      have HXp1 := Lib.hid xp1
      have HD1 := Lib.hid hD1
      have HBw := Lib.hid (HB.out.trans (b1.mono HB.out.size))
      clear b1 x01 xp1 hD1 hl HB1 HC HBK HX0 HXp HB HD
      go_wp2_with fail
      clear c0 c1 cp
      refine HL.out.mono ?_
      rintro e w2 ⟨g, rfl, hge, hM, b2⟩
      have c0 := (HX1.out.below b2 HX1.out.lt).cell 0
      have c1 := (HX1.out.below b2 HX1.out.lt).cell 1
      have cp := (HXp1.out.below b2 HXp1.out.lt).cell 0
      have hle := dLeft_any w2.heap.size x D g D.2.length (fun i => decide ((wr_ D.2 i).1 = (q : Int))) q w2 (Nat.le_refl _) (HD1.out.step b2) hM (by rw [HM.out.1.1]; exact hq)
      rw [leftD_goes] at hle
      simp only [dval] at hle
      rw [HS.out] at hle
      have HLE := Lib.hid hle
      have HB2 := Lib.hid (HBw.out.trans (b2.mono HBw.out.size))
      clear hle b2 hM hge HL
      go_wp2_with fail
      clear c0 c1 cp
      refine HLE.out.mono ?_
      rintro e w3 ⟨A, c, rfl, h3, b3⟩
      have HCL := Lib.hid (dClone_any w2.heap.size A s.length c s w3 b3.size h3 (by rw [HLL.out]; omega))
      have HB3 := Lib.hid (HB2.out.trans (b3.mono HB2.out.size))
      clear h3 b3 HLE
      go_wp2_with fail
      refine HCL.out.mono ?_
      rintro e w4 ⟨v4, rfl, h4, b4⟩
      have HO := Lib.hid (own_mono h4 HB3.out.size)
      have HB4 := Lib.hid (HB3.out.trans (b4.mono HB3.out.size))
      clear h4 b4
      go_wp2_with fail
      go_ret2
      exact ⟨v4, rfl, HO.out, HB4.out⟩
    · rw [if_neg hp]
      simp only [decide_eq_false hp] at hbk
      have HBK := Lib.hid hbk
      clear b0 h0 h hm x0 xp z0 hbk hp
      go_enter Tryz.func39, Tryz.ntmps39
      go_wp2_with fail
      clear hw0 c0 c1 cp
      refine HC.out.mono ?_
      rintro e w1 ⟨rfl, b1⟩
      have cp := (HXp.out.below b1 HXp.out.lt).cell 0
      have HB1 := Lib.hid (HB.out.trans (b1.mono HB.out.size))
      clear b1
      go_wp2_with fail
      refine (HBK.out _).mono ?_
      rintro e w1' ⟨rfl, rfl⟩
      go_wp2_with fail
      go_ret2
      exact ⟨_, rfl, own_nil _ _, HB1.out⟩
  · rw [if_neg hm]
    have HC := Lib.hid (dMay_no x D _ h0 hm)
    simp only [dval] at HC ⊢
    clear b0 h0 h hm x0 xp z0
    go_enter Tryz.func39, Tryz.ntmps39
    go_wp2_with fail
    clear hw0 c0 c1 cp
    refine HC.out.mono ?_
    rintro e w1 ⟨rfl, b1⟩
    have HB1 := Lib.hid (HB.out.trans (b1.mono HB.out.size))
    clear b1
    go_wp2_with fail
    go_ret2
    exact ⟨_, rfl, own_nil _ _, HB1.out⟩
end Go.Proofs.YtafbidhbmfdlkaaGreatDoor
/-
  slices.Grow of nil, and slices.Concat of slices of writes: a row of the call's own that holds them all, one behind the other.
-/
namespace Go.Proofs.YtafbidhbmfdlkaaGreatDoor
open Go.RowKit Go.Shelf
set_option maxRecDepth 100000

set_option maxHeartbeats 1000000 in
theorem dGrow_any (n : Nat) (h0 : 0 < n) (hn : n ≤ 1000000) (w : World) : Calls Tryz.prog 257 #[.slice none 0 0, .int .i64 n] w fun e w' => ∃ v, e = .returned v ∧ WRow w' w.heap.size v [] ∧ Below w.heap.size w w' := by
  obtain ⟨i0, hi, hz0, hz1, hz2⟩ := info_parts infoWri
  have hr : ∀ ty, (Builtin.append_ #[23, 3] ty #[.slice none 0 0, .int .i64 n]).run Tryz.prog w =
      .ok (.slice (some ⟨w.heap.size, 0, none⟩) n (grownCap w n 0 53)) (w.drew.alloc (.cells (Builtin.zeroCells (Value.agg #[.int .i64 0, .slice none 0 0]).cells n ++ Builtin.zeroCells (Value.agg #[.int .i64 0, .slice none 0 0]).cells (grownCap w n 0 53 - n)) 53)) := fun ty =>
    Lib.run_append_nil_zeros w 23 3 ty 53 i0 (.agg #[.int .i64 0, .slice none 0 0]) .i64 .i64 Tryz.underlying23 Tryz.underlying3 hi hz0 n h0 (by omega) (by omega) (by rw [hz2]; omega)
  have hG1 : n ≤ grownCap w n 0 53 := grownCap_ge w _ _ _
  have hG2 : grownCap w n 0 53 ≤ maxLen := grownCap_le_maxLen w n 0 53 (by unfold maxLen; omega)
  obtain ⟨G, hG⟩ : ∃ G, grownCap w n 0 53 = G := ⟨_, rfl⟩
  rw [hG] at hr hG1 hG2
  obtain ⟨cs, hcs⟩ : ∃ cs, Builtin.zeroCells (Value.agg #[.int .i64 0, .slice none 0 0]).cells n ++ Builtin.zeroCells (Value.agg #[.int .i64 0, .slice none 0 0]).cells (G - n) = cs := ⟨_, rfl⟩
  have hsz : cs.size = G * 2 := by
    rw [← hcs]
    simp [Builtin.zeroCells, Value.cells]
    omega
  rw [hcs] at hr
  have z5 : ∀ w, (Go.sizeOf 53).run Tryz.prog w = .ok 2 w := fun w => by kernel_rfl
  have n1 : ¬ ((n : Int) < 0) := by omega
  have n2 : (0 : Int) < n := by omega
  have n3 : (n : Int) ≤ 1000000 := by omega
  have g0 : (G : Int) ≤ 9223372036854775807 := by unfold maxLen at hG2; omega
  have hown : (w.drew.alloc (.cells cs 53)).ownsRow w.heap.size 53 2 (.slice (some ⟨w.heap.size, 0, none⟩) 0 G) 0 [] :=
    ⟨rfl, .inr ⟨w.heap.size, G, cs, rfl, Nat.le_refl _, by have := heap_alloc_new w.drew (.cells cs 53); simpa using this, Nat.zero_le _, hG2, by omega, by simp⟩⟩
  have hrow : WRow (w.drew.alloc (.cells cs 53)) w.heap.size (.slice (some ⟨w.heap.size, 0, none⟩) 0 G) [] := ⟨[], hown, fun i h => absurd h (Nat.not_lt_zero _)⟩
  have hbel : Below w.heap.size w (w.drew.alloc (.cells cs 53)) := (Below.refl _ w).drew.alloc (by simp) _
  have HO := Lib.hid hrow; clear hown hrow
  have HB := Lib.hid hbel; clear hbel
  have HG2 := Lib.hid hG2; clear hG2
  clear hG hcs hsz hi hz0 hz1 hz2
  go_enter Tryz.func257, Tryz.ntmps257
  go_wp2_with (at_builtin; refine Lib.wpList_append_run _ rfl _ _ _ _ rfl _ _ rfl rfl _ _ (hr _) ?_)
  go_ret
  exact ⟨_, rfl, HO.out, HB.out⟩

/-- A slice of writes as it is handed in. -/
structure WPart where
  a : Option Addr
  len : Nat
  cap : Nat
  ws : WrL
def flatW (ps : List WPart) : WrL := ps.flatMap (·.ws)
theorem flatW_take_succ (ps : List WPart) (k : Nat) (h : k < ps.length) : flatW (ps.take (k + 1)) = flatW (ps.take k) ++ (ps[k]).ws := by
  unfold flatW
  rw [List.take_succ_eq_append_getElem h, List.flatMap_append]
  simp
theorem flatW_take_le (ps : List WPart) (k : Nat) : (flatW (ps.take k)).length ≤ (flatW ps).length := by
  have : flatW ps = flatW (ps.take k) ++ flatW (ps.drop k) := by
    unfold flatW
    rw [← List.flatMap_append, List.take_append_drop]
  rw [this, List.length_append]
  omega
/-- A row of the call's own that holds ws. -/
def WOwn (ws : WrL) (w : World) (e : Ending) (w' : World) : Prop := ∃ v, e = .returned v ∧ WRow w' w.heap.size v ws ∧ Below w.heap.size w w'
set_option maxHeartbeats 2000000 in
theorem dConcat_any (r c : Nat) (ps : List WPart) (w : World) (hr : r < w.heap.size) (hl : ps.length ≤ 1000)
    (hcell : ∀ i (h : i < ps.length), w.cell? ⟨r, i, none⟩ = some (.slice (ps[i]).a (ps[i]).len (ps[i]).cap)) (hb : ∀ i (h : i < ps.length), Wts w w.heap.size (ps[i]).a (ps[i]).len (ps[i]).cap (ps[i]).ws)
    (h0 : 0 < (flatW ps).length) (hm : (flatW ps).length ≤ 1000000) :
    Calls Tryz.prog 196 #[.slice (some ⟨r, 0, none⟩) ps.length c] w (WOwn (flatW ps) w) := by
  obtain ⟨n, hn⟩ : ∃ n, ps.length = n := ⟨_, rfl⟩
  have HN := Lib.hid hn
  rw [hn] at hl ⊢
  clear hn
  have n0 : (0 : Int) ≤ n := by omega
  have n1 : (n : Int) ≤ 1000 := by omega
  have HC := Lib.hid hcell; clear hcell
  have HB := Lib.hid hb; clear hb
  have HM := Lib.hid hm; clear hm
  have H0 := Lib.hid h0; clear h0
  go_enter Tryz.func196, Tryz.ntmps196
  go_wp2_with fail
  go_loop [3, 11] (fun z i => ∃ k : Nat, k ≤ n ∧ i = .int .i64 k ∧ z = .int .i64 ((flatW (ps.take k)).length : Nat)) (fun _ i => n - (intOf i).toNat)
  case atStart => exact ⟨0, Nat.zero_le _, rfl, rfl⟩
  case round =>
    obtain ⟨k, hk, rfl, rfl⟩ := hrel
    by_cases hlt : k < n
    · have hkp : k < ps.length := by rw [HN.out]; exact hlt
      have hce := HC.out k hkp
      have hbe := (HB.out k hkp).1
      have hsu := flatW_take_succ ps k hkp
      have hle := flatW_take_le ps (k + 1)
      rw [hsu, List.length_append, hbe] at hle
      have hsl : (flatW (ps.take (k + 1))).length = (flatW (ps.take k)).length + (ps[k]).len := by rw [hsu, List.length_append, hbe]
      obtain ⟨p, hp⟩ : ∃ p, ps[k] = p := ⟨_, rfl⟩
      rw [hp] at hce hle hsl
      obtain ⟨m, hm⟩ : ∃ m, (flatW (ps.take k)).length = m := ⟨_, rfl⟩
      rw [hm] at hle hsl ⊢
      obtain ⟨pa, pl, pc, pss⟩ := p
      dsimp only at hce hle hsl
      have hmm := HM.out
      have m0 : (0 : Int) ≤ (m : Int) := by omega
      have m1 : (m : Int) + (pl : Int) ≤ 1000000 := by omega
      have m2 : (0 : Int) ≤ (pl : Int) := by omega
      have m3 : ¬ ((m : Int) + (pl : Int) < 0) := by omega
      have k0 : (k : Int) < n := by omega
      have HSL := Lib.hid hsl; clear hsl
      clear hp hm hsu hbe hle hmm
      go_wp2_with fail
      go_round
      case rel => exact ⟨k + 1, by omega, by go_num, by rw [HSL.out]; go_num⟩
      case measure => simp [intOf]; omega
    · obtain rfl : k = n := by omega
      have ht : ps.take k = ps := List.take_of_length_le (by rw [HN.out]; exact Nat.le_refl _)
      rw [ht]
      obtain ⟨m, hm⟩ : ∃ m, (flatW ps).length = m := ⟨_, rfl⟩
      have gr := dGrow_any m (by rw [← hm]; exact H0.out) (by rw [← hm]; exact HM.out) w
      rw [hm]
      have GR := Lib.hid gr; clear gr
      clear hm ht
      go_wp2_with fail
      refine GR.out.mono ?_
      rintro e w1 ⟨v, rfl, ho, b1⟩
      have HO := Lib.hid ho; clear ho
      have HB1 := Lib.hid b1; clear b1
      go_wp2_with fail
      go_loopw [6, 27] (fun v i wr => ∃ j : Nat, j ≤ k ∧ i = .int .i64 j ∧ WRow wr w.heap.size v (flatW (ps.take j)) ∧ Below w.heap.size w wr) (fun _ i _ => k - (intOf i).toNat)
      case atStart => exact ⟨0, Nat.zero_le _, rfl, HO.out, HB1.out⟩
      case round =>
        obtain ⟨j, hj, rfl, ho2, hb2⟩ := hrel
        by_cases hlt2 : j < k
        · have hkp : j < ps.length := by rw [HN.out]; exact hlt2
          have hce := (hb2.cell (p := ⟨r, j, none⟩) hr).trans (HC.out j hkp)
          have hbs := (HB.out j hkp).below hb2
          have hbe := (HB.out j hkp).1
          have hsu := flatW_take_succ ps j hkp
          have hle := flatW_take_le ps (j + 1)
          rw [hsu, List.length_append, hbe] at hle
          obtain ⟨p, hp⟩ : ∃ p, ps[j] = p := ⟨_, rfl⟩
          rw [hp] at hce hle hsu hbs hbe
          obtain ⟨t, ht⟩ : ∃ t, flatW (ps.take j) = t := ⟨_, rfl⟩
          rw [ht] at hle hsu ho2
          obtain ⟨pa, pl, pc, pss⟩ := p
          dsimp only at hce hle hsu hbs hbe
          have hmm := HM.out
          have k0 : (j : Int) < k := by omega
          have hnm : t.length + pl ≤ 1000000 := by omega
          have HSU := Lib.hid hsu; clear hsu
          have HO2 := Lib.hid ho2; clear ho2
          have HB2 := Lib.hid hb2; clear hb2
          have HBS := Lib.hid hbs; clear hbs
          clear hp ht hle hmm hbe
          go_wp2_with (at_builtin; refine wpList_append_wrow rfl (.tmp 31) (.tmp 32) rfl w.heap.size u6 t rfl HO2.out w.heap.size pa pl pc pss rfl HBS.out (Nat.le_refl _) hnm HB2.out.size ?_; intro v' W3 hown' hg' hrow')
          have hb3 : Below w.heap.size w W3 := HB2.out.grown hg' HB2.out.size (fun k e => (hrow' k e).1)
          have HO3 := Lib.hid hown'; clear hown'
          have HB3 := Lib.hid hb3; clear hb3 hg' hrow'
          go_wp2_with fail
          go_roundw
          case rel => exact ⟨j + 1, by omega, by go_num, by rw [HSU.out]; exact HO3.out, HB3.out⟩
          case measure => simp [intOf]; omega
        · obtain rfl : j = k := by omega
          have ht : ps.take j = ps := List.take_of_length_le (by rw [HN.out]; exact Nat.le_refl _)
          rw [ht] at ho2
          have HO2 := Lib.hid ho2
          have HB2 := Lib.hid hb2; clear hb2
          clear ho2 ht
          go_wp2_with fail
          go_ret
          exact ⟨_, rfl, HO2.out, HB2.out⟩
end Go.Proofs.YtafbidhbmfdlkaaGreatDoor
