/-
  Words for the document's own Twin of a disk: rows of the call's own whose pieces lie each in a block of its own.
-/
import Derived.Test.YtgpojnhhcobcbaaDevRows
import Derived.Test.YtgpojnhhcobcbaaDevLeft
namespace Go.Proofs.Ytgpojnhhcobcbaa
open Go.RowKit Go.Shelf
set_option maxRecDepth 100000

theorem own_val {w : World} {base n : Nat} {v : Value} {s : List UInt8} (h : w.ownsRow base 5 1 v n (vals s)) : ∃ A c, v = .slice A n c ∧ ∀ B, BslO w B A n c s := by
  obtain ⟨A, c, rfl⟩ := own_slice h
  exact ⟨A, c, rfl, fun B => BslO.own h B⟩
/-- The pieces' values: those that are there yet. -/
def ifDone (k i : Nat) (v : Value) : Value := if i < k then v else .slice none 0 0
theorem done_yes {k i : Nat} {v : Value} (h : i < k) : ifDone k i v = v := if_pos h
theorem done_no {k i : Nat} {v : Value} (h : ¬ i < k) : ifDone k i v = .slice none 0 0 := if_neg h
/-- One value more. -/
def putV (vs : Nat → Value) (k : Nat) (v : Value) (i : Nat) : Value := if i = k then v else vs i
theorem put_same (vs : Nat → Value) (k : Nat) (v : Value) : putV vs k v k = v := if_pos rfl
theorem put_ne {vs : Nat → Value} {k i : Nat} {v : Value} (h : i ≠ k) : putV vs k v i = vs i := if_neg h
/-- A disk whose first k pieces are there, each in a block of its own. -/
def TwI (base hb hw : Nat) (D : DkL) (k : Nat) (w : World) : Prop :=
  ∃ (vs : Nat → Value) (cb cw : Array Value), Blk w hb 30 cb ∧ cb.size = D.1.length ∧ Blk w hw 55 cw ∧ cw.size = D.2.length * 2 ∧
    (∀ i, i < D.1.length → cb[i]? = some (ifDone k i (vs i))) ∧
    (∀ j, j < D.2.length → cw[j * 2 + 1]? = some (ifDone k (D.1.length + j) (vs (D.1.length + j))) ∧ (D.1.length + j < k → cw[j * 2]? = some (.int .i64 (wr_ D.2 j).1))) ∧
    (∀ i, i < k → w.ownsRow base 5 1 (vs i) ((pieces D).getD i []).length (vals ((pieces D).getD i []))) ∧
    (∀ i j, i < j → j < k → ∀ b, (vs i).ownBlock = some b → (vs j).ownBlock ≠ some b)
theorem TwI.below {base hb hw k : Nat} {D : DkL} {w w' : World} (h : TwI base hb hw D k w) (hb' : Below w.heap.size w w') : TwI base hb hw D k w' := by
  obtain ⟨vs, cb, cw, h1, h2, h3, h4, h5, h6, h7, h8⟩ := h
  exact ⟨vs, cb, cw, h1.below hb' h1.lt, h2, h3.below hb' h3.lt, h4, h5, h6, fun i hi => own_below (h7 i hi) hb', h8⟩
theorem own_ne {w : World} {base n g : Nat} {v : Value} {xs : List Value} {t : TypeId} {cs : Array Value} (h : w.ownsRow base 5 1 v n xs) (hg : Blk w g t cs) (ht : t ≠ 5) : ∀ b, v.ownBlock = some b → b ≠ g := by
  intro b hb
  obtain ⟨_, ⟨rfl, _⟩ | ⟨g', cap, cur, rfl, _, h3, _⟩⟩ := h
  · cases hb
  · obtain rfl : g' = b := Option.some.inj hb
    exact fun e => (show Blk w g' _ cur from h3).ne hg (Ne.symm ht) e
/-- The next block is there. -/
theorem TwI.block {base hb hw k : Nat} {D : DkL} {w w' : World} {v : Value} (h : TwI base hb hw D k w) (hk : k < D.1.length) (hb' : Below w.heap.size w w') (hv : w'.ownsRow w.heap.size 5 1 v (D.1.getD k []).length (vals (D.1.getD k []))) (hbase : base ≤ w.heap.size) :
    TwI base hb hw D (k + 1) (w'.setCell ⟨hb, k, none⟩ v) := by
  have h0 := h.below hb'
  obtain ⟨vs, cb, cw, h1, h2, h3, h4, h5, h6, h7, h8⟩ := h
  have hlt : ∀ i, i < k → ∀ b, (vs i).ownBlock = some b → b < w.heap.size := fun i hi b e => ((h7 i hi).lt b e).2
  have x1 := h1.below hb' h1.lt
  have x3 := h3.below hb' h3.lt
  have hne : hw ≠ hb := x3.ne x1 (by decide)
  have gs : w'.grownBy (w'.setCell ⟨hb, k, none⟩ v) (some hb) := only_setCell (World.grownBy.refl w' _) (.inl rfl) _
  have hps : (pieces D).getD k [] = D.1.getD k [] := pieces_left hk
  refine ⟨putV vs k v, _, cw, x1.set_ k v, by simpa using h2, x3.far (by simpa using hne) _, h4, fun i hi => ?_, fun j hj => ?_, fun i hi => ?_, fun i j hij hj b e1 e2 => ?_⟩
  · rw [Array.getElem?_setIfInBounds]
    by_cases e : k = i
    · subst e
      rw [if_pos rfl, if_pos (by omega), done_yes (by omega), put_same]
    · rw [if_neg e, h5 i hi, put_ne (Ne.symm e)]
      by_cases e2 : i < k
      · rw [done_yes e2, done_yes (by omega)]
      · rw [done_no e2, done_no (by omega)]
  · obtain ⟨e1, e2⟩ := h6 j hj
    refine ⟨?_, fun hh => absurd hh (by omega)⟩
    rw [e1, done_no (by omega), done_no (by omega)]
  · by_cases e : i = k
    · subst e
      rw [put_same, hps]
      exact own_mono (own_other hv gs (own_ne hv x1 (by decide))) hbase
    · rw [put_ne e]
      have := own_below (h7 i (by omega)) hb'
      exact own_other this gs (own_ne this x1 (by decide))
  · rw [put_ne (by omega)] at e1
    by_cases e : j = k
    · subst e
      rw [put_same] at e2
      have h9 := hlt i (by omega) b e1
      have h10 := (hv.lt b e2).1
      omega
    · rw [put_ne e] at e2
      exact h8 i j hij (by omega) b e1 e2
/-- The next write's place is there. -/
theorem TwI.at_ {base hb hw k j : Nat} {D : DkL} {w : World} {u : Value} (h : TwI base hb hw D k w) (hk : k ≤ D.1.length + j) : TwI base hb hw D k (w.setCell ⟨hw, j * 2, none⟩ u) := by
  obtain ⟨vs, cb, cw, h1, h2, h3, h4, h5, h6, h7, h8⟩ := h
  have hne : hb ≠ hw := h1.ne h3 (by decide)
  have gs : w.grownBy (w.setCell ⟨hw, j * 2, none⟩ u) (some hw) := only_setCell (World.grownBy.refl w _) (.inl rfl) _
  refine ⟨vs, cb, _, h1.far (by simpa using hne) _, h2, h3.set_ _ _, by simpa using h4, h5, fun i hi => ?_, fun i hi => own_other (h7 i hi) gs (own_ne (h7 i hi) h3 (by decide)), h8⟩
  obtain ⟨e1, e2⟩ := h6 i hi
  refine ⟨by rw [Array.getElem?_setIfInBounds, if_neg (by omega)]; exact e1, fun hh => ?_⟩
  rw [Array.getElem?_setIfInBounds, if_neg (by omega)]
  exact e2 hh
/-- The next write is there. -/
theorem TwI.write {base hb hw k j : Nat} {D : DkL} {w w' : World} {v : Value} (h : TwI base hb hw D k w) (hk : k = D.1.length + j) (hj : j < D.2.length) (hat : w.cell? ⟨hw, j * 2, none⟩ = some (.int .i64 (wr_ D.2 j).1)) (hb' : Below w.heap.size w w') (hv : w'.ownsRow w.heap.size 5 1 v (wr_ D.2 j).2.length (vals (wr_ D.2 j).2)) (hbase : base ≤ w.heap.size) :
    TwI base hb hw D (k + 1) (w'.setCell ⟨hw, j * 2 + 1, none⟩ v) := by
  obtain ⟨vs, cb, cw, h1, h2, h3, h4, h5, h6, h7, h8⟩ := h
  have hlt : ∀ i, i < k → ∀ b, (vs i).ownBlock = some b → b < w.heap.size := fun i hi b e => ((h7 i hi).lt b e).2
  have x1 := h1.below hb' h1.lt
  have x3 := h3.below hb' h3.lt
  have hne : hb ≠ hw := x1.ne x3 (by decide)
  rw [h3.cell] at hat
  have gs : w'.grownBy (w'.setCell ⟨hw, j * 2 + 1, none⟩ v) (some hw) := only_setCell (World.grownBy.refl w' _) (.inl rfl) _
  have hps : (pieces D).getD k [] = (wr_ D.2 j).2 := by rw [hk]; exact pieces_right hj
  refine ⟨putV vs k v, cb, _, x1.far (by simpa using hne) _, h2, x3.set_ _ _, by simpa using h4, fun i hi => ?_, fun i hi => ?_, fun i hi => ?_, fun i i' hij hi' b e1 e2 => ?_⟩
  · rw [h5 i hi, put_ne (by omega), done_yes (by omega), done_yes (by omega)]
  · obtain ⟨e1, e2⟩ := h6 i hi
    by_cases e : i = j
    · subst e
      subst hk
      refine ⟨?_, fun _ => ?_⟩
      · rw [Array.getElem?_setIfInBounds, if_pos rfl, if_pos (by omega), done_yes (by omega), put_same]
      · rw [Array.getElem?_setIfInBounds, if_neg (by omega)]
        exact hat
    · refine ⟨?_, fun hh => ?_⟩
      · rw [Array.getElem?_setIfInBounds, if_neg (by omega), e1, put_ne (by omega)]
        by_cases e3 : D.1.length + i < k
        · rw [done_yes e3, done_yes (by omega)]
        · rw [done_no e3, done_no (by omega)]
      · rw [Array.getElem?_setIfInBounds, if_neg (by omega)]
        exact e2 (by omega)
  · by_cases e : i = k
    · subst e
      rw [put_same, hps]
      exact own_mono (own_other hv gs (own_ne hv x3 (by decide))) hbase
    · rw [put_ne e]
      have := own_below (h7 i (by omega)) hb'
      exact own_other this gs (own_ne this x3 (by decide))
  · rw [put_ne (by omega)] at e1
    by_cases e : i' = k
    · subst e
      rw [put_same] at e2
      have h9 := hlt i (by omega) b e1
      have h10 := (hv.lt b e2).1
      omega
    · rw [put_ne e] at e2
      exact h8 i i' hij (by omega) b e1 e2
/-- A disk all of whose pieces are there. -/
def Tw (w : World) (base : Nat) (x : DAt) (D : DkL) : Prop :=
  ∃ hb hw, x = ⟨some ⟨hb, 0, none⟩, D.1.length, some ⟨hw, 0, none⟩, D.2.length⟩ ∧ base ≤ hb ∧ base ≤ hw ∧ Fits D ∧ (∀ i, i < D.2.length → (Lit.int .i64 (wr_ D.2 i).1).wf = true) ∧ TwI base hb hw D (D.1.length + D.2.length) w
theorem Tw.below {w w' : World} {base : Nat} {x : DAt} {D : DkL} (h : Tw w base x D) (hb : Below w.heap.size w w') : Tw w' base x D := by
  obtain ⟨a, b, c, d, e, f, g, h1⟩ := h
  exact ⟨a, b, c, d, e, f, g, h1.below hb⟩
theorem Tw.brow {w : World} {base : Nat} {x : DAt} {D : DkL} (h : Tw w base x D) (C : Nat) : BRowC w C base (.slice x.ba D.1.length x.bc) D.1 := by
  obtain ⟨hb, hw, rfl, k1, k2, hf, hwf, vs, cb, cw, h1, h2, h3, h4, h5, h6, h7, h8⟩ := h
  refine ⟨cb.toList, ⟨by simp [h2], .inr ⟨hb, D.1.length, cb, rfl, k1, h1, Nat.le_refl _, by have := hf.1; unfold maxLen; omega, by omega, List.take_of_length_le (by simp [h2])⟩⟩, fun i hi => ?_⟩
  have ho := h7 i (by omega)
  rw [pieces_left hi] at ho
  obtain ⟨A, c, e, hs⟩ := own_val ho
  refine ⟨A, c, ?_, hs C⟩
  have := h5 i hi
  rw [done_yes (by omega), e] at this
  rw [List.getD_eq_getElem?_getD, Array.getElem?_toList, this]
  rfl
theorem Tw.wrow {w : World} {base : Nat} {x : DAt} {D : DkL} (h : Tw w base x D) (C : Nat) : WRowC w C base (.slice x.wa D.2.length x.wc) D.2 := by
  obtain ⟨hb, hw, rfl, k1, k2, hf, hwf, vs, cb, cw, h1, h2, h3, h4, h5, h6, h7, h8⟩ := h
  refine ⟨cw.toList, ⟨by simp [h4], .inr ⟨hw, D.2.length, cw, rfl, k2, h3, Nat.le_refl _, by have := hf.2.1; unfold maxLen; omega, h4, List.take_of_length_le (by simp [h4])⟩⟩, fun i hi => ?_⟩
  have ho := h7 (D.1.length + i) (by omega)
  rw [pieces_right hi] at ho
  obtain ⟨A, c, e, hs⟩ := own_val ho
  obtain ⟨e1, e2⟩ := h6 i hi
  rw [done_yes (by omega), e] at e1
  refine ⟨hwf i hi, ?_, A, c, ?_, hs C⟩
  · rw [List.getD_eq_getElem?_getD, Array.getElem?_toList, e2 (by omega)]
    rfl
  · rw [List.getD_eq_getElem?_getD, Array.getElem?_toList, e1]
    rfl
theorem Tw.dsk {w : World} {base : Nat} {x : DAt} {D : DkL} (h : Tw w base x D) : Dsk w w.heap.size x D := by
  obtain ⟨a, c, e1, h1⟩ := (h.brow 0).bls
  obtain ⟨a', c', e2, h2⟩ := (h.wrow 0).wts
  cases e1
  cases e2
  exact ⟨h1, h2⟩
/-- A disk that stays where a box of disks is written. -/
def DskT (w : World) (x : DAt) (D : DkL) : Prop := Dsk w w.heap.size x D ∧ ∀ g cs u v, Blk w g 25 cs → Dsk ((w.setCell ⟨g, 0, none⟩ u).setCell ⟨g, 1, none⟩ v) w.heap.size x D
theorem rows_dsk {w : World} {C C' b1 b2 : Nat} {x : DAt} {D : DkL} (h1 : BRowC w C b1 (.slice x.ba D.1.length x.bc) D.1) (h2 : WRowC w C' b2 (.slice x.wa D.2.length x.wc) D.2) : Dsk w w.heap.size x D := by
  obtain ⟨a, c, e1, h1⟩ := h1.bls
  obtain ⟨a', c', e2, h2⟩ := h2.wts
  cases e1
  cases e2
  exact ⟨h1, h2⟩
theorem rows_dskT {w : World} {b1 b2 : Nat} {x : DAt} {D : DkL} (h1 : BRowC w 0 b1 (.slice x.ba D.1.length x.bc) D.1) (h2 : WRowC w 0 b2 (.slice x.wa D.2.length x.wc) D.2) : DskT w x D :=
  ⟨rows_dsk h1 h2, fun g cs u v hg => by
    have gs : w.grownBy ((w.setCell ⟨g, 0, none⟩ u).setCell ⟨g, 1, none⟩ v) (some g) := only_two w g u v
    have := rows_dsk (h1.row gs (Nat.zero_le _) hg (by decide) (by decide)) (h2.row gs (Nat.zero_le _) hg (by decide) (by decide))
    simpa using this⟩
theorem Tw.dskT {w : World} {base : Nat} {x : DAt} {D : DkL} (h : Tw w base x D) : DskT w x D := rows_dskT (h.brow 0) (h.wrow 0)
/-- Two stores beside it. -/
theorem tw_far {w : World} {base base' g : Nat} {x : DAt} {D : DkL} {cs : Array Value} (h : Tw w base x D) (hg : Blk w g 25 cs) (hl : base' ≤ base) (u v : Value) : Tw ((w.setCell ⟨g, 0, none⟩ u).setCell ⟨g, 1, none⟩ v) base' x D := by
  obtain ⟨hb, hw, h0, k1, k2, hf, hwf, vs, cb, cw, h1, h2, h3, h4, h5, h6, h7, h8⟩ := h
  have n1 : hb ≠ g := h1.ne hg (by decide)
  have n2 : hw ≠ g := h3.ne hg (by decide)
  have gs : w.grownBy ((w.setCell ⟨g, 0, none⟩ u).setCell ⟨g, 1, none⟩ v) (some g) := only_two w g u v
  exact ⟨hb, hw, h0, by omega, by omega, hf, hwf, vs, cb, cw, (h1.far (by simpa using n1) _).far (by simpa using n1) _, h2, (h3.far (by simpa using n2) _).far (by simpa using n2) _, h4, h5, h6, fun i hi => own_mono (own_other (h7 i hi) gs (own_ne (h7 i hi) hg (by decide))) hl, h8⟩
end Go.Proofs.Ytgpojnhhcobcbaa
