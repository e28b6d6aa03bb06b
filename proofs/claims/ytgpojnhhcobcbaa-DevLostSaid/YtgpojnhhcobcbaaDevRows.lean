/-
  Words for rows of the call's own whose cells are slices of bytes, or writes; appends to them.
-/
import Derived.Test.YtgpojnhhcobcbaaDevLaidW
namespace Go.Proofs.Ytgpojnhhcobcbaa
open Go.RowKit Go.Shelf
set_option maxRecDepth 100000

/-- A slice that reads as s, and lies below block B, or in a block of bytes. -/
def BslO (w : World) (B : Nat) (A : Option Addr) (n c : Nat) (s : List UInt8) : Prop :=
  s.length = n ∧ n ≤ c ∧ c ≤ maxLen ∧ (A = none → c = 0) ∧
    (0 < n → ∃ b off, A = some ⟨b, off, none⟩ ∧ b < w.heap.size ∧ (b < B ∨ ∃ cs, Blk w b 5 cs) ∧ ∀ i (h : i < s.length), w.cell? ⟨b, off + i, none⟩ = some (.int .u8 ((s[i]).toNat : Int)))
section
variable {w w' : World} {B n c : Nat} {A : Option Addr} {s : List UInt8}
theorem BslO.bsl (h : BslO w B A n c s) : Bsl w w.heap.size A n c s := by
  obtain ⟨h1, h2, h3, h4, h5⟩ := h
  refine ⟨h1, h2, h3, h4, fun h0 => ?_⟩
  obtain ⟨b, off, e, hb, _, hc⟩ := h5 h0
  exact ⟨b, off, e, hb, hc⟩
theorem BslO.of (h : Bsl w B A n c s) (hB : B ≤ w.heap.size) : BslO w B A n c s := by
  obtain ⟨h1, h2, h3, h4, h5⟩ := h
  refine ⟨h1, h2, h3, h4, fun h0 => ?_⟩
  obtain ⟨b, off, e, hb, hc⟩ := h5 h0
  exact ⟨b, off, e, by omega, .inl hb, hc⟩
theorem BslO.own {base : Nat} (h : w.ownsRow base 5 1 (.slice A n c) n (vals s)) (B : Nat) : BslO w B A n c s := by
  have hb := own_bsl h
  obtain ⟨h1, h2, h3, h4, h5⟩ := hb
  refine ⟨h1, h2, h3, h4, fun h0 => ?_⟩
  obtain ⟨b, off, e, hb, hc⟩ := h5 h0
  subst e
  obtain ⟨_, ⟨e, _⟩ | ⟨g, cap, cur, e, _, hh, _⟩⟩ := h
  · cases e
  · cases e
    exact ⟨b, 0, rfl, hb, .inr ⟨cur, hh⟩, hc⟩
theorem BslO.below (h : BslO w B A n c s) (hb : Below w.heap.size w w') : BslO w' B A n c s := by
  obtain ⟨h1, h2, h3, h4, h5⟩ := h
  refine ⟨h1, h2, h3, h4, fun h0 => ?_⟩
  obtain ⟨b, off, e, hlt, ho, hc⟩ := h5 h0
  exact ⟨b, off, e, Nat.lt_of_lt_of_le hlt hb.size, ho.imp id fun ⟨cs, hcs⟩ => ⟨cs, hcs.below hb hlt⟩, fun i hi => (hb.cell (p := ⟨b, off + i, none⟩) hlt).trans (hc i hi)⟩
/-- Another block of one's own, that is none of bytes, is written. -/
theorem BslO.row {row : Option Nat} (h : BslO w B A n c s) (hg : w.grownBy w' row) (hr : ∀ g, row = some g → B ≤ g ∧ ∃ t cs, Blk w g t cs ∧ t ≠ 5) : BslO w' B A n c s := by
  obtain ⟨h1, h2, h3, h4, h5⟩ := h
  refine ⟨h1, h2, h3, h4, fun h0 => ?_⟩
  obtain ⟨b, off, e, hlt, ho, hc⟩ := h5 h0
  have hne : some b ≠ row := fun er => by
    obtain ⟨h6, t, cs, h7, h8⟩ := hr b er.symm
    rcases ho with ho | ⟨cs', h9⟩
    · omega
    · exact h9.ne h7 (fun e => h8 e.symm) rfl
  have hbk := hg.block b hlt hne
  refine ⟨b, off, e, Nat.lt_of_lt_of_le hlt hg.size, ho.imp id fun ⟨cs, hcs⟩ => ⟨cs, hbk.trans hcs⟩, fun i hi => ?_⟩
  rw [← hc i hi]
  exact World.cell?_of_block (a := ⟨b, off + i, none⟩) hbk
end
/-- What an append writes is the row's own block. -/
theorem own_row {w : World} {base : Nat} {e : TypeId} {size : Nat} {v : Value} {n : Nat} {xs : List Value} (h : w.ownsRow base e size v n xs) (he : e ≠ 5) : ∀ g, v.ownBlock = some g → base ≤ g ∧ ∃ t cs, Blk w g t cs ∧ t ≠ 5 := by
  rintro g hg
  obtain ⟨_, ⟨rfl, _⟩ | ⟨g', cap, cur, rfl, h1, h2, _⟩⟩ := h
  · cases hg
  · cases hg
    exact ⟨h1, _, _, h2, he⟩
/-- A row of the call's own, of slices of bytes. -/
def BRowC (w : World) (C base : Nat) (v : Value) (bl : List (List UInt8)) : Prop :=
  ∃ xs, w.ownsRow base 30 1 v bl.length xs ∧ ∀ i, i < bl.length → ∃ A c, xs.getD i undef = .slice A (bl.getD i []).length c ∧ BslO w C A (bl.getD i []).length c (bl.getD i [])
abbrev BRow (w : World) (base : Nat) (v : Value) (bl : List (List UInt8)) : Prop := BRowC w base base v bl
/-- A row of the call's own, of writes. -/
def WRowC (w : World) (C base : Nat) (v : Value) (ws : WrL) : Prop :=
  ∃ xs, w.ownsRow base 55 2 v ws.length xs ∧ ∀ i, i < ws.length → (Lit.int .i64 (wr_ ws i).1).wf = true ∧ xs.getD (i * 2) undef = .int .i64 (wr_ ws i).1 ∧ ∃ A c, xs.getD (i * 2 + 1) undef = .slice A (wr_ ws i).2.length c ∧ BslO w C A (wr_ ws i).2.length c (wr_ ws i).2
abbrev WRow (w : World) (base : Nat) (v : Value) (ws : WrL) : Prop := WRowC w base base v ws
theorem brow_nil (w : World) (base : Nat) {C : Nat} : BRowC w C base (.slice none 0 0) [] := ⟨[], World.ownsRow_nil _ _ _ _, fun _ h => absurd h (Nat.not_lt_zero _)⟩
theorem wrow_nil (w : World) (base : Nat) {C : Nat} : WRowC w C base (.slice none 0 0) [] := ⟨[], ⟨by simp, .inl ⟨rfl, rfl⟩⟩, fun _ h => absurd h (Nat.not_lt_zero _)⟩
theorem BRowC.below {w w' : World} {C base : Nat} {v : Value} {bl : List (List UInt8)} (h : BRowC w C base v bl) (hb : Below w.heap.size w w') : BRowC w' C base v bl := by
  obtain ⟨xs, h1, h2⟩ := h
  refine ⟨xs, own_below h1 hb, fun i hi => ?_⟩
  obtain ⟨A, c, h3, h4⟩ := h2 i hi
  exact ⟨A, c, h3, h4.below hb⟩
theorem WRowC.below {w w' : World} {C base : Nat} {v : Value} {ws : WrL} (h : WRowC w C base v ws) (hb : Below w.heap.size w w') : WRowC w' C base v ws := by
  obtain ⟨xs, h1, h2⟩ := h
  refine ⟨xs, own_below h1 hb, fun i hi => ?_⟩
  obtain ⟨h0, h5, A, c, h3, h4⟩ := h2 i hi
  exact ⟨h0, h5, A, c, h3, h4.below hb⟩
/-- Another block of one's own, that is none of bytes, is written. -/
theorem BRowC.row {w w' : World} {C base : Nat} {v : Value} {bl : List (List UInt8)} (h : BRowC w C base v bl) {g : Nat} (hg : w.grownBy w' (some g)) (hB : C ≤ g) {t : TypeId} {cs : Array Value} (hx : Blk w g t cs) (ht : t ≠ 5) (hne : t ≠ 30) : BRowC w' C base v bl := by
  obtain ⟨xs, h1, h2⟩ := h
  refine ⟨xs, own_other h1 hg fun k hk e => ?_, fun i hi => ?_⟩
  · obtain ⟨_, ⟨rfl, _⟩ | ⟨g', cap, cur, rfl, _, h3, _⟩⟩ := h1
    · cases hk
    · exact (show Blk w g' _ cur from h3).ne hx (Ne.symm hne) ((Option.some.inj hk).trans e)
  · obtain ⟨A, c, h3, h4⟩ := h2 i hi
    exact ⟨A, c, h3, h4.row hg fun k hk => by cases hk; exact ⟨hB, t, cs, hx, ht⟩⟩
theorem WRowC.row {w w' : World} {C base : Nat} {v : Value} {ws : WrL} (h : WRowC w C base v ws) {g : Nat} (hg : w.grownBy w' (some g)) (hB : C ≤ g) {t : TypeId} {cs : Array Value} (hx : Blk w g t cs) (ht : t ≠ 5) (hne : t ≠ 55) : WRowC w' C base v ws := by
  obtain ⟨xs, h1, h2⟩ := h
  refine ⟨xs, own_other h1 hg fun k hk e => ?_, fun i hi => ?_⟩
  · obtain ⟨_, ⟨rfl, _⟩ | ⟨g', cap, cur, rfl, _, h3, _⟩⟩ := h1
    · cases hk
    · exact (show Blk w g' _ cur from h3).ne hx (Ne.symm hne) ((Option.some.inj hk).trans e)
  · obtain ⟨h0, h5, A, c, h3, h4⟩ := h2 i hi
    exact ⟨h0, h5, A, c, h3, h4.row hg fun k hk => by cases hk; exact ⟨hB, t, cs, hx, ht⟩⟩
theorem BRowC.bls {w : World} {C base : Nat} {v : Value} {bl : List (List UInt8)} (h : BRowC w C base v bl) : ∃ a c, v = .slice a bl.length c ∧ Bls w w.heap.size a bl.length c bl := by
  obtain ⟨xs, h1, h2⟩ := h
  obtain ⟨hl, ⟨rfl, h0⟩ | ⟨g, cap, cur, rfl, _, h3, h4, h5, h6, h7⟩⟩ := id h1
  · have : bl = [] := List.eq_nil_of_length_eq_zero h0
    subst this
    exact ⟨none, 0, rfl, bls_nil _ _⟩
  · refine ⟨_, _, rfl, rfl, h4, h5, fun _ => ⟨g, 0, rfl, (Array.getElem?_eq_some_iff.1 h3).1, fun i hi => ?_⟩⟩
    obtain ⟨A, c, e1, e2⟩ := h2 i hi
    refine ⟨A, c, ?_, e2.bsl⟩
    rw [Nat.zero_add, cell_of_row w g i cur 30 (0, 0) h3, ← Array.getElem?_toList]
    have : cur.toList[i]? = xs[i]? := by rw [← h7, List.getElem?_take_of_lt (by omega)]
    rw [this, ← e1, List.getD_eq_getElem?_getD, List.getElem?_eq_getElem (by omega)]
    rfl
theorem WRowC.wts {w : World} {C base : Nat} {v : Value} {ws : WrL} (h : WRowC w C base v ws) : ∃ a c, v = .slice a ws.length c ∧ Wts w w.heap.size a ws.length c ws := by
  obtain ⟨xs, h1, h2⟩ := h
  obtain ⟨hl, ⟨rfl, h0⟩ | ⟨g, cap, cur, rfl, _, h3, h4, h5, h6, h7⟩⟩ := id h1
  · have : ws = [] := List.eq_nil_of_length_eq_zero h0
    subst this
    exact ⟨none, 0, rfl, wts_nil _ _⟩
  · refine ⟨_, _, rfl, rfl, h4, h5, fun _ => ⟨g, 0, rfl, (Array.getElem?_eq_some_iff.1 h3).1, fun i hi => ?_⟩⟩
    obtain ⟨e0, e3, A, c, e1, e2⟩ := h2 i hi
    have hget : ∀ j, j < ws.length * 2 → cur.toList[j]? = some (xs.getD j undef) := fun j hj => by
      have : cur.toList[j]? = xs[j]? := by rw [← h7, List.getElem?_take_of_lt hj]
      rw [this, List.getD_eq_getElem?_getD, List.getElem?_eq_getElem (by omega)]
      rfl
    refine ⟨e0, ?_, A, c, ?_, e2.bsl⟩
    · rw [Nat.zero_add, cell_of_row w g _ cur 55 (0, 0) h3, ← Array.getElem?_toList, hget _ (by omega), e3]
    · rw [Nat.zero_add, cell_of_row w g _ cur 55 (0, 0) h3, ← Array.getElem?_toList, hget _ (by omega), e1]
/-- Behind an append: the lists, one behind the other. -/
theorem brow_app {w w' : World} {C base : Nat} {v v' : Value} {bl : List (List UInt8)} {xs : List Value} {A : Option Addr} {c : Nat} {s : List UInt8} (hC : C ≤ base) (h : w.ownsRow base 30 1 v bl.length xs) (h2 : ∀ i, i < bl.length → ∃ A c, xs.getD i undef = .slice A (bl.getD i []).length c ∧ BslO w C A (bl.getD i []).length c (bl.getD i []))
    (hs : BslO w C A s.length c s) (ho : w'.ownsRow base 30 1 v' (bl.length + 1) (xs ++ [.slice A s.length c])) (hg : w.grownBy w' v.ownBlock) : BRowC w' C base v' (bl ++ [s]) := by
  have hl : xs.length = bl.length := by have := h.1; omega
  refine ⟨_, by rw [List.length_append]; exact ho, fun i hi => ?_⟩
  rw [List.length_append] at hi
  simp only [List.length_cons, List.length_nil] at hi
  rcases Nat.lt_or_ge i bl.length with h3 | h3
  · obtain ⟨A', c', e1, e2⟩ := h2 i h3
    have g1 : (bl ++ [s]).getD i [] = bl.getD i [] := by rw [List.getD_eq_getElem?_getD, List.getElem?_append_left h3, ← List.getD_eq_getElem?_getD]
    have g2 : (xs ++ [Value.slice A s.length c]).getD i undef = xs.getD i undef := by rw [List.getD_eq_getElem?_getD, List.getElem?_append_left (by omega), ← List.getD_eq_getElem?_getD]
    rw [g1, g2]
    exact ⟨A', c', e1, e2.row hg (fun g hg => (own_row h (by decide) g hg).imp_left (Nat.le_trans hC))⟩
  · obtain rfl : i = bl.length := by omega
    have g1 : (bl ++ [s]).getD bl.length [] = s := by rw [List.getD_eq_getElem?_getD, List.getElem?_append_right (Nat.le_refl _), Nat.sub_self]; rfl
    have g2 : (xs ++ [Value.slice A s.length c]).getD bl.length undef = .slice A s.length c := by rw [List.getD_eq_getElem?_getD, List.getElem?_append_right (by omega), hl, Nat.sub_self]; rfl
    rw [g1, g2]
    exact ⟨A, c, rfl, hs.row hg (fun g hg => (own_row h (by decide) g hg).imp_left (Nat.le_trans hC))⟩
theorem wrow_app {w w' : World} {C base : Nat} {v v' : Value} {ws ws' : WrL} {xs ys : List Value} (hC : C ≤ base) (h : w.ownsRow base 55 2 v ws.length xs)
    (h2 : ∀ i, i < ws.length → (Lit.int .i64 (wr_ ws i).1).wf = true ∧ xs.getD (i * 2) undef = .int .i64 (wr_ ws i).1 ∧ ∃ A c, xs.getD (i * 2 + 1) undef = .slice A (wr_ ws i).2.length c ∧ BslO w C A (wr_ ws i).2.length c (wr_ ws i).2)
    (h3 : ∀ i, i < ws'.length → (Lit.int .i64 (wr_ ws' i).1).wf = true ∧ ys.getD (i * 2) undef = .int .i64 (wr_ ws' i).1 ∧ ∃ A c, ys.getD (i * 2 + 1) undef = .slice A (wr_ ws' i).2.length c ∧ BslO w C A (wr_ ws' i).2.length c (wr_ ws' i).2)
    (ho : w'.ownsRow base 55 2 v' (ws.length + ws'.length) (xs ++ ys)) (hg : w.grownBy w' v.ownBlock) : WRowC w' C base v' (ws ++ ws') := by
  have hl : xs.length = ws.length * 2 := h.1
  refine ⟨_, by rw [List.length_append]; exact ho, fun i hi => ?_⟩
  rw [List.length_append] at hi
  rcases Nat.lt_or_ge i ws.length with h4 | h4
  · obtain ⟨e0, e3, A, c, e1, e2⟩ := h2 i h4
    have g1 : wr_ (ws ++ ws') i = wr_ ws i := by unfold wr_; rw [List.getD_eq_getElem?_getD, List.getElem?_append_left h4, ← List.getD_eq_getElem?_getD]
    have g2 : ∀ j, j < ws.length * 2 → (xs ++ ys).getD j undef = xs.getD j undef := fun j hj => by rw [List.getD_eq_getElem?_getD, List.getElem?_append_left (by omega), ← List.getD_eq_getElem?_getD]
    rw [g1, g2 _ (by omega), g2 _ (by omega)]
    exact ⟨e0, e3, A, c, e1, e2.row hg (fun g hg => (own_row h (by decide) g hg).imp_left (Nat.le_trans hC))⟩
  · obtain ⟨k, rfl⟩ : ∃ k, i = ws.length + k := ⟨i - ws.length, by omega⟩
    obtain ⟨e0, e3, A, c, e1, e2⟩ := h3 k (by omega)
    have g1 : wr_ (ws ++ ws') (ws.length + k) = wr_ ws' k := by
      unfold wr_
      rw [List.getD_eq_getElem?_getD, List.getElem?_append_right (by omega), Nat.add_sub_cancel_left, ← List.getD_eq_getElem?_getD]
    have g2 : ∀ j, (xs ++ ys).getD (ws.length * 2 + j) undef = ys.getD j undef := fun j => by
      rw [List.getD_eq_getElem?_getD, List.getElem?_append_right (by omega), hl, Nat.add_sub_cancel_left, ← List.getD_eq_getElem?_getD]
    have e4 : (ws.length + k) * 2 = ws.length * 2 + k * 2 := by omega
    have e5 : (ws.length + k) * 2 + 1 = ws.length * 2 + (k * 2 + 1) := by omega
    rw [g1, e5, e4, g2, g2]
    exact ⟨e0, e3, A, c, e1, e2.row hg (fun g hg => (own_row h (by decide) g hg).imp_left (Nat.le_trans hC))⟩
/-- append(v, nil...), whatever capacity nil is written with. -/
theorem run_append_nothing {P : Program} {w : World} (base : Nat) (t ty e : TypeId) (i : TypeInfo) (size c : Nat) (ht : P.underlying t = some (.slice e)) (hi : P.info? e = some i)
    (v : Value) (n : Nat) (xs : List Value) (hown : w.ownsRow base e size v n xs) : (Builtin.append_ #[t, t] ty #[v, .slice none 0 c]).run P w = .ok v w := by
  rcases hown.2 with ⟨rfl, rfl⟩ | ⟨g, cap, cur, rfl, _, _, hnc, _⟩
  · simp [Builtin.append_, run_underlying ht, sizeOf, typeInfo, hi, Builtin.lenOf, Builtin.firstCells]
  · simp [Builtin.append_, run_underlying ht, sizeOf, typeInfo, hi, Builtin.lenOf, Builtin.firstCells, hnc, storeCells]
section
variable {w : World} {o : Oper} {a : Act} {K : Act → World → Prop} {Q : Exit → Act → World → Prop} {ops : Array Oper} {rest : List Oper}
/-- append(bytes, more...). -/
theorem wp_append_big (s x : Operand)
    (ho : o.op = .call { callee := .builtin .append, args := #[s, x], argTypes := #[30, 30] })
    (base : Nat) (v : Value) (n : Nat) (xs : List UInt8) (hs : a.eval s = v) (hown : w.ownsRow base 5 1 v n (vals xs))
    (B : Nat) (A : Option Addr) (m c : Nat) (news : List UInt8) (hx : a.eval x = .slice A m c) (hr : Bsl w B A m c news)
    (hnm : n + m ≤ 100000000000000) (hbase : base ≤ w.heap.size)
    (h : ∀ v' w', w'.ownsRow base 5 1 v' (n + m) (vals (xs ++ news)) → w.grownBy w' v.ownBlock → K (a.put o.dst v') w') : o.wp Try.prog a w K Q := by
  obtain ⟨i0, hi, hz0, hz1, hz2⟩ := info_parts infoU8
  obtain ⟨h1, h2, h3, h4, h5⟩ := hr
  cases A with
  | none =>
    have hc := h4 rfl
    have hm : m = 0 := by omega
    subst hm; subst hc
    obtain rfl : news = [] := List.eq_nil_of_length_eq_zero h1
    have hrun := run_append_nothing (P := Try.prog) (w := w) base 30 o.type 5 i0 1 0 Try.underlying30 hi v n (vals xs) hown
    unfold Oper.wp
    simp [execOp, ho, resolve, invoke, builtin, hs, hx, hrun, Result.andThen]
    exact h v w (by simpa using hown) (World.grownBy.refl w _)
  | some ad =>
    refine wp_append_own w s x 30 ho base 5 i0 (.int .u8 0) 1 1 Try.underlying30 hi hz0 hz1 hz2 rfl (by decide) v n (vals xs) hs hown ad m c (vals news) hx (by simp [vals, h1]) (fun j u hu => ?_) (fun u hu => ?_) (by unfold maxLen; omega) (by omega) hbase ?_
    · obtain ⟨hj, rfl⟩ := vals_get hu
      obtain ⟨b, off, e, _, hc⟩ := h5 (by omega)
      cases e
      rw [← hc j hj]
      congr 1
      unfold Addr.add
      split <;> simp_all
    · obtain ⟨y, _, rfl⟩ := List.mem_map.1 hu
      rfl
    · intro v' w' h2 h3 _
      exact h v' w' (by rw [← vals_append]; exact h2) h3
/-- append(rows, s). -/
theorem wp_append_browC {C : Nat} (x y : Operand) (ho : o.op = .call { callee := .builtin .append, args := #[x, y], argTypes := #[22, 22] })
    (base : Nat) (hC : C ≤ base) (v : Value) (bl : List (List UInt8)) (hx : a.eval x = v) (hr : BRowC w C base v bl) (A : Option Addr) (c : Nat) (s : List UInt8) (b : Nat) (hy : a.eval y = .slice (some ⟨b, 0, none⟩) 1 1) (hb : Blk w b 30 #[.slice A s.length c]) (hs : BslO w C A s.length c s)
    (hn : bl.length ≤ 1000000) (hbase : base ≤ w.heap.size)
    (h : ∀ v' w', BRowC w' C base v' (bl ++ [s]) → w.grownBy w' v.ownBlock → (∀ g, v.ownBlock = some g → base ≤ g ∧ ∃ t cs, Blk w g t cs ∧ t ≠ 5) → K (a.put o.dst v') w') : o.wp Try.prog a w K Q := by
  obtain ⟨i0, hi0, hz0, hz1, hz2⟩ := info_parts infoSlB
  obtain ⟨xs, h1, h2⟩ := hr
  refine wp_append_own w x y 22 ho base 30 i0 (.slice none 0 0) 1 24 Try.underlying22 hi0 hz0 hz1 hz2 rfl (by decide) v bl.length xs hx h1 ⟨b, 0, none⟩ 1 1 [.slice A s.length c] hy rfl (fun j u hu => ?_) (fun u hu => ?_) (by unfold maxLen; omega) (by omega) hbase fun v' w' h6 h7 _ => ?_
  · rcases j with _ | j
    · obtain rfl : Value.slice A s.length c = u := by simpa using hu
      have e : (⟨b, 0, none⟩ : Addr).add 0 = ⟨b, 0, none⟩ := by simp [Addr.add]
      rw [e]
      exact hb.cell 0
    · simp at hu
  · obtain rfl : u = .slice A s.length c := by simpa using hu
    rfl
  · exact h v' w' (brow_app hC h1 h2 hs h6 h7) h7 (own_row h1 (by decide))
theorem wp_append_brow (x y : Operand) (ho : o.op = .call { callee := .builtin .append, args := #[x, y], argTypes := #[22, 22] })
    (base : Nat) (v : Value) (bl : List (List UInt8)) (hx : a.eval x = v) (hr : BRow w base v bl) (A : Option Addr) (c : Nat) (s : List UInt8) (b : Nat) (hy : a.eval y = .slice (some ⟨b, 0, none⟩) 1 1) (hb : Blk w b 30 #[.slice A s.length c]) (hs : BslO w base A s.length c s)
    (hn : bl.length ≤ 1000000) (hbase : base ≤ w.heap.size)
    (h : ∀ v' w', BRow w' base v' (bl ++ [s]) → w.grownBy w' v.ownBlock → (∀ g, v.ownBlock = some g → base ≤ g ∧ ∃ t cs, Blk w g t cs ∧ t ≠ 5) → K (a.put o.dst v') w') : o.wp Try.prog a w K Q := wp_append_browC x y ho base (Nat.le_refl _) v bl hx hr A c s b hy hb hs hn hbase h
theorem wpList_append_brow (hgd : o.guard = none) (x y : Operand) (ho : o.op = .call { callee := .builtin .append, args := #[x, y], argTypes := #[22, 22] })
    (base : Nat) (v : Value) (bl : List (List UInt8)) (hx : a.eval x = v) (hr : BRow w base v bl) (A : Option Addr) (c : Nat) (s : List UInt8) (b : Nat) (hy : a.eval y = .slice (some ⟨b, 0, none⟩) 1 1) (hb : Blk w b 30 #[.slice A s.length c]) (hs : BslO w base A s.length c s)
    (hn : bl.length ≤ 1000000) (hbase : base ≤ w.heap.size)
    (h : ∀ v' w', BRow w' base v' (bl ++ [s]) → w.grownBy w' v.ownBlock → (∀ g, v.ownBlock = some g → base ≤ g ∧ ∃ t cs, Blk w g t cs ∧ t ≠ 5) → wpList Try.prog ops Q rest (a.put o.dst v') w') : wpList Try.prog ops Q (o :: rest) a w :=
  wpList_plain hgd fun _ hK => wp_append_brow x y ho base v bl hx hr A c s b hy hb hs hn hbase fun v' w' h1 h2 h3 => hK _ _ (h v' w' h1 h2 h3)
/-- append(writes, more...). -/
theorem wp_append_wrowC {C : Nat} (x y : Operand) (ho : o.op = .call { callee := .builtin .append, args := #[x, y], argTypes := #[23, 23] })
    (base : Nat) (hC : C ≤ base) (v : Value) (ws : WrL) (hx : a.eval x = v) (hr : WRowC w C base v ws) (ys : List Value) (ws' : WrL) (ad : Addr) (m c : Nat) (hy : a.eval y = .slice (some ad) m c) (hm : ws'.length = m) (hyl : ys.length = m * 2) (hcell : ∀ j u, ys[j]? = some u → w.cell? (ad.add j) = some u)
    (h3 : ∀ i, i < ws'.length → (Lit.int .i64 (wr_ ws' i).1).wf = true ∧ ys.getD (i * 2) undef = .int .i64 (wr_ ws' i).1 ∧ ∃ A c, ys.getD (i * 2 + 1) undef = .slice A (wr_ ws' i).2.length c ∧ BslO w C A (wr_ ws' i).2.length c (wr_ ws' i).2)
    (hn : ws.length + m ≤ 1000000) (hbase : base ≤ w.heap.size)
    (h : ∀ v' w', WRowC w' C base v' (ws ++ ws') → w.grownBy w' v.ownBlock → (∀ g, v.ownBlock = some g → base ≤ g ∧ ∃ t cs, Blk w g t cs ∧ t ≠ 5) → K (a.put o.dst v') w') : o.wp Try.prog a w K Q := by
  obtain ⟨i0, hi0, hz0, hz1, hz2⟩ := info_parts infoWri
  obtain ⟨xs, h1, h2⟩ := hr
  subst hm
  refine wp_append_own w x y 23 ho base 55 i0 (.agg #[.int .i64 0, .slice none 0 0]) 2 32 Try.underlying23 hi0 hz0 hz1 hz2 rfl (by decide) v ws.length xs hx h1 ad ws'.length c ys hy hyl hcell (fun u hu => ?_) (by unfold maxLen; omega) (by omega) hbase fun v' w' h6 h7 _ => ?_
  · obtain ⟨j, hj, rfl⟩ := List.getElem_of_mem hu
    have e : ys[j] = ys.getD j undef := by rw [List.getD_eq_getElem?_getD, List.getElem?_eq_getElem hj]; rfl
    rw [e]
    obtain ⟨_, e3, A, c', e1, _⟩ := h3 (j / 2) (by omega)
    rcases Nat.mod_two_eq_zero_or_one j with h0 | h0
    · rw [show j = j / 2 * 2 by omega, e3]
      rfl
    · rw [show j = j / 2 * 2 + 1 by omega, e1]
      rfl
  · exact h v' w' (wrow_app hC h1 h2 h3 h6 h7) h7 (own_row h1 (by decide))
theorem wp_append_wrow (x y : Operand) (ho : o.op = .call { callee := .builtin .append, args := #[x, y], argTypes := #[23, 23] })
    (base : Nat) (v : Value) (ws : WrL) (hx : a.eval x = v) (hr : WRow w base v ws) (ys : List Value) (ws' : WrL) (ad : Addr) (m c : Nat) (hy : a.eval y = .slice (some ad) m c) (hm : ws'.length = m) (hyl : ys.length = m * 2) (hcell : ∀ j u, ys[j]? = some u → w.cell? (ad.add j) = some u)
    (h3 : ∀ i, i < ws'.length → (Lit.int .i64 (wr_ ws' i).1).wf = true ∧ ys.getD (i * 2) undef = .int .i64 (wr_ ws' i).1 ∧ ∃ A c, ys.getD (i * 2 + 1) undef = .slice A (wr_ ws' i).2.length c ∧ BslO w base A (wr_ ws' i).2.length c (wr_ ws' i).2)
    (hn : ws.length + m ≤ 1000000) (hbase : base ≤ w.heap.size)
    (h : ∀ v' w', WRow w' base v' (ws ++ ws') → w.grownBy w' v.ownBlock → (∀ g, v.ownBlock = some g → base ≤ g ∧ ∃ t cs, Blk w g t cs ∧ t ≠ 5) → K (a.put o.dst v') w') : o.wp Try.prog a w K Q := wp_append_wrowC x y ho base (Nat.le_refl _) v ws hx hr ys ws' ad m c hy hm hyl hcell h3 hn hbase h
theorem wpList_append_wrow (hgd : o.guard = none) (x y : Operand) (ho : o.op = .call { callee := .builtin .append, args := #[x, y], argTypes := #[23, 23] })
    (base : Nat) (v : Value) (ws : WrL) (hx : a.eval x = v) (hr : WRow w base v ws) (B : Nat) (A : Option Addr) (m c : Nat) (ws' : WrL) (hy : a.eval y = .slice A m c) (hs : Wts w B A m c ws') (hB : B ≤ base) (hn : ws.length + m ≤ 1000000) (hbase : base ≤ w.heap.size)
    (h : ∀ v' w', WRow w' base v' (ws ++ ws') → w.grownBy w' v.ownBlock → (∀ g, v.ownBlock = some g → base ≤ g ∧ ∃ t cs, Blk w g t cs ∧ t ≠ 5) → wpList Try.prog ops Q rest (a.put o.dst v') w') : wpList Try.prog ops Q (o :: rest) a w := by
  obtain ⟨h1, h2, h3, h4⟩ := hs
  rcases Nat.eq_zero_or_pos m with h0 | h0
  · subst h0
    have hws : ws' = [] := List.eq_nil_of_length_eq_zero h1
    subst hws
    cases A with
    | none =>
      obtain ⟨i0, hi0, hz0, hz1, hz2⟩ := info_parts infoWri
      obtain ⟨xs, h5, h6⟩ := id hr
      refine wpList_plain hgd fun K hK => ?_
      have hrun := run_append_nothing (P := Try.prog) (w := w) base 23 o.type 55 i0 2 c Try.underlying23 hi0 v ws.length xs h5
      unfold Oper.wp
      simp [execOp, ho, resolve, invoke, builtin, hx, hy, hrun, Result.andThen]
      exact hK _ _ (h v w (by rw [List.append_nil]; exact hr) (World.grownBy.refl w _) (own_row h5 (by decide)))
    | some ad =>
      exact wpList_plain hgd fun _ hK => wp_append_wrow x y ho base v ws hx hr [] [] ad 0 c hy rfl rfl (fun j u hu => by simp at hu) (fun i hi => absurd hi (Nat.not_lt_zero _)) hn hbase fun v' w' h1 h2 h3 => hK _ _ (h v' w' h1 h2 h3)
  · obtain ⟨b, off, rfl, hlt, hc⟩ := h4 h0
    have hadd : ∀ j, (⟨b, off, none⟩ : Addr).add j = ⟨b, off + j, none⟩ := fun j => by unfold Addr.add; split <;> simp_all
    -- the cells, as they lie
    let ys : List Value := (List.range (m * 2)).map fun j => (w.cell? ⟨b, off + j, none⟩).getD undef
    have hyl : ys.length = m * 2 := by simp [ys]
    have hyg : ∀ j, j < m * 2 → ys.getD j undef = (w.cell? ⟨b, off + j, none⟩).getD undef := fun j hj => by simp [ys, List.getD_eq_getElem?_getD, hj]
    refine wpList_plain hgd fun _ hK => wp_append_wrow x y ho base v ws hx hr ys ws' ⟨b, off, none⟩ m c hy h1 hyl (fun j u hu => ?_) (fun i hi => ?_) hn hbase fun v' w' h1 h2 h3 => hK _ _ (h v' w' h1 h2 h3)
    · have hj : j < m * 2 := by
        rcases Nat.lt_or_ge j ys.length with hj | hj
        · omega
        · rw [List.getElem?_eq_none hj] at hu; cases hu
      rw [hadd]
      have hg := hyg j hj
      rw [List.getD_eq_getElem?_getD, hu] at hg
      have hu' : u = (w.cell? ⟨b, off + j, none⟩).getD undef := hg
      obtain ⟨_, e3, A, c', e1, _⟩ := hc (j / 2) (by omega)
      rcases Nat.mod_two_eq_zero_or_one j with h0 | h0
      · rw [show j = j / 2 * 2 by omega] at hu' ⊢
        rw [hu', e3]
        rfl
      · rw [show j = j / 2 * 2 + 1 by omega] at hu' ⊢
        rw [← Nat.add_assoc] at hu' ⊢
        rw [hu', e1]
        rfl
    · obtain ⟨e0, e3, A, c', e1, e2⟩ := hc i (by omega)
      rw [hyg _ (by omega), hyg _ (by omega), e3, ← Nat.add_assoc, e1]
      refine ⟨e0, rfl, A, c', rfl, ?_⟩
      obtain ⟨h1, h2, h3, h4, h5⟩ := e2
      refine ⟨h1, h2, h3, h4, fun h0 => ?_⟩
      obtain ⟨b', off', e, hb, hc'⟩ := h5 h0
      exact ⟨b', off', e, by omega, .inl (by omega), hc'⟩
end
section
variable {l : List Oper} {Q : Exit → Act → World → Prop} {md : Region.Mode} {S : World → Prop} {i : Nat} {σ : List Nat} {o : Oper} {listed : Array Bool} {a : Act} {w : World}
/-- In a region that draws its order: append(bytes, more...), where its turn comes alone. -/
theorem wpI_append_big (hi : nthOp l i = some o) (hr : Region.ready md l.toArray listed = [i]) (hgd : o.guard = none) (s x : Operand)
    (ho : o.op = .call { callee := .builtin .append, args := #[s, x], argTypes := #[30, 30] })
    (base : Nat) (v : Value) (n : Nat) (xs : List UInt8) (hs : a.eval s = v) (hown : w.ownsRow base 5 1 v n (vals xs))
    (B : Nat) (A : Option Addr) (m c : Nat) (news : List UInt8) (hx : a.eval x = .slice A m c) (hb : Bsl w B A m c news)
    (hnm : n + m ≤ 100000000000000) (hbase : base ≤ w.heap.size)
    (h : ∀ v' w', w'.ownsRow base 5 1 v' (n + m) (vals (xs ++ news)) → w.grownBy w' v.ownBlock → S w' ∧ wpI Try.prog md S l Q σ (listed.setIfInBounds i true) (a.put o.dst v') w') : wpI Try.prog md S l Q (i :: σ) listed a w :=
  wpI_lone hi hr fun K hK => by
    rw [if_pos (by simp [Region.wanted, hgd])]
    exact wp_append_big s x ho base v n xs hs hown B A m c news hx hb hnm hbase fun v' w' h1 h2 => hK _ _ (h v' w' h1 h2).1 (h v' w' h1 h2).2
/-- append(rows, s). -/
theorem wpI_append_brow (hi : nthOp l i = some o) (hr : Region.ready md l.toArray listed = [i]) (hgd : o.guard = none) (x y : Operand) (ho : o.op = .call { callee := .builtin .append, args := #[x, y], argTypes := #[22, 22] })
    (base : Nat) (v : Value) (bl : List (List UInt8)) (hx : a.eval x = v) (hrw : BRow w base v bl) (A : Option Addr) (c : Nat) (s : List UInt8) (b : Nat) (hy : a.eval y = .slice (some ⟨b, 0, none⟩) 1 1) (hb : Blk w b 30 #[.slice A s.length c]) (hs : BslO w base A s.length c s)
    (hn : bl.length ≤ 1000000) (hbase : base ≤ w.heap.size)
    (h : ∀ v' w', BRow w' base v' (bl ++ [s]) → w.grownBy w' v.ownBlock → (∀ g, v.ownBlock = some g → base ≤ g ∧ ∃ t cs, Blk w g t cs ∧ t = 30) → S w' ∧ wpI Try.prog md S l Q σ (listed.setIfInBounds i true) (a.put o.dst v') w') : wpI Try.prog md S l Q (i :: σ) listed a w :=
  wpI_lone hi hr fun K hK => by
    rw [if_pos (by simp [Region.wanted, hgd])]
    have hty : ∀ g, v.ownBlock = some g → base ≤ g ∧ ∃ t cs, Blk w g t cs ∧ t = 30 := by
      obtain ⟨xs, h1, _⟩ := hrw
      intro g hg
      obtain ⟨_, ⟨rfl, _⟩ | ⟨g', cap, cur, rfl, h2, h3, _⟩⟩ := h1
      · cases hg
      · cases hg
        exact ⟨h2, _, _, h3, rfl⟩
    exact wp_append_brow x y ho base v bl hx hrw A c s b hy hb hs hn hbase fun v' w' h1 h2 _ => hK _ _ (h v' w' h1 h2 hty).1 (h v' w' h1 h2 hty).2
/-- append(writes, more...). -/
theorem wpI_append_wrow (hi : nthOp l i = some o) (hr : Region.ready md l.toArray listed = [i]) (hgd : o.guard = none) (x y : Operand) (ho : o.op = .call { callee := .builtin .append, args := #[x, y], argTypes := #[23, 23] })
    (base : Nat) (v : Value) (ws : WrL) (hx : a.eval x = v) (hrw : WRow w base v ws) (ys : List Value) (ws' : WrL) (ad : Addr) (m c : Nat) (hy : a.eval y = .slice (some ad) m c) (hm : ws'.length = m) (hyl : ys.length = m * 2) (hcell : ∀ j u, ys[j]? = some u → w.cell? (ad.add j) = some u)
    (h3 : ∀ i, i < ws'.length → (Lit.int .i64 (wr_ ws' i).1).wf = true ∧ ys.getD (i * 2) undef = .int .i64 (wr_ ws' i).1 ∧ ∃ A c, ys.getD (i * 2 + 1) undef = .slice A (wr_ ws' i).2.length c ∧ BslO w base A (wr_ ws' i).2.length c (wr_ ws' i).2)
    (hn : ws.length + m ≤ 1000000) (hbase : base ≤ w.heap.size)
    (h : ∀ v' w', WRow w' base v' (ws ++ ws') → w.grownBy w' v.ownBlock → (∀ g, v.ownBlock = some g → base ≤ g ∧ ∃ t cs, Blk w g t cs ∧ t = 55) → S w' ∧ wpI Try.prog md S l Q σ (listed.setIfInBounds i true) (a.put o.dst v') w') : wpI Try.prog md S l Q (i :: σ) listed a w :=
  wpI_lone hi hr fun K hK => by
    rw [if_pos (by simp [Region.wanted, hgd])]
    have hty : ∀ g, v.ownBlock = some g → base ≤ g ∧ ∃ t cs, Blk w g t cs ∧ t = 55 := by
      obtain ⟨xs, h1, _⟩ := hrw
      intro g hg
      obtain ⟨_, ⟨rfl, _⟩ | ⟨g', cap, cur, rfl, h2, h3, _⟩⟩ := h1
      · cases hg
      · cases hg
        exact ⟨h2, _, _, h3, rfl⟩
    exact wp_append_wrow x y ho base v ws hx hrw ys ws' ad m c hy hm hyl hcell h3 hn hbase fun v' w' h1 h2 _ => hK _ _ (h v' w' h1 h2 hty).1 (h v' w' h1 h2 hty).2
/-- append(nil, bytes...), where its turn comes alone. -/
theorem wpS_append_new (hi : nthOp l i = some o) (hr : Region.ready md l.toArray listed = [i]) (hgd : o.guard = none) (s x : Operand)
    (ho : o.op = .call { callee := .builtin .append, args := #[s, x], argTypes := #[30, 30] }) (hs : a.eval s = .slice none 0 0)
    (B : Nat) (A : Option Addr) (m c : Nat) (news : List UInt8) (hx : a.eval x = .slice A m c) (hb : Bsl w B A m c news) (hm : m ≤ 100000000000000)
    (h : ∀ v' w', w'.ownsRow w.heap.size 5 1 v' m (vals news) → Below w.heap.size w w' → wpS Try.prog md l Q σ (listed.setIfInBounds i true) (a.put o.dst v') w') : wpS Try.prog md l Q (i :: σ) listed a w :=
  wpS_lone hi hr fun K hK => by
    rw [if_pos (by simp [Region.wanted, hgd])]
    refine wp_append_big s x ho w.heap.size (.slice none 0 0) 0 [] hs (own_nil w _) B A m c news hx hb (by omega) (Nat.le_refl _) fun v' w' h1 h2 => ?_
    have b2 : Below w.heap.size w w' := ⟨h2.os, h2.tape, h2.output, h2.size, fun i hi => h2.block i hi (by simp [Value.ownBlock])⟩
    rw [Nat.zero_add, List.nil_append] at h1
    exact hK _ _ (Stays.of_below b2) (h v' w' h1 b2)
end
end Go.Proofs.Ytgpojnhhcobcbaa
