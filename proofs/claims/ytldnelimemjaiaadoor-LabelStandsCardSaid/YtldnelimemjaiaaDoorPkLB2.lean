/-
  Texts of one seat, one behind the other.
-/
import Derived.Lib.AppendZeros
import Derived.Maps.OwnSet
import Derived.Maps.Views
import Derived.Carry
import Derived.Laws.CopyOwn
import Derived.RegionTactic
import Derived.Deep.RegionWith
import Derived.Laws.BitsAllLaws
import Derived.StillTailTactics
import Derived.Outline
import Derived.Test.YtldnelimemjaiaaDoorPkLB1
/-
  Words for rows of the call's own whose cells are slices of bytes, or writes; appends to them.
-/
namespace Go.Proofs.YtldnelimemjaiaaDoor
open Go.RowKit Go.Shelf
set_option maxRecDepth 100000

/-- A slice that reads as s, and lies below block B, or in a block of bytes. -/
def BslO (w : World) (B : Nat) (A : Option Addr) (n c : Nat) (s : List UInt8) : Prop :=
  s.length = n ∧ n ≤ c ∧ c ≤ maxLen ∧ (A = none → c = 0) ∧
    (0 < n → ∃ b off, A = some ⟨b, off, none⟩ ∧ b < w.heap.size ∧ (b < B ∨ ∃ cs, Blk w b 5 cs) ∧ ∀ i (h : i < s.length), w.cell? ⟨b, off + i, none⟩ = some (.int .u8 ((s[i]).toNat : Int)))
section
variable {w w' : World} {B n c : Nat} {A : Option Addr} {s : List UInt8}
theorem BslO.bsl (h : BslO w B A n c s) : Bsl w w.heap.size A n c s := by
  obtain ⟨h1, h2, h3, h4, h5⟩ := h
  refine ⟨h1, h2, h3, h4, fun h0 => ?_⟩
  obtain ⟨b, off, e, hb, _, hc⟩ := h5 h0
  exact ⟨b, off, e, hb, hc⟩
theorem BslO.of (h : Bsl w B A n c s) (hB : B ≤ w.heap.size) : BslO w B A n c s := by
  obtain ⟨h1, h2, h3, h4, h5⟩ := h
  refine ⟨h1, h2, h3, h4, fun h0 => ?_⟩
  obtain ⟨b, off, e, hb, hc⟩ := h5 h0
  exact ⟨b, off, e, by omega, .inl hb, hc⟩
theorem BslO.own {base : Nat} (h : w.ownsRow base 5 1 (.slice A n c) n (vals s)) (B : Nat) : BslO w B A n c s := by
  have hb := own_bsl h
  obtain ⟨h1, h2, h3, h4, h5⟩ := hb
  refine ⟨h1, h2, h3, h4, fun h0 => ?_⟩
  obtain ⟨b, off, e, hb, hc⟩ := h5 h0
  subst e
  obtain ⟨_, ⟨e, _⟩ | ⟨g, cap, cur, e, _, hh, _⟩⟩ := h
  · cases e
  · cases e
    exact ⟨b, 0, rfl, hb, .inr ⟨cur, hh⟩, hc⟩
theorem BslO.below (h : BslO w B A n c s) (hb : Below w.heap.size w w') : BslO w' B A n c s := by
  obtain ⟨h1, h2, h3, h4, h5⟩ := h
  refine ⟨h1, h2, h3, h4, fun h0 => ?_⟩
  obtain ⟨b, off, e, hlt, ho, hc⟩ := h5 h0
  exact ⟨b, off, e, Nat.lt_of_lt_of_le hlt hb.size, ho.imp id fun ⟨cs, hcs⟩ => ⟨cs, hcs.below hb hlt⟩, fun i hi => (hb.cell (p := ⟨b, off + i, none⟩) hlt).trans (hc i hi)⟩
/-- Another block of one's own, that is none of bytes, is written. -/
theorem BslO.row {row : Option Nat} (h : BslO w B A n c s) (hg : w.grownBy w' row) (hr : ∀ g, row = some g → B ≤ g ∧ ∃ t cs, Blk w g t cs ∧ t ≠ 5) : BslO w' B A n c s := by
  obtain ⟨h1, h2, h3, h4, h5⟩ := h
  refine ⟨h1, h2, h3, h4, fun h0 => ?_⟩
  obtain ⟨b, off, e, hlt, ho, hc⟩ := h5 h0
  have hne : some b ≠ row := fun er => by
    obtain ⟨h6, t, cs, h7, h8⟩ := hr b er.symm
    rcases ho with ho | ⟨cs', h9⟩
    · omega
    · exact h9.ne h7 (fun e => h8 e.symm) rfl
  have hbk := hg.block b hlt hne
  refine ⟨b, off, e, Nat.lt_of_lt_of_le hlt hg.size, ho.imp id fun ⟨cs, hcs⟩ => ⟨cs, hbk.trans hcs⟩, fun i hi => ?_⟩
  rw [← hc i hi]
  exact World.cell?_of_block (a := ⟨b, off + i, none⟩) hbk
end
/-- What an append writes is the row's own block. -/
theorem own_row {w : World} {base : Nat} {e : TypeId} {size : Nat} {v : Value} {n : Nat} {xs : List Value} (h : w.ownsRow base e size v n xs) (he : e ≠ 5) : ∀ g, v.ownBlock = some g → base ≤ g ∧ ∃ t cs, Blk w g t cs ∧ t ≠ 5 := by
  rintro g hg
  obtain ⟨_, ⟨rfl, _⟩ | ⟨g', cap, cur, rfl, h1, h2, _⟩⟩ := h
  · cases hg
  · cases hg
    exact ⟨h1, _, _, h2, he⟩
/-- A row of the call's own, of slices of bytes. -/
def BRowC (w : World) (C base : Nat) (v : Value) (bl : List (List UInt8)) : Prop :=
  ∃ xs, w.ownsRow base 44 1 v bl.length xs ∧ ∀ i, i < bl.length → ∃ A c, xs.getD i undef = .slice A (bl.getD i []).length c ∧ BslO w C A (bl.getD i []).length c (bl.getD i [])
abbrev BRow (w : World) (base : Nat) (v : Value) (bl : List (List UInt8)) : Prop := BRowC w base base v bl
/-- A row of the call's own, of writes. -/
def WRowC (w : World) (C base : Nat) (v : Value) (ws : WrL) : Prop :=
  ∃ xs, w.ownsRow base 64 2 v ws.length xs ∧ ∀ i, i < ws.length → (Lit.int .i64 (wr_ ws i).1).wf = true ∧ xs.getD (i * 2) undef = .int .i64 (wr_ ws i).1 ∧ ∃ A c, xs.getD (i * 2 + 1) undef = .slice A (wr_ ws i).2.length c ∧ BslO w C A (wr_ ws i).2.length c (wr_ ws i).2
abbrev WRow (w : World) (base : Nat) (v : Value) (ws : WrL) : Prop := WRowC w base base v ws
theorem brow_nil (w : World) (base : Nat) {C : Nat} : BRowC w C base (.slice none 0 0) [] := ⟨[], World.ownsRow_nil _ _ _ _, fun _ h => absurd h (Nat.not_lt_zero _)⟩
theorem wrow_nil (w : World) (base : Nat) {C : Nat} : WRowC w C base (.slice none 0 0) [] := ⟨[], ⟨by simp, .inl ⟨rfl, rfl⟩⟩, fun _ h => absurd h (Nat.not_lt_zero _)⟩
theorem BRowC.below {w w' : World} {C base : Nat} {v : Value} {bl : List (List UInt8)} (h : BRowC w C base v bl) (hb : Below w.heap.size w w') : BRowC w' C base v bl := by
  obtain ⟨xs, h1, h2⟩ := h
  refine ⟨xs, own_below h1 hb, fun i hi => ?_⟩
  obtain ⟨A, c, h3, h4⟩ := h2 i hi
  exact ⟨A, c, h3, h4.below hb⟩
theorem WRowC.below {w w' : World} {C base : Nat} {v : Value} {ws : WrL} (h : WRowC w C base v ws) (hb : Below w.heap.size w w') : WRowC w' C base v ws := by
  obtain ⟨xs, h1, h2⟩ := h
  refine ⟨xs, own_below h1 hb, fun i hi => ?_⟩
  obtain ⟨h0, h5, A, c, h3, h4⟩ := h2 i hi
  exact ⟨h0, h5, A, c, h3, h4.below hb⟩
/-- Another block of one's own, that is none of bytes, is written. -/
theorem BRowC.row {w w' : World} {C base : Nat} {v : Value} {bl : List (List UInt8)} (h : BRowC w C base v bl) {g : Nat} (hg : w.grownBy w' (some g)) (hB : C ≤ g) {t : TypeId} {cs : Array Value} (hx : Blk w g t cs) (ht : t ≠ 5) (hne : t ≠ 44) : BRowC w' C base v bl := by
  obtain ⟨xs, h1, h2⟩ := h
  refine ⟨xs, own_other h1 hg fun k hk e => ?_, fun i hi => ?_⟩
  · obtain ⟨_, ⟨rfl, _⟩ | ⟨g', cap, cur, rfl, _, h3, _⟩⟩ := h1
    · cases hk
    · exact (show Blk w g' _ cur from h3).ne hx (Ne.symm hne) ((Option.some.inj hk).trans e)
  · obtain ⟨A, c, h3, h4⟩ := h2 i hi
    exact ⟨A, c, h3, h4.row hg fun k hk => by cases hk; exact ⟨hB, t, cs, hx, ht⟩⟩
theorem WRowC.row {w w' : World} {C base : Nat} {v : Value} {ws : WrL} (h : WRowC w C base v ws) {g : Nat} (hg : w.grownBy w' (some g)) (hB : C ≤ g) {t : TypeId} {cs : Array Value} (hx : Blk w g t cs) (ht : t ≠ 5) (hne : t ≠ 64) : WRowC w' C base v ws := by
  obtain ⟨xs, h1, h2⟩ := h
  refine ⟨xs, own_other h1 hg fun k hk e => ?_, fun i hi => ?_⟩
  · obtain ⟨_, ⟨rfl, _⟩ | ⟨g', cap, cur, rfl, _, h3, _⟩⟩ := h1
    · cases hk
    · exact (show Blk w g' _ cur from h3).ne hx (Ne.symm hne) ((Option.some.inj hk).trans e)
  · obtain ⟨h0, h5, A, c, h3, h4⟩ := h2 i hi
    exact ⟨h0, h5, A, c, h3, h4.row hg fun k hk => by cases hk; exact ⟨hB, t, cs, hx, ht⟩⟩
theorem BRowC.bls {w : World} {C base : Nat} {v : Value} {bl : List (List UInt8)} (h : BRowC w C base v bl) : ∃ a c, v = .slice a bl.length c ∧ Bls w w.heap.size a bl.length c bl := by
  obtain ⟨xs, h1, h2⟩ := h
  obtain ⟨hl, ⟨rfl, h0⟩ | ⟨g, cap, cur, rfl, _, h3, h4, h5, h6, h7⟩⟩ := id h1
  · have : bl = [] := List.eq_nil_of_length_eq_zero h0
    subst this
    exact ⟨none, 0, rfl, bls_nil _ _⟩
  · refine ⟨_, _, rfl, rfl, h4, h5, fun _ => ⟨g, 0, rfl, (Array.getElem?_eq_some_iff.1 h3).1, fun i hi => ?_⟩⟩
    obtain ⟨A, c, e1, e2⟩ := h2 i hi
    refine ⟨A, c, ?_, e2.bsl⟩
    rw [Nat.zero_add, cell_of_row w g i cur 44 (0, 0) h3, ← Array.getElem?_toList]
    have : cur.toList[i]? = xs[i]? := by rw [← h7, List.getElem?_take_of_lt (by omega)]
    rw [this, ← e1, List.getD_eq_getElem?_getD, List.getElem?_eq_getElem (by omega)]
    rfl
theorem WRowC.wts {w : World} {C base : Nat} {v : Value} {ws : WrL} (h : WRowC w C base v ws) : ∃ a c, v = .slice a ws.length c ∧ Wts w w.heap.size a ws.length c ws := by
  obtain ⟨xs, h1, h2⟩ := h
  obtain ⟨hl, ⟨rfl, h0⟩ | ⟨g, cap, cur, rfl, _, h3, h4, h5, h6, h7⟩⟩ := id h1
  · have : ws = [] := List.eq_nil_of_length_eq_zero h0
    subst this
    exact ⟨none, 0, rfl, wts_nil _ _⟩
  · refine ⟨_, _, rfl, rfl, h4, h5, fun _ => ⟨g, 0, rfl, (Array.getElem?_eq_some_iff.1 h3).1, fun i hi => ?_⟩⟩
    obtain ⟨e0, e3, A, c, e1, e2⟩ := h2 i hi
    have hget : ∀ j, j < ws.length * 2 → cur.toList[j]? = some (xs.getD j undef) := fun j hj => by
      have : cur.toList[j]? = xs[j]? := by rw [← h7, List.getElem?_take_of_lt hj]
      rw [this, List.getD_eq_getElem?_getD, List.getElem?_eq_getElem (by omega)]
      rfl
    refine ⟨e0, ?_, A, c, ?_, e2.bsl⟩
    · rw [Nat.zero_add, cell_of_row w g _ cur 64 (0, 0) h3, ← Array.getElem?_toList, hget _ (by omega), e3]
    · rw [Nat.zero_add, cell_of_row w g _ cur 64 (0, 0) h3, ← Array.getElem?_toList, hget _ (by omega), e1]
/-- Behind an append: the lists, one behind the other. -/
theorem brow_app {w w' : World} {C base : Nat} {v v' : Value} {bl : List (List UInt8)} {xs : List Value} {A : Option Addr} {c : Nat} {s : List UInt8} (hC : C ≤ base) (h : w.ownsRow base 44 1 v bl.length xs) (h2 : ∀ i, i < bl.length → ∃ A c, xs.getD i undef = .slice A (bl.getD i []).length c ∧ BslO w C A (bl.getD i []).length c (bl.getD i []))
    (hs : BslO w C A s.length c s) (ho : w'.ownsRow base 44 1 v' (bl.length + 1) (xs ++ [.slice A s.length c])) (hg : w.grownBy w' v.ownBlock) : BRowC w' C base v' (bl ++ [s]) := by
  have hl : xs.length = bl.length := by have := h.1; omega
  refine ⟨_, by rw [List.length_append]; exact ho, fun i hi => ?_⟩
  rw [List.length_append] at hi
  simp only [List.length_cons, List.length_nil] at hi
  rcases Nat.lt_or_ge i bl.length with h3 | h3
  · obtain ⟨A', c', e1, e2⟩ := h2 i h3
    have g1 : (bl ++ [s]).getD i [] = bl.getD i [] := by rw [List.getD_eq_getElem?_getD, List.getElem?_append_left h3, ← List.getD_eq_getElem?_getD]
    have g2 : (xs ++ [Value.slice A s.length c]).getD i undef = xs.getD i undef := by rw [List.getD_eq_getElem?_getD, List.getElem?_append_left (by omega), ← List.getD_eq_getElem?_getD]
    rw [g1, g2]
    exact ⟨A', c', e1, e2.row hg (fun g hg => (own_row h (by decide) g hg).imp_left (Nat.le_trans hC))⟩
  · obtain rfl : i = bl.length := by omega
    have g1 : (bl ++ [s]).getD bl.length [] = s := by rw [List.getD_eq_getElem?_getD, List.getElem?_append_right (Nat.le_refl _), Nat.sub_self]; rfl
    have g2 : (xs ++ [Value.slice A s.length c]).getD bl.length undef = .slice A s.length c := by rw [List.getD_eq_getElem?_getD, List.getElem?_append_right (by omega), hl, Nat.sub_self]; rfl
    rw [g1, g2]
    exact ⟨A, c, rfl, hs.row hg (fun g hg => (own_row h (by decide) g hg).imp_left (Nat.le_trans hC))⟩
theorem wrow_app {w w' : World} {C base : Nat} {v v' : Value} {ws ws' : WrL} {xs ys : List Value} (hC : C ≤ base) (h : w.ownsRow base 64 2 v ws.length xs)
    (h2 : ∀ i, i < ws.length → (Lit.int .i64 (wr_ ws i).1).wf = true ∧ xs.getD (i * 2) undef = .int .i64 (wr_ ws i).1 ∧ ∃ A c, xs.getD (i * 2 + 1) undef = .slice A (wr_ ws i).2.length c ∧ BslO w C A (wr_ ws i).2.length c (wr_ ws i).2)
    (h3 : ∀ i, i < ws'.length → (Lit.int .i64 (wr_ ws' i).1).wf = true ∧ ys.getD (i * 2) undef = .int .i64 (wr_ ws' i).1 ∧ ∃ A c, ys.getD (i * 2 + 1) undef = .slice A (wr_ ws' i).2.length c ∧ BslO w C A (wr_ ws' i).2.length c (wr_ ws' i).2)
    (ho : w'.ownsRow base 64 2 v' (ws.length + ws'.length) (xs ++ ys)) (hg : w.grownBy w' v.ownBlock) : WRowC w' C base v' (ws ++ ws') := by
  have hl : xs.length = ws.length * 2 := h.1
  refine ⟨_, by rw [List.length_append]; exact ho, fun i hi => ?_⟩
  rw [List.length_append] at hi
  rcases Nat.lt_or_ge i ws.length with h4 | h4
  · obtain ⟨e0, e3, A, c, e1, e2⟩ := h2 i h4
    have g1 : wr_ (ws ++ ws') i = wr_ ws i := by unfold wr_; rw [List.getD_eq_getElem?_getD, List.getElem?_append_left h4, ← List.getD_eq_getElem?_getD]
    have g2 : ∀ j, j < ws.length * 2 → (xs ++ ys).getD j undef = xs.getD j undef := fun j hj => by rw [List.getD_eq_getElem?_getD, List.getElem?_append_left (by omega), ← List.getD_eq_getElem?_getD]
    rw [g1, g2 _ (by omega), g2 _ (by omega)]
    exact ⟨e0, e3, A, c, e1, e2.row hg (fun g hg => (own_row h (by decide) g hg).imp_left (Nat.le_trans hC))⟩
  · obtain ⟨k, rfl⟩ : ∃ k, i = ws.length + k := ⟨i - ws.length, by omega⟩
    obtain ⟨e0, e3, A, c, e1, e2⟩ := h3 k (by omega)
    have g1 : wr_ (ws ++ ws') (ws.length + k) = wr_ ws' k := by
      unfold wr_
      rw [List.getD_eq_getElem?_getD, List.getElem?_append_right (by omega), Nat.add_sub_cancel_left, ← List.getD_eq_getElem?_getD]
    have g2 : ∀ j, (xs ++ ys).getD (ws.length * 2 + j) undef = ys.getD j undef := fun j => by
      rw [List.getD_eq_getElem?_getD, List.getElem?_append_right (by omega), hl, Nat.add_sub_cancel_left, ← List.getD_eq_getElem?_getD]
    have e4 : (ws.length + k) * 2 = ws.length * 2 + k * 2 := by omega
    have e5 : (ws.length + k) * 2 + 1 = ws.length * 2 + (k * 2 + 1) := by omega
    rw [g1, e5, e4, g2, g2]
    exact ⟨e0, e3, A, c, e1, e2.row hg (fun g hg => (own_row h (by decide) g hg).imp_left (Nat.le_trans hC))⟩
/-- append(v, nil...), whatever capacity nil is written with. -/
theorem run_append_nothing {P : Program} {w : World} (base : Nat) (t ty e : TypeId) (i : TypeInfo) (size c : Nat) (ht : P.underlying t = some (.slice e)) (hi : P.info? e = some i)
    (v : Value) (n : Nat) (xs : List Value) (hown : w.ownsRow base e size v n xs) : (Builtin.append_ #[t, t] ty #[v, .slice none 0 c]).run P w = .ok v w := by
  rcases hown.2 with ⟨rfl, rfl⟩ | ⟨g, cap, cur, rfl, _, _, hnc, _⟩
  · simp [Builtin.append_, run_underlying ht, sizeOf, typeInfo, hi, Builtin.lenOf, Builtin.firstCells]
  · simp [Builtin.append_, run_underlying ht, sizeOf, typeInfo, hi, Builtin.lenOf, Builtin.firstCells, hnc, storeCells]
section
variable {w : World} {o : Oper} {a : Act} {K : Act → World → Prop} {Q : Exit → Act → World → Prop} {ops : Array Oper} {rest : List Oper}
/-- append(bytes, more...). -/
theorem wp_append_big (s x : Operand)
    (ho : o.op = .call { callee := .builtin .append, args := #[s, x], argTypes := #[44, 44] })
    (base : Nat) (v : Value) (n : Nat) (xs : List UInt8) (hs : a.eval s = v) (hown : w.ownsRow base 5 1 v n (vals xs))
    (B : Nat) (A : Option Addr) (m c : Nat) (news : List UInt8) (hx : a.eval x = .slice A m c) (hr : Bsl w B A m c news)
    (hnm : n + m ≤ 100000000000000) (hbase : base ≤ w.heap.size)
    (h : ∀ v' w', w'.ownsRow base 5 1 v' (n + m) (vals (xs ++ news)) → w.grownBy w' v.ownBlock → K (a.put o.dst v') w') : o.wp Tryd.prog a w K Q := by
  obtain ⟨i0, hi, hz0, hz1, hz2⟩ := info_parts infoU8
  obtain ⟨h1, h2, h3, h4, h5⟩ := hr
  cases A with
  | none =>
    have hc := h4 rfl
    have hm : m = 0 := by omega
    subst hm; subst hc
    obtain rfl : news = [] := List.eq_nil_of_length_eq_zero h1
    have hrun := run_append_nothing (P := Tryd.prog) (w := w) base 44 o.type 5 i0 1 0 Tryd.underlying44 hi v n (vals xs) hown
    unfold Oper.wp
    simp [execOp, ho, resolve, invoke, builtin, hs, hx, hrun, Result.andThen]
    exact h v w (by simpa using hown) (World.grownBy.refl w _)
  | some ad =>
    refine wp_append_own w s x 44 ho base 5 i0 (.int .u8 0) 1 1 Tryd.underlying44 hi hz0 hz1 hz2 rfl (by decide) v n (vals xs) hs hown ad m c (vals news) hx (by simp [vals, h1]) (fun j u hu => ?_) (fun u hu => ?_) (by unfold maxLen; omega) (by omega) hbase ?_
    · obtain ⟨hj, rfl⟩ := vals_get hu
      obtain ⟨b, off, e, _, hc⟩ := h5 (by omega)
      cases e
      rw [← hc j hj]
      congr 1
      unfold Addr.add
      split <;> simp_all
    · obtain ⟨y, _, rfl⟩ := List.mem_map.1 hu
      rfl
    · intro v' w' h2 h3 _
      exact h v' w' (by rw [← vals_append]; exact h2) h3
/-- append(rows, s). -/
theorem wp_append_browC {C : Nat} (x y : Operand) (ho : o.op = .call { callee := .builtin .append, args := #[x, y], argTypes := #[27, 27] })
    (base : Nat) (hC : C ≤ base) (v : Value) (bl : List (List UInt8)) (hx : a.eval x = v) (hr : BRowC w C base v bl) (A : Option Addr) (c : Nat) (s : List UInt8) (b : Nat) (hy : a.eval y = .slice (some ⟨b, 0, none⟩) 1 1) (hb : Blk w b 44 #[.slice A s.length c]) (hs : BslO w C A s.length c s)
    (hn : bl.length ≤ 1000000) (hbase : base ≤ w.heap.size)
    (h : ∀ v' w', BRowC w' C base v' (bl ++ [s]) → w.grownBy w' v.ownBlock → (∀ g, v.ownBlock = some g → base ≤ g ∧ ∃ t cs, Blk w g t cs ∧ t ≠ 5) → K (a.put o.dst v') w') : o.wp Tryd.prog a w K Q := by
  obtain ⟨i0, hi0, hz0, hz1, hz2⟩ := info_parts infoSlB
  obtain ⟨xs, h1, h2⟩ := hr
  refine wp_append_own w x y 27 ho base 44 i0 (.slice none 0 0) 1 24 Tryd.underlying27 hi0 hz0 hz1 hz2 rfl (by decide) v bl.length xs hx h1 ⟨b, 0, none⟩ 1 1 [.slice A s.length c] hy rfl (fun j u hu => ?_) (fun u hu => ?_) (by unfold maxLen; omega) (by omega) hbase fun v' w' h6 h7 _ => ?_
  · rcases j with _ | j
    · obtain rfl : Value.slice A s.length c = u := by simpa using hu
      have e : (⟨b, 0, none⟩ : Addr).add 0 = ⟨b, 0, none⟩ := by simp [Addr.add]
      rw [e]
      exact hb.cell 0
    · simp at hu
  · obtain rfl : u = .slice A s.length c := by simpa using hu
    rfl
  · exact h v' w' (brow_app hC h1 h2 hs h6 h7) h7 (own_row h1 (by decide))
theorem wp_append_brow (x y : Operand) (ho : o.op = .call { callee := .builtin .append, args := #[x, y], argTypes := #[27, 27] })
    (base : Nat) (v : Value) (bl : List (List UInt8)) (hx : a.eval x = v) (hr : BRow w base v bl) (A : Option Addr) (c : Nat) (s : List UInt8) (b : Nat) (hy : a.eval y = .slice (some ⟨b, 0, none⟩) 1 1) (hb : Blk w b 44 #[.slice A s.length c]) (hs : BslO w base A s.length c s)
    (hn : bl.length ≤ 1000000) (hbase : base ≤ w.heap.size)
    (h : ∀ v' w', BRow w' base v' (bl ++ [s]) → w.grownBy w' v.ownBlock → (∀ g, v.ownBlock = some g → base ≤ g ∧ ∃ t cs, Blk w g t cs ∧ t ≠ 5) → K (a.put o.dst v') w') : o.wp Tryd.prog a w K Q := wp_append_browC x y ho base (Nat.le_refl _) v bl hx hr A c s b hy hb hs hn hbase h
theorem wpList_append_brow (hgd : o.guard = none) (x y : Operand) (ho : o.op = .call { callee := .builtin .append, args := #[x, y], argTypes := #[27, 27] })
    (base : Nat) (v : Value) (bl : List (List UInt8)) (hx : a.eval x = v) (hr : BRow w base v bl) (A : Option Addr) (c : Nat) (s : List UInt8) (b : Nat) (hy : a.eval y = .slice (some ⟨b, 0, none⟩) 1 1) (hb : Blk w b 44 #[.slice A s.length c]) (hs : BslO w base A s.length c s)
    (hn : bl.length ≤ 1000000) (hbase : base ≤ w.heap.size)
    (h : ∀ v' w', BRow w' base v' (bl ++ [s]) → w.grownBy w' v.ownBlock → (∀ g, v.ownBlock = some g → base ≤ g ∧ ∃ t cs, Blk w g t cs ∧ t ≠ 5) → wpList Tryd.prog ops Q rest (a.put o.dst v') w') : wpList Tryd.prog ops Q (o :: rest) a w :=
  wpList_plain hgd fun _ hK => wp_append_brow x y ho base v bl hx hr A c s b hy hb hs hn hbase fun v' w' h1 h2 h3 => hK _ _ (h v' w' h1 h2 h3)
/-- append(writes, more...). -/
theorem wp_append_wrowC {C : Nat} (x y : Operand) (ho : o.op = .call { callee := .builtin .append, args := #[x, y], argTypes := #[28, 28] })
    (base : Nat) (hC : C ≤ base) (v : Value) (ws : WrL) (hx : a.eval x = v) (hr : WRowC w C base v ws) (ys : List Value) (ws' : WrL) (ad : Addr) (m c : Nat) (hy : a.eval y = .slice (some ad) m c) (hm : ws'.length = m) (hyl : ys.length = m * 2) (hcell : ∀ j u, ys[j]? = some u → w.cell? (ad.add j) = some u)
    (h3 : ∀ i, i < ws'.length → (Lit.int .i64 (wr_ ws' i).1).wf = true ∧ ys.getD (i * 2) undef = .int .i64 (wr_ ws' i).1 ∧ ∃ A c, ys.getD (i * 2 + 1) undef = .slice A (wr_ ws' i).2.length c ∧ BslO w C A (wr_ ws' i).2.length c (wr_ ws' i).2)
    (hn : ws.length + m ≤ 1000000) (hbase : base ≤ w.heap.size)
    (h : ∀ v' w', WRowC w' C base v' (ws ++ ws') → w.grownBy w' v.ownBlock → (∀ g, v.ownBlock = some g → base ≤ g ∧ ∃ t cs, Blk w g t cs ∧ t ≠ 5) → K (a.put o.dst v') w') : o.wp Tryd.prog a w K Q := by
  obtain ⟨i0, hi0, hz0, hz1, hz2⟩ := info_parts infoWri
  obtain ⟨xs, h1, h2⟩ := hr
  subst hm
  refine wp_append_own w x y 28 ho base 64 i0 (.agg #[.int .i64 0, .slice none 0 0]) 2 32 Tryd.underlying28 hi0 hz0 hz1 hz2 rfl (by decide) v ws.length xs hx h1 ad ws'.length c ys hy hyl hcell (fun u hu => ?_) (by unfold maxLen; omega) (by omega) hbase fun v' w' h6 h7 _ => ?_
  · obtain ⟨j, hj, rfl⟩ := List.getElem_of_mem hu
    have e : ys[j] = ys.getD j undef := by rw [List.getD_eq_getElem?_getD, List.getElem?_eq_getElem hj]; rfl
    rw [e]
    obtain ⟨_, e3, A, c', e1, _⟩ := h3 (j / 2) (by omega)
    rcases Nat.mod_two_eq_zero_or_one j with h0 | h0
    · rw [show j = j / 2 * 2 by omega, e3]
      rfl
    · rw [show j = j / 2 * 2 + 1 by omega, e1]
      rfl
  · exact h v' w' (wrow_app hC h1 h2 h3 h6 h7) h7 (own_row h1 (by decide))
theorem wp_append_wrow (x y : Operand) (ho : o.op = .call { callee := .builtin .append, args := #[x, y], argTypes := #[28, 28] })
    (base : Nat) (v : Value) (ws : WrL) (hx : a.eval x = v) (hr : WRow w base v ws) (ys : List Value) (ws' : WrL) (ad : Addr) (m c : Nat) (hy : a.eval y = .slice (some ad) m c) (hm : ws'.length = m) (hyl : ys.length = m * 2) (hcell : ∀ j u, ys[j]? = some u → w.cell? (ad.add j) = some u)
    (h3 : ∀ i, i < ws'.length → (Lit.int .i64 (wr_ ws' i).1).wf = true ∧ ys.getD (i * 2) undef = .int .i64 (wr_ ws' i).1 ∧ ∃ A c, ys.getD (i * 2 + 1) undef = .slice A (wr_ ws' i).2.length c ∧ BslO w base A (wr_ ws' i).2.length c (wr_ ws' i).2)
    (hn : ws.length + m ≤ 1000000) (hbase : base ≤ w.heap.size)
    (h : ∀ v' w', WRow w' base v' (ws ++ ws') → w.grownBy w' v.ownBlock → (∀ g, v.ownBlock = some g → base ≤ g ∧ ∃ t cs, Blk w g t cs ∧ t ≠ 5) → K (a.put o.dst v') w') : o.wp Tryd.prog a w K Q := wp_append_wrowC x y ho base (Nat.le_refl _) v ws hx hr ys ws' ad m c hy hm hyl hcell h3 hn hbase h
theorem wpList_append_wrow (hgd : o.guard = none) (x y : Operand) (ho : o.op = .call { callee := .builtin .append, args := #[x, y], argTypes := #[28, 28] })
    (base : Nat) (v : Value) (ws : WrL) (hx : a.eval x = v) (hr : WRow w base v ws) (B : Nat) (A : Option Addr) (m c : Nat) (ws' : WrL) (hy : a.eval y = .slice A m c) (hs : Wts w B A m c ws') (hB : B ≤ base) (hn : ws.length + m ≤ 1000000) (hbase : base ≤ w.heap.size)
    (h : ∀ v' w', WRow w' base v' (ws ++ ws') → w.grownBy w' v.ownBlock → (∀ g, v.ownBlock = some g → base ≤ g ∧ ∃ t cs, Blk w g t cs ∧ t ≠ 5) → wpList Tryd.prog ops Q rest (a.put o.dst v') w') : wpList Tryd.prog ops Q (o :: rest) a w := by
  obtain ⟨h1, h2, h3, h4⟩ := hs
  rcases Nat.eq_zero_or_pos m with h0 | h0
  · subst h0
    have hws : ws' = [] := List.eq_nil_of_length_eq_zero h1
    subst hws
    cases A with
    | none =>
      obtain ⟨i0, hi0, hz0, hz1, hz2⟩ := info_parts infoWri
      obtain ⟨xs, h5, h6⟩ := id hr
      refine wpList_plain hgd fun K hK => ?_
      have hrun := run_append_nothing (P := Tryd.prog) (w := w) base 28 o.type 64 i0 2 c Tryd.underlying28 hi0 v ws.length xs h5
      unfold Oper.wp
      simp [execOp, ho, resolve, invoke, builtin, hx, hy, hrun, Result.andThen]
      exact hK _ _ (h v w (by rw [List.append_nil]; exact hr) (World.grownBy.refl w _) (own_row h5 (by decide)))
    | some ad =>
      exact wpList_plain hgd fun _ hK => wp_append_wrow x y ho base v ws hx hr [] [] ad 0 c hy rfl rfl (fun j u hu => by simp at hu) (fun i hi => absurd hi (Nat.not_lt_zero _)) hn hbase fun v' w' h1 h2 h3 => hK _ _ (h v' w' h1 h2 h3)
  · obtain ⟨b, off, rfl, hlt, hc⟩ := h4 h0
    have hadd : ∀ j, (⟨b, off, none⟩ : Addr).add j = ⟨b, off + j, none⟩ := fun j => by unfold Addr.add; split <;> simp_all
    -- the cells, as they lie
    let ys : List Value := (List.range (m * 2)).map fun j => (w.cell? ⟨b, off + j, none⟩).getD undef
    have hyl : ys.length = m * 2 := by simp [ys]
    have hyg : ∀ j, j < m * 2 → ys.getD j undef = (w.cell? ⟨b, off + j, none⟩).getD undef := fun j hj => by simp [ys, List.getD_eq_getElem?_getD, hj]
    refine wpList_plain hgd fun _ hK => wp_append_wrow x y ho base v ws hx hr ys ws' ⟨b, off, none⟩ m c hy h1 hyl (fun j u hu => ?_) (fun i hi => ?_) hn hbase fun v' w' h1 h2 h3 => hK _ _ (h v' w' h1 h2 h3)
    · have hj : j < m * 2 := by
        rcases Nat.lt_or_ge j ys.length with hj | hj
        · omega
        · rw [List.getElem?_eq_none hj] at hu; cases hu
      rw [hadd]
      have hg := hyg j hj
      rw [List.getD_eq_getElem?_getD, hu] at hg
      have hu' : u = (w.cell? ⟨b, off + j, none⟩).getD undef := hg
      obtain ⟨_, e3, A, c', e1, _⟩ := hc (j / 2) (by omega)
      rcases Nat.mod_two_eq_zero_or_one j with h0 | h0
      · rw [show j = j / 2 * 2 by omega] at hu' ⊢
        rw [hu', e3]
        rfl
      · rw [show j = j / 2 * 2 + 1 by omega] at hu' ⊢
        rw [← Nat.add_assoc] at hu' ⊢
        rw [hu', e1]
        rfl
    · obtain ⟨e0, e3, A, c', e1, e2⟩ := hc i (by omega)
      rw [hyg _ (by omega), hyg _ (by omega), e3, ← Nat.add_assoc, e1]
      refine ⟨e0, rfl, A, c', rfl, ?_⟩
      obtain ⟨h1, h2, h3, h4, h5⟩ := e2
      refine ⟨h1, h2, h3, h4, fun h0 => ?_⟩
      obtain ⟨b', off', e, hb, hc'⟩ := h5 h0
      exact ⟨b', off', e, by omega, .inl (by omega), hc'⟩
end
section
variable {l : List Oper} {Q : Exit → Act → World → Prop} {md : Region.Mode} {S : World → Prop} {i : Nat} {σ : List Nat} {o : Oper} {listed : Array Bool} {a : Act} {w : World}
/-- In a region that draws its order: append(bytes, more...), where its turn comes alone. -/
theorem wpI_append_big (hi : nthOp l i = some o) (hr : Region.ready md l.toArray listed = [i]) (hgd : o.guard = none) (s x : Operand)
    (ho : o.op = .call { callee := .builtin .append, args := #[s, x], argTypes := #[44, 44] })
    (base : Nat) (v : Value) (n : Nat) (xs : List UInt8) (hs : a.eval s = v) (hown : w.ownsRow base 5 1 v n (vals xs))
    (B : Nat) (A : Option Addr) (m c : Nat) (news : List UInt8) (hx : a.eval x = .slice A m c) (hb : Bsl w B A m c news)
    (hnm : n + m ≤ 100000000000000) (hbase : base ≤ w.heap.size)
    (h : ∀ v' w', w'.ownsRow base 5 1 v' (n + m) (vals (xs ++ news)) → w.grownBy w' v.ownBlock → S w' ∧ wpI Tryd.prog md S l Q σ (listed.setIfInBounds i true) (a.put o.dst v') w') : wpI Tryd.prog md S l Q (i :: σ) listed a w :=
  wpI_lone hi hr fun K hK => by
    rw [if_pos (by simp [Region.wanted, hgd])]
    exact wp_append_big s x ho base v n xs hs hown B A m c news hx hb hnm hbase fun v' w' h1 h2 => hK _ _ (h v' w' h1 h2).1 (h v' w' h1 h2).2
/-- append(rows, s). -/
theorem wpI_append_brow (hi : nthOp l i = some o) (hr : Region.ready md l.toArray listed = [i]) (hgd : o.guard = none) (x y : Operand) (ho : o.op = .call { callee := .builtin .append, args := #[x, y], argTypes := #[27, 27] })
    (base : Nat) (v : Value) (bl : List (List UInt8)) (hx : a.eval x = v) (hrw : BRow w base v bl) (A : Option Addr) (c : Nat) (s : List UInt8) (b : Nat) (hy : a.eval y = .slice (some ⟨b, 0, none⟩) 1 1) (hb : Blk w b 44 #[.slice A s.length c]) (hs : BslO w base A s.length c s)
    (hn : bl.length ≤ 1000000) (hbase : base ≤ w.heap.size)
    (h : ∀ v' w', BRow w' base v' (bl ++ [s]) → w.grownBy w' v.ownBlock → (∀ g, v.ownBlock = some g → base ≤ g ∧ ∃ t cs, Blk w g t cs ∧ t = 44) → S w' ∧ wpI Tryd.prog md S l Q σ (listed.setIfInBounds i true) (a.put o.dst v') w') : wpI Tryd.prog md S l Q (i :: σ) listed a w :=
  wpI_lone hi hr fun K hK => by
    rw [if_pos (by simp [Region.wanted, hgd])]
    have hty : ∀ g, v.ownBlock = some g → base ≤ g ∧ ∃ t cs, Blk w g t cs ∧ t = 44 := by
      obtain ⟨xs, h1, _⟩ := hrw
      intro g hg
      obtain ⟨_, ⟨rfl, _⟩ | ⟨g', cap, cur, rfl, h2, h3, _⟩⟩ := h1
      · cases hg
      · cases hg
        exact ⟨h2, _, _, h3, rfl⟩
    exact wp_append_brow x y ho base v bl hx hrw A c s b hy hb hs hn hbase fun v' w' h1 h2 _ => hK _ _ (h v' w' h1 h2 hty).1 (h v' w' h1 h2 hty).2
/-- append(writes, more...). -/
theorem wpI_append_wrow (hi : nthOp l i = some o) (hr : Region.ready md l.toArray listed = [i]) (hgd : o.guard = none) (x y : Operand) (ho : o.op = .call { callee := .builtin .append, args := #[x, y], argTypes := #[28, 28] })
    (base : Nat) (v : Value) (ws : WrL) (hx : a.eval x = v) (hrw : WRow w base v ws) (ys : List Value) (ws' : WrL) (ad : Addr) (m c : Nat) (hy : a.eval y = .slice (some ad) m c) (hm : ws'.length = m) (hyl : ys.length = m * 2) (hcell : ∀ j u, ys[j]? = some u → w.cell? (ad.add j) = some u)
    (h3 : ∀ i, i < ws'.length → (Lit.int .i64 (wr_ ws' i).1).wf = true ∧ ys.getD (i * 2) undef = .int .i64 (wr_ ws' i).1 ∧ ∃ A c, ys.getD (i * 2 + 1) undef = .slice A (wr_ ws' i).2.length c ∧ BslO w base A (wr_ ws' i).2.length c (wr_ ws' i).2)
    (hn : ws.length + m ≤ 1000000) (hbase : base ≤ w.heap.size)
    (h : ∀ v' w', WRow w' base v' (ws ++ ws') → w.grownBy w' v.ownBlock → (∀ g, v.ownBlock = some g → base ≤ g ∧ ∃ t cs, Blk w g t cs ∧ t = 64) → S w' ∧ wpI Tryd.prog md S l Q σ (listed.setIfInBounds i true) (a.put o.dst v') w') : wpI Tryd.prog md S l Q (i :: σ) listed a w :=
  wpI_lone hi hr fun K hK => by
    rw [if_pos (by simp [Region.wanted, hgd])]
    have hty : ∀ g, v.ownBlock = some g → base ≤ g ∧ ∃ t cs, Blk w g t cs ∧ t = 64 := by
      obtain ⟨xs, h1, _⟩ := hrw
      intro g hg
      obtain ⟨_, ⟨rfl, _⟩ | ⟨g', cap, cur, rfl, h2, h3, _⟩⟩ := h1
      · cases hg
      · cases hg
        exact ⟨h2, _, _, h3, rfl⟩
    exact wp_append_wrow x y ho base v ws hx hrw ys ws' ad m c hy hm hyl hcell h3 hn hbase fun v' w' h1 h2 _ => hK _ _ (h v' w' h1 h2 hty).1 (h v' w' h1 h2 hty).2
/-- append(nil, bytes...), where its turn comes alone. -/
theorem wpS_append_new (hi : nthOp l i = some o) (hr : Region.ready md l.toArray listed = [i]) (hgd : o.guard = none) (s x : Operand)
    (ho : o.op = .call { callee := .builtin .append, args := #[s, x], argTypes := #[44, 44] }) (hs : a.eval s = .slice none 0 0)
    (B : Nat) (A : Option Addr) (m c : Nat) (news : List UInt8) (hx : a.eval x = .slice A m c) (hb : Bsl w B A m c news) (hm : m ≤ 100000000000000)
    (h : ∀ v' w', w'.ownsRow w.heap.size 5 1 v' m (vals news) → Below w.heap.size w w' → wpS Tryd.prog md l Q σ (listed.setIfInBounds i true) (a.put o.dst v') w') : wpS Tryd.prog md l Q (i :: σ) listed a w :=
  wpS_lone hi hr fun K hK => by
    rw [if_pos (by simp [Region.wanted, hgd])]
    refine wp_append_big s x ho w.heap.size (.slice none 0 0) 0 [] hs (own_nil w _) B A m c news hx hb (by omega) (Nat.le_refl _) fun v' w' h1 h2 => ?_
    have b2 : Below w.heap.size w w' := ⟨h2.os, h2.tape, h2.output, h2.size, fun i hi => h2.block i hi (by simp [Value.ownBlock])⟩
    rw [Nat.zero_add, List.nil_append] at h1
    exact hK _ _ (Stays.of_below b2) (h v' w' h1 b2)
end
end Go.Proofs.YtldnelimemjaiaaDoor
/-
  slices.Grow of nil, and slices.Concat of slices of writes: a row of the call's own that holds them all, one behind the other.
-/
namespace Go.Proofs.YtldnelimemjaiaaDoor
open Go.RowKit Go.Shelf
set_option maxRecDepth 100000

set_option maxHeartbeats 1000000 in
theorem dGrow_any (n : Nat) (h0 : 0 < n) (hn : n ≤ 1000000) (w : World) : Calls Tryd.prog 59 #[.slice none 0 0, .int .i64 n] w fun e w' => ∃ v, e = .returned v ∧ WRow w' w.heap.size v [] ∧ Below w.heap.size w w' := by
  obtain ⟨i0, hi, hz0, hz1, hz2⟩ := info_parts infoWri
  have hr : ∀ ty, (Builtin.append_ #[28, 3] ty #[.slice none 0 0, .int .i64 n]).run Tryd.prog w =
      .ok (.slice (some ⟨w.heap.size, 0, none⟩) n (grownCap w n 0 64)) (w.drew.alloc (.cells (Builtin.zeroCells (Value.agg #[.int .i64 0, .slice none 0 0]).cells n ++ Builtin.zeroCells (Value.agg #[.int .i64 0, .slice none 0 0]).cells (grownCap w n 0 64 - n)) 64)) := fun ty =>
    Lib.run_append_nil_zeros w 28 3 ty 64 i0 (.agg #[.int .i64 0, .slice none 0 0]) .i64 .i64 Tryd.underlying28 Tryd.underlying3 hi hz0 n h0 (by omega) (by omega) (by rw [hz2]; omega)
  have hG1 : n ≤ grownCap w n 0 64 := grownCap_ge w _ _ _
  have hG2 : grownCap w n 0 64 ≤ maxLen := grownCap_le_maxLen w n 0 64 (by unfold maxLen; omega)
  obtain ⟨G, hG⟩ : ∃ G, grownCap w n 0 64 = G := ⟨_, rfl⟩
  rw [hG] at hr hG1 hG2
  obtain ⟨cs, hcs⟩ : ∃ cs, Builtin.zeroCells (Value.agg #[.int .i64 0, .slice none 0 0]).cells n ++ Builtin.zeroCells (Value.agg #[.int .i64 0, .slice none 0 0]).cells (G - n) = cs := ⟨_, rfl⟩
  have hsz : cs.size = G * 2 := by
    rw [← hcs]
    simp [Builtin.zeroCells, Value.cells]
    omega
  rw [hcs] at hr
  have z5 : ∀ w, (Go.sizeOf 64).run Tryd.prog w = .ok 2 w := fun w => by kernel_rfl
  have n1 : ¬ ((n : Int) < 0) := by omega
  have n2 : (0 : Int) < n := by omega
  have n3 : (n : Int) ≤ 1000000 := by omega
  have g0 : (G : Int) ≤ 9223372036854775807 := by unfold maxLen at hG2; omega
  have hown : (w.drew.alloc (.cells cs 64)).ownsRow w.heap.size 64 2 (.slice (some ⟨w.heap.size, 0, none⟩) 0 G) 0 [] :=
    ⟨rfl, .inr ⟨w.heap.size, G, cs, rfl, Nat.le_refl _, by have := heap_alloc_new w.drew (.cells cs 64); simpa using this, Nat.zero_le _, hG2, by omega, by simp⟩⟩
  have hrow : WRow (w.drew.alloc (.cells cs 64)) w.heap.size (.slice (some ⟨w.heap.size, 0, none⟩) 0 G) [] := ⟨[], hown, fun i h => absurd h (Nat.not_lt_zero _)⟩
  have hbel : Below w.heap.size w (w.drew.alloc (.cells cs 64)) := (Below.refl _ w).drew.alloc (by simp) _
  have HO := Lib.hid hrow; clear hown hrow
  have HB := Lib.hid hbel; clear hbel
  have HG2 := Lib.hid hG2; clear hG2
  clear hG hcs hsz hi hz0 hz1 hz2
  go_enter Tryd.func59, Tryd.ntmps59
  go_wp2_with (at_builtin; refine Lib.wpList_append_run _ rfl _ _ _ _ rfl _ _ rfl rfl _ _ (hr _) ?_)
  go_ret
  exact ⟨_, rfl, HO.out, HB.out⟩

/-- A slice of writes as it is handed in. -/
structure WPart where
  a : Option Addr
  len : Nat
  cap : Nat
  ws : WrL
def flatW (ps : List WPart) : WrL := ps.flatMap (·.ws)
theorem flatW_take_succ (ps : List WPart) (k : Nat) (h : k < ps.length) : flatW (ps.take (k + 1)) = flatW (ps.take k) ++ (ps[k]).ws := by
  unfold flatW
  rw [List.take_succ_eq_append_getElem h, List.flatMap_append]
  simp
theorem flatW_take_le (ps : List WPart) (k : Nat) : (flatW (ps.take k)).length ≤ (flatW ps).length := by
  have : flatW ps = flatW (ps.take k) ++ flatW (ps.drop k) := by
    unfold flatW
    rw [← List.flatMap_append, List.take_append_drop]
  rw [this, List.length_append]
  omega
/-- A row of the call's own that holds ws. -/
def WOwn (ws : WrL) (w : World) (e : Ending) (w' : World) : Prop := ∃ v, e = .returned v ∧ WRow w' w.heap.size v ws ∧ Below w.heap.size w w'
set_option maxHeartbeats 2000000 in
theorem dConcat_any (r c : Nat) (ps : List WPart) (w : World) (hr : r < w.heap.size) (hl : ps.length ≤ 1000)
    (hcell : ∀ i (h : i < ps.length), w.cell? ⟨r, i, none⟩ = some (.slice (ps[i]).a (ps[i]).len (ps[i]).cap)) (hb : ∀ i (h : i < ps.length), Wts w w.heap.size (ps[i]).a (ps[i]).len (ps[i]).cap (ps[i]).ws)
    (h0 : 0 < (flatW ps).length) (hm : (flatW ps).length ≤ 1000000) :
    Calls Tryd.prog 32 #[.slice (some ⟨r, 0, none⟩) ps.length c] w (WOwn (flatW ps) w) := by
  obtain ⟨n, hn⟩ : ∃ n, ps.length = n := ⟨_, rfl⟩
  have HN := Lib.hid hn
  rw [hn] at hl ⊢
  clear hn
  have n0 : (0 : Int) ≤ n := by omega
  have n1 : (n : Int) ≤ 1000 := by omega
  have HC := Lib.hid hcell; clear hcell
  have HB := Lib.hid hb; clear hb
  have HM := Lib.hid hm; clear hm
  have H0 := Lib.hid h0; clear h0
  go_enter Tryd.func32, Tryd.ntmps32
  go_wp2_with fail
  go_loop [3, 11] (fun z i => ∃ k : Nat, k ≤ n ∧ i = .int .i64 k ∧ z = .int .i64 ((flatW (ps.take k)).length : Nat)) (fun _ i => n - (intOf i).toNat)
  case atStart => exact ⟨0, Nat.zero_le _, rfl, rfl⟩
  case round =>
    obtain ⟨k, hk, rfl, rfl⟩ := hrel
    by_cases hlt : k < n
    · have hkp : k < ps.length := by rw [HN.out]; exact hlt
      have hce := HC.out k hkp
      have hbe := (HB.out k hkp).1
      have hsu := flatW_take_succ ps k hkp
      have hle := flatW_take_le ps (k + 1)
      rw [hsu, List.length_append, hbe] at hle
      have hsl : (flatW (ps.take (k + 1))).length = (flatW (ps.take k)).length + (ps[k]).len := by rw [hsu, List.length_append, hbe]
      obtain ⟨p, hp⟩ : ∃ p, ps[k] = p := ⟨_, rfl⟩
      rw [hp] at hce hle hsl
      obtain ⟨m, hm⟩ : ∃ m, (flatW (ps.take k)).length = m := ⟨_, rfl⟩
      rw [hm] at hle hsl ⊢
      obtain ⟨pa, pl, pc, pss⟩ := p
      dsimp only at hce hle hsl
      have hmm := HM.out
      have m0 : (0 : Int) ≤ (m : Int) := by omega
      have m1 : (m : Int) + (pl : Int) ≤ 1000000 := by omega
      have m2 : (0 : Int) ≤ (pl : Int) := by omega
      have m3 : ¬ ((m : Int) + (pl : Int) < 0) := by omega
      have k0 : (k : Int) < n := by omega
      have HSL := Lib.hid hsl; clear hsl
      clear hp hm hsu hbe hle hmm
      go_wp2_with fail
      go_round
      case rel => exact ⟨k + 1, by omega, by go_num, by rw [HSL.out]; go_num⟩
      case measure => simp [intOf]; omega
    · obtain rfl : k = n := by omega
      have ht : ps.take k = ps := List.take_of_length_le (by rw [HN.out]; exact Nat.le_refl _)
      rw [ht]
      obtain ⟨m, hm⟩ : ∃ m, (flatW ps).length = m := ⟨_, rfl⟩
      have gr := dGrow_any m (by rw [← hm]; exact H0.out) (by rw [← hm]; exact HM.out) w
      rw [hm]
      have GR := Lib.hid gr; clear gr
      clear hm ht
      go_wp2_with fail
      refine GR.out.mono ?_
      rintro e w1 ⟨v, rfl, ho, b1⟩
      have HO := Lib.hid ho; clear ho
      have HB1 := Lib.hid b1; clear b1
      go_wp2_with fail
      go_loopw [6, 27] (fun v i wr => ∃ j : Nat, j ≤ k ∧ i = .int .i64 j ∧ WRow wr w.heap.size v (flatW (ps.take j)) ∧ Below w.heap.size w wr) (fun _ i _ => k - (intOf i).toNat)
      case atStart => exact ⟨0, Nat.zero_le _, rfl, HO.out, HB1.out⟩
      case round =>
        obtain ⟨j, hj, rfl, ho2, hb2⟩ := hrel
        by_cases hlt2 : j < k
        · have hkp : j < ps.length := by rw [HN.out]; exact hlt2
          have hce := (hb2.cell (p := ⟨r, j, none⟩) hr).trans (HC.out j hkp)
          have hbs := (HB.out j hkp).below hb2
          have hbe := (HB.out j hkp).1
          have hsu := flatW_take_succ ps j hkp
          have hle := flatW_take_le ps (j + 1)
          rw [hsu, List.length_append, hbe] at hle
          obtain ⟨p, hp⟩ : ∃ p, ps[j] = p := ⟨_, rfl⟩
          rw [hp] at hce hle hsu hbs hbe
          obtain ⟨t, ht⟩ : ∃ t, flatW (ps.take j) = t := ⟨_, rfl⟩
          rw [ht] at hle hsu ho2
          obtain ⟨pa, pl, pc, pss⟩ := p
          dsimp only at hce hle hsu hbs hbe
          have hmm := HM.out
          have k0 : (j : Int) < k := by omega
          have hnm : t.length + pl ≤ 1000000 := by omega
          have HSU := Lib.hid hsu; clear hsu
          have HO2 := Lib.hid ho2; clear ho2
          have HB2 := Lib.hid hb2; clear hb2
          have HBS := Lib.hid hbs; clear hbs
          clear hp ht hle hmm hbe
          go_wp2_with (at_builtin; refine wpList_append_wrow rfl (.tmp 31) (.tmp 32) rfl w.heap.size u6 t rfl HO2.out w.heap.size pa pl pc pss rfl HBS.out (Nat.le_refl _) hnm HB2.out.size ?_; intro v' W3 hown' hg' hrow')
          have hb3 : Below w.heap.size w W3 := HB2.out.grown hg' HB2.out.size (fun k e => (hrow' k e).1)
          have HO3 := Lib.hid hown'; clear hown'
          have HB3 := Lib.hid hb3; clear hb3 hg' hrow'
          go_wp2_with fail
          go_roundw
          case rel => exact ⟨j + 1, by omega, by go_num, by rw [HSU.out]; exact HO3.out, HB3.out⟩
          case measure => simp [intOf]; omega
        · obtain rfl : j = k := by omega
          have ht : ps.take j = ps := List.take_of_length_le (by rw [HN.out]; exact Nat.le_refl _)
          rw [ht] at ho2
          have HO2 := Lib.hid ho2
          have HB2 := Lib.hid hb2; clear hb2
          clear ho2 ht
          go_wp2_with fail
          go_ret
          exact ⟨_, rfl, HO2.out, HB2.out⟩
end Go.Proofs.YtldnelimemjaiaaDoor
/-
  dev.mayBe tells whether a disk may be.
-/
namespace Go.Proofs.YtldnelimemjaiaaDoor
open Go.RowKit Go.Shelf
set_option maxRecDepth 100000

theorem dIsLong_any (a : Option Addr) (n c : Nat) (w : World) : Calls Tryd.prog 31 #[.slice a n c] w fun e w' => e = .returned (.bool (decide (n = 256))) ∧ w = w' := by
  by_cases h : n = 256
  · subst h
    go_enter Tryd.func31, Tryd.ntmps31
    go_wp2_with fail
    go_ret
    exact ⟨rfl, rfl⟩
  · have h1 : ((n : Int) == 256) = false := by simp; omega
    rw [decide_eq_false h]
    go_enter Tryd.func31, Tryd.ntmps31
    go_wp2_with fail
    go_ret
    exact ⟨rfl, rfl⟩
theorem dIsBlock_any (p : Int) (w : World) : Calls Tryd.prog 30 #[.int .i64 p] w fun e w' => e = .returned (.bool (decide (0 ≤ p ∧ p < 256))) ∧ w = w' := by
  by_cases h0 : 0 ≤ p
  · by_cases h1 : p < 256
    · rw [decide_eq_true (show 0 ≤ p ∧ p < 256 from ⟨h0, h1⟩)]
      go_enter Tryd.func30, Tryd.ntmps30
      go_wp2_with fail
      go_ret
      exact ⟨by simp; try omega, rfl⟩
    · rw [decide_eq_false (show ¬ (0 ≤ p ∧ p < 256) from fun h => h1 h.2)]
      go_enter Tryd.func30, Tryd.ntmps30
      go_wp2_with fail
      go_ret
      exact ⟨by simp; try omega, rfl⟩
  · rw [decide_eq_false (show ¬ (0 ≤ p ∧ p < 256) from fun h => h0 h.1)]
    go_enter Tryd.func30, Tryd.ntmps30
    go_wp2_with fail
    go_ret
    exact ⟨by simp; try omega, rfl⟩
theorem dMayWait_any (p : Int) (a : Option Addr) (n c : Nat) (w : World) : Calls Tryd.prog 58 #[.agg #[.int .i64 p, .slice a n c]] w fun e w' => e = .returned (.bool (decide ((0 ≤ p ∧ p < 256) ∧ n = 256))) ∧ Below w.heap.size w w' := by
  have hb := dIsBlock_any p
  have hl := dIsLong_any a n c
  have HX := Lib.hid ((Below.refl w.heap.size w).alloc (Nat.le_refl _) (.cells #[.int .i64 p, .slice a n c] 64))
  by_cases h : 0 ≤ p ∧ p < 256
  · simp only [decide_eq_true h] at hb
    have e : decide ((0 ≤ p ∧ p < 256) ∧ n = 256) = decide (n = 256) := by simp [h]
    rw [e]
    have HB := Lib.hid hb
    have HL := Lib.hid hl
    clear hb hl h e
    go_enter Tryd.func58, Tryd.ntmps58
    go_wp2_with fail
    refine (HB.out _).mono ?_
    rintro e w1 ⟨rfl, rfl⟩
    go_wp2_with fail
    refine (HL.out _).mono ?_
    rintro e w1 ⟨rfl, rfl⟩
    go_wp2_with fail
    go_ret
    exact ⟨rfl, HX.out⟩
  · simp only [decide_eq_false h] at hb
    have e : decide ((0 ≤ p ∧ p < 256) ∧ n = 256) = false := by simp; omega
    rw [e]
    have HB := Lib.hid hb
    clear hb hl h e
    go_enter Tryd.func58, Tryd.ntmps58
    go_wp2_with fail
    refine (HB.out _).mono ?_
    rintro e w1 ⟨rfl, rfl⟩
    go_wp2_with fail
    go_ret
    exact ⟨rfl, HX.out⟩
theorem dNotLong_any (a : Option Addr) (n c g : Nat) (w : World) (hg : w.cell? ⟨g, 0, none⟩ = some (.func (.func 31) #[] #[])) : Calls Tryd.prog 79 #[.slice a n c, .pointer (some ⟨g, 0, none⟩)] w fun e w' => e = .returned (.bool (!decide (n = 256))) ∧ w = w' := by
  have HL := Lib.hid (dIsLong_any a n c w)
  go_enter Tryd.func79, Tryd.ntmps79
  go_wp2_with fail
  refine HL.out.mono ?_
  rintro e w1 ⟨rfl, rfl⟩
  go_wp2_with fail
  go_ret
  exact ⟨rfl, rfl⟩
theorem dNotWait_any (p : Int) (a : Option Addr) (n c g : Nat) (r : Bool) (hr : decide ((0 ≤ p ∧ p < 256) ∧ n = 256) = r) (w : World) (hl : g < w.heap.size) (hg : w.cell? ⟨g, 0, none⟩ = some (.func (.func 58) #[] #[])) : Calls Tryd.prog 81 #[.agg #[.int .i64 p, .slice a n c], .pointer (some ⟨g, 0, none⟩)] w fun e w' => e = .returned (.bool (!r)) ∧ Below w.heap.size w w' := by
  have b1 := (Below.refl w.heap.size w).alloc (Nat.le_refl _) (.cells #[.int .i64 p, .slice a n c] 64)
  have hg1 := (b1.cell (p := ⟨g, 0, none⟩) hl).trans hg
  have HL : Hid (∀ W, Calls Tryd.prog 58 #[.agg #[.int .i64 p, .slice a n c]] W fun e w' => e = .returned (.bool r) ∧ Below W.heap.size W w') := Lib.hid fun W => by
    have := dMayWait_any p a n c W
    rw [hr] at this
    exact this
  have HB := Lib.hid b1
  clear b1 hl hr
  go_enter Tryd.func81, Tryd.ntmps81
  go_wp2_with fail
  refine (HL.out _).mono ?_
  rintro e w1 ⟨rfl, b2⟩
  have HB2 := Lib.hid (HB.out.trans (b2.mono HB.out.size))
  clear b2
  go_wp2_with fail
  go_ret
  exact ⟨rfl, HB2.out⟩
/-- slices.IndexFunc over blocks: none is odd. -/
theorem dIndexB_none (a : Option Addr) (n c : Nat) (bl : List (List UInt8)) (g : Nat) (w : World) (hB : Bls w w.heap.size a n c bl) (hg : w.cell? ⟨g, 0, none⟩ = some (.func (.func 31) #[] #[])) (hall : ∀ i, i < n → (bl.getD i []).length = 256) :
    Calls Tryd.prog 93 #[.slice a n c, .func (.func 79) #[] #[.pointer (some ⟨g, 0, none⟩)]] w fun e w' => e = .returned (.int .i64 (-1)) ∧ w = w' := by
  have n0 : (0 : Int) ≤ n := by omega
  have n1 := hB.len_le
  have HB := Lib.hid hB
  have HA := Lib.hid hall
  have HG := Lib.hid hg
  clear hB hall hg
  go_enter Tryd.func93, Tryd.ntmps93
  go_wp2_with fail
  go_loop [8] (fun i => ∃ k : Nat, k ≤ n ∧ i = .int .i64 k) (fun i => n - (intOf i).toNat)
  case atStart => exact ⟨0, Nat.zero_le _, rfl⟩
  case round =>
    obtain ⟨k, hk, rfl⟩ := hrel
    have k0 : (0 : Int) ≤ k := by omega
    by_cases hlt : k < n
    · have k1 : (k : Int) < n := by omega
      obtain ⟨b, off, A, l, c', s, rfl, _, hl, hc, hA⟩ := HB.out.at_ hlt
      have hl6 : l = 256 := by rw [← hA.1, ← hl]; exact HA.out k hlt
      subst hl6
      have hx := dNotLong_any A 256 c' g w HG.out
      have HX := Lib.hid hx
      clear hx hA hl
      go_wp2_with fail
      refine HX.out.mono ?_
      rintro e w1 ⟨rfl, rfl⟩
      go_wp2_with fail
      go_round
      case rel => exact ⟨k + 1, by omega, by go_num⟩
      case measure => simp [intOf]; omega
    · obtain rfl : k = n := by omega
      go_wp2_with fail
      go_ret
      exact ⟨rfl, rfl⟩
/-- One is. -/
theorem dIndexB_some (a : Option Addr) (n c : Nat) (bl : List (List UInt8)) (g : Nat) (w : World) (hB : Bls w w.heap.size a n c bl) (hg : w.cell? ⟨g, 0, none⟩ = some (.func (.func 31) #[] #[])) (j : Nat) (hj : j < n) (hodd : (bl.getD j []).length ≠ 256) :
    Calls Tryd.prog 93 #[.slice a n c, .func (.func 79) #[] #[.pointer (some ⟨g, 0, none⟩)]] w fun e w' => ∃ k : Nat, e = .returned (.int .i64 k) ∧ w = w' := by
  have n0 : (0 : Int) ≤ n := by omega
  have n1 := hB.len_le
  have HB := Lib.hid hB
  have HA := Lib.hid hodd
  have HG := Lib.hid hg
  clear hB hodd hg
  go_enter Tryd.func93, Tryd.ntmps93
  go_wp2_with fail
  go_loop [8] (fun i => ∃ k : Nat, k ≤ j ∧ i = .int .i64 k) (fun i => n - (intOf i).toNat)
  case atStart => exact ⟨0, Nat.zero_le _, rfl⟩
  case round =>
    obtain ⟨k, hk, rfl⟩ := hrel
    have k0 : (0 : Int) ≤ k := by omega
    have k1 : (k : Int) < n := by omega
    obtain ⟨b, off, A, l, c', s, rfl, _, hl, hc, hA⟩ := HB.out.at_ (show k < n by omega)
    have hx := dNotLong_any A l c' g w HG.out
    by_cases hl6 : l = 256
    · have hkj : k < j := by
        rcases Nat.lt_or_ge k j with h | h
        · exact h
        · obtain rfl : k = j := by omega
          exact absurd (by rw [hl, hA.1]; exact hl6) HA.out
      subst hl6
      have HX := Lib.hid hx
      clear hx hA hl
      go_wp2_with fail
      refine HX.out.mono ?_
      rintro e w1 ⟨rfl, rfl⟩
      go_wp2_with fail
      go_round
      case rel => exact ⟨k + 1, by omega, by go_num⟩
      case measure => simp [intOf]; omega
    · simp only [decide_eq_false hl6] at hx
      have HX := Lib.hid hx
      clear hx hA hl
      go_wp2_with fail
      refine HX.out.mono ?_
      rintro e w1 ⟨rfl, rfl⟩
      go_wp2_with fail
      go_ret
      exact ⟨k, rfl, rfl⟩
/-- slices.IndexFunc over writes: none is odd. -/
theorem dIndexW_none (a : Option Addr) (n c : Nat) (ws : WrL) (g : Nat) (w : World) (hB : Wts w w.heap.size a n c ws) (hlg : g < w.heap.size) (hg : w.cell? ⟨g, 0, none⟩ = some (.func (.func 58) #[] #[])) (hall : ∀ i, i < n → (0 ≤ (wr_ ws i).1 ∧ (wr_ ws i).1 < 256) ∧ (wr_ ws i).2.length = 256) :
    Calls Tryd.prog 94 #[.slice a n c, .func (.func 81) #[] #[.pointer (some ⟨g, 0, none⟩)]] w fun e w' => e = .returned (.int .i64 (-1)) ∧ Below w.heap.size w w' := by
  have n0 : (0 : Int) ≤ n := by omega
  have n1 := hB.len_le
  have HB := Lib.hid hB
  have HA := Lib.hid hall
  have HG := Lib.hid hg
  clear hB hall hg
  go_enter Tryd.func94, Tryd.ntmps94
  go_wp2_with fail
  go_loopw [8] (fun i wr => ∃ k : Nat, k ≤ n ∧ i = .int .i64 k ∧ Below w.heap.size w wr) (fun i _ => n - (intOf i).toNat)
  case atStart => exact ⟨0, Nat.zero_le _, rfl, Below.refl _ _⟩
  case round =>
    obtain ⟨k, hk, rfl, hb⟩ := hrel
    have k0 : (0 : Int) ≤ k := by omega
    by_cases hlt : k < n
    · have k1 : (k : Int) < n := by omega
      obtain ⟨b, off, p, A, l, c', s, rfl, hbl, hl, _, hc, hd, hA⟩ := HB.out.at_ hlt
      have hok := HA.out k hlt
      rw [hl] at hok
      have hl6 : l = 256 := by rw [← hA.1]; exact hok.2
      subst hl6
      have c1 := (hb.cell (p := ⟨b, off + k * 2, none⟩) hbl).trans hc
      have c2 := (hb.cell (p := ⟨b, off + k * 2 + 1, none⟩) hbl).trans hd
      have hx := dNotWait_any p A 256 c' g true (decide_eq_true ⟨hok.1, rfl⟩) wr (Nat.lt_of_lt_of_le hlg hb.size) ((hb.cell (p := ⟨g, 0, none⟩) hlg).trans HG.out)
      have HX := Lib.hid hx
      have HBr := Lib.hid hb
      clear hx hA hl hok hb hc hd
      go_wp2_with fail
      refine HX.out.mono ?_
      rintro e w1 ⟨rfl, b2⟩
      have HB2 := Lib.hid (HBr.out.trans (b2.mono HBr.out.size))
      clear b2
      go_wp2_with fail
      go_roundw
      case rel => exact ⟨k + 1, by omega, by go_num, HB2.out⟩
      case measure => simp [intOf]; omega
    · obtain rfl : k = n := by omega
      have HBr := Lib.hid hb
      clear hb
      go_wp2_with fail
      go_ret
      exact ⟨rfl, HBr.out⟩
/-- One is. -/
theorem dIndexW_some (a : Option Addr) (n c : Nat) (ws : WrL) (g : Nat) (w : World) (hB : Wts w w.heap.size a n c ws) (hlg : g < w.heap.size) (hg : w.cell? ⟨g, 0, none⟩ = some (.func (.func 58) #[] #[])) (j : Nat) (hj : j < n) (hodd : ¬ ((0 ≤ (wr_ ws j).1 ∧ (wr_ ws j).1 < 256) ∧ (wr_ ws j).2.length = 256)) :
    Calls Tryd.prog 94 #[.slice a n c, .func (.func 81) #[] #[.pointer (some ⟨g, 0, none⟩)]] w fun e w' => ∃ k : Nat, e = .returned (.int .i64 k) ∧ Below w.heap.size w w' := by
  have n0 : (0 : Int) ≤ n := by omega
  have n1 := hB.len_le
  have HB := Lib.hid hB
  have HA := Lib.hid hodd
  have HG := Lib.hid hg
  clear hB hodd hg
  go_enter Tryd.func94, Tryd.ntmps94
  go_wp2_with fail
  go_loopw [8] (fun i wr => ∃ k : Nat, k ≤ j ∧ i = .int .i64 k ∧ Below w.heap.size w wr) (fun i _ => n - (intOf i).toNat)
  case atStart => exact ⟨0, Nat.zero_le _, rfl, Below.refl _ _⟩
  case round =>
    obtain ⟨k, hk, rfl, hb⟩ := hrel
    have k0 : (0 : Int) ≤ k := by omega
    have k1 : (k : Int) < n := by omega
    obtain ⟨b, off, p, A, l, c', s, rfl, hbl, hl, _, hc, hd, hA⟩ := HB.out.at_ (show k < n by omega)
    have c1 := (hb.cell (p := ⟨b, off + k * 2, none⟩) hbl).trans hc
    have c2 := (hb.cell (p := ⟨b, off + k * 2 + 1, none⟩) hbl).trans hd
    have hx := fun r hr => dNotWait_any p A l c' g r hr wr (Nat.lt_of_lt_of_le hlg hb.size) ((hb.cell (p := ⟨g, 0, none⟩) hlg).trans HG.out)
    by_cases hl6 : (0 ≤ p ∧ p < 256) ∧ l = 256
    · have hkj : k < j := by
        rcases Nat.lt_or_ge k j with h | h
        · exact h
        · obtain rfl : k = j := by omega
          exact absurd (by rw [hl]; exact ⟨hl6.1, by rw [hA.1]; exact hl6.2⟩) HA.out
      have HX := Lib.hid (hx true (decide_eq_true hl6))
      have HBr := Lib.hid hb
      clear hx hA hl hl6 hb hc hd
      go_wp2_with fail
      refine HX.out.mono ?_
      rintro e w1 ⟨rfl, b2⟩
      have HB2 := Lib.hid (HBr.out.trans (b2.mono HBr.out.size))
      clear b2
      go_wp2_with fail
      go_roundw
      case rel => exact ⟨k + 1, by omega, by go_num, HB2.out⟩
      case measure => simp [intOf]; omega
    · have HX := Lib.hid (hx false (decide_eq_false hl6))
      have HBr := Lib.hid hb
      clear hx hA hl hl6 hb hc hd
      go_wp2_with fail
      refine HX.out.mono ?_
      rintro e w1 ⟨rfl, b2⟩
      have HB2 := Lib.hid (HBr.out.trans (b2.mono HBr.out.size))
      clear b2
      go_wp2_with fail
      go_ret
      exact ⟨k, rfl, HB2.out⟩
/-- slices.ContainsFunc: is one odd? -/
theorem dContB_any (a : Option Addr) (n c : Nat) (bl : List (List UInt8)) (g : Nat) (w : World) (hB : Bls w w.heap.size a n c bl) (hg : w.cell? ⟨g, 0, none⟩ = some (.func (.func 31) #[] #[])) (r : Bool) (hr : r = true ↔ ∀ i, i < n → (bl.getD i []).length = 256) :
    Calls Tryd.prog 78 #[.slice a n c, .func (.func 79) #[] #[.pointer (some ⟨g, 0, none⟩)]] w fun e w' => e = .returned (.bool (!r)) ∧ w = w' := by
  cases r with
  | true =>
    have HI := Lib.hid (dIndexB_none a n c bl g w hB hg (hr.1 rfl))
    clear hB hg hr
    go_enter Tryd.func78, Tryd.ntmps78
    go_wp2_with fail
    refine HI.out.mono ?_
    rintro e w1 ⟨rfl, rfl⟩
    
    go_wp2_with fail
    go_ret
    exact ⟨rfl, rfl⟩
  | false =>
    obtain ⟨j, hj, hodd⟩ : ∃ i, i < n ∧ ¬ ((bl.getD i []).length = 256) := by
      apply Classical.byContradiction
      intro hn
      have : false = true := hr.2 fun i hi => Classical.byContradiction fun h => hn ⟨i, hi, h⟩
      cases this
    have HI := Lib.hid (dIndexB_some a n c bl g w hB hg j hj hodd)
    clear hB hg hr hodd
    go_enter Tryd.func78, Tryd.ntmps78
    go_wp2_with fail
    refine HI.out.mono ?_
    rintro e w1 ⟨k, rfl, rfl⟩
    have k0 : (0 : Int) ≤ k := by omega
    
    go_wp2_with fail
    go_ret
    exact ⟨rfl, rfl⟩
/-- All are as they should be: dev.allAre. -/
theorem dAllB_any (a : Option Addr) (n c : Nat) (bl : List (List UInt8)) (w : World) (hB : Bls w w.heap.size a n c bl) (r : Bool) (hr : r = true ↔ ∀ i, i < n → (bl.getD i []).length = 256) :
    Calls Tryd.prog 56 #[.slice a n c, .func (.func 31) #[] #[]] w fun e w' => e = .returned (.bool r) ∧ Below w.heap.size w w' := by
  have b0 := (Below.refl w.heap.size w).alloc (Nat.le_refl _) (.cells #[.func (.func 31) #[] #[]] 67)
  have x0 := Blk.new w 67 #[.func (.func 31) #[] #[]]
  have HI := Lib.hid (dContB_any a n c bl w.heap.size _ (hB.step b0) (x0.cell 0) r hr)
  have HB := Lib.hid b0
  clear hB hr b0 x0
  go_enter Tryd.func56, Tryd.ntmps56
  go_wp2_with fail
  refine HI.out.mono ?_
  rintro e w1 ⟨rfl, rfl⟩
  have HB2 := HB
  go_wp2_with fail
  go_ret
  exact ⟨by simp, HB2.out⟩
/-- slices.ContainsFunc: is one odd? -/
theorem dContW_any (a : Option Addr) (n c : Nat) (ws : WrL) (g : Nat) (w : World) (hB : Wts w w.heap.size a n c ws) (hlg : g < w.heap.size) (hg : w.cell? ⟨g, 0, none⟩ = some (.func (.func 58) #[] #[])) (r : Bool) (hr : r = true ↔ ∀ i, i < n → (0 ≤ (wr_ ws i).1 ∧ (wr_ ws i).1 < 256) ∧ (wr_ ws i).2.length = 256) :
    Calls Tryd.prog 80 #[.slice a n c, .func (.func 81) #[] #[.pointer (some ⟨g, 0, none⟩)]] w fun e w' => e = .returned (.bool (!r)) ∧ Below w.heap.size w w' := by
  cases r with
  | true =>
    have HI := Lib.hid (dIndexW_none a n c ws g w hB hlg hg (hr.1 rfl))
    clear hB hg hr
    go_enter Tryd.func80, Tryd.ntmps80
    go_wp2_with fail
    refine HI.out.mono ?_
    rintro e w1 ⟨rfl, b2⟩
    have HB2 := Lib.hid b2; clear b2
    go_wp2_with fail
    go_ret
    exact ⟨rfl, HB2.out⟩
  | false =>
    obtain ⟨j, hj, hodd⟩ : ∃ i, i < n ∧ ¬ ((0 ≤ (wr_ ws i).1 ∧ (wr_ ws i).1 < 256) ∧ (wr_ ws i).2.length = 256) := by
      apply Classical.byContradiction
      intro hn
      have : false = true := hr.2 fun i hi => Classical.byContradiction fun h => hn ⟨i, hi, h⟩
      cases this
    have HI := Lib.hid (dIndexW_some a n c ws g w hB hlg hg j hj hodd)
    clear hB hg hr hodd
    go_enter Tryd.func80, Tryd.ntmps80
    go_wp2_with fail
    refine HI.out.mono ?_
    rintro e w1 ⟨k, rfl, b2⟩
    have k0 : (0 : Int) ≤ k := by omega
    have HB2 := Lib.hid b2; clear b2
    go_wp2_with fail
    go_ret
    exact ⟨rfl, HB2.out⟩
/-- All are as they should be: dev.allAre. -/
theorem dAllW_any (a : Option Addr) (n c : Nat) (ws : WrL) (w : World) (hB : Wts w w.heap.size a n c ws) (r : Bool) (hr : r = true ↔ ∀ i, i < n → (0 ≤ (wr_ ws i).1 ∧ (wr_ ws i).1 < 256) ∧ (wr_ ws i).2.length = 256) :
    Calls Tryd.prog 57 #[.slice a n c, .func (.func 58) #[] #[]] w fun e w' => e = .returned (.bool r) ∧ Below w.heap.size w w' := by
  have b0 := (Below.refl w.heap.size w).alloc (Nat.le_refl _) (.cells #[.func (.func 58) #[] #[]] 92)
  have x0 := Blk.new w 92 #[.func (.func 58) #[] #[]]
  have HI := Lib.hid (dContW_any a n c ws w.heap.size _ (hB.step b0) (by rw [World.size_alloc]; omega) (x0.cell 0) r hr)
  have HB := Lib.hid b0
  clear hB hr b0 x0
  go_enter Tryd.func57, Tryd.ntmps57
  go_wp2_with fail
  refine HI.out.mono ?_
  rintro e w1 ⟨rfl, b2⟩
  have HB2 := Lib.hid (HB.out.trans (b2.mono HB.out.size)); clear b2
  go_wp2_with fail
  go_ret
  exact ⟨by simp, HB2.out⟩
/-- dev.mayBe. -/
theorem dMay_yes (x : DAt) (D : DkL) (w : World) (h : Dsk w w.heap.size x D) (hm : MayD D) : Calls Tryd.prog 29 #[dval x D] w fun e w' => e = .returned (.bool true) ∧ Below w.heap.size w w' := by
  obtain ⟨ba, bc, wa, wc⟩ := x
  obtain ⟨bl, ws⟩ := D
  obtain ⟨hB, hW⟩ := h
  obtain ⟨⟨m1, m2⟩, m3, m4⟩ := hm
  simp only [dval] at hB hW m1 m2 m3 m4 ⊢
  obtain ⟨m, hm⟩ : ∃ m, ws.length = m := ⟨_, rfl⟩
  rw [hm] at hW m3 m4 ⊢
  rw [m1] at hB ⊢
  have i0 : (m : Int) ≤ 4096 := by omega
  have b0 := (Below.refl w.heap.size w).alloc (Nat.le_refl _) (.cells #[.slice ba 256 bc, .slice wa m wc] 30)
  have x0 := Blk.new w 30 #[.slice ba 256 bc, .slice wa m wc]
  have HI := Lib.hid (dAllB_any ba 256 bc bl _ (hB.step b0) true ⟨fun _ => m2, fun _ => rfl⟩)
  have HX := Lib.hid x0
  have HB := Lib.hid b0
  have HW := Lib.hid (hW.step b0)
  have HP := Lib.hid m4
  clear hB hW b0 x0 m1 m2 m4 hm
  go_enter Tryd.func29, Tryd.ntmps29
  go_wp2_with fail
  refine HI.out.mono ?_
  rintro e w1 ⟨rfl, b1⟩
  have c0 := (HX.out.below b1 HX.out.lt).cell 0
  have c1 := (HX.out.below b1 HX.out.lt).cell 1
  have HI2 := Lib.hid (dAllW_any wa m wc ws w1 (HW.out.step b1) true ⟨fun _ => HP.out, fun _ => rfl⟩)
  have HB2 := Lib.hid (HB.out.trans (b1.mono HB.out.size))
  clear b1
  go_wp2_with fail
  refine HI2.out.mono ?_
  rintro e w2 ⟨rfl, b2⟩
  have HB3 := Lib.hid (HB2.out.trans (b2.mono HB2.out.size))
  clear b2 c0 c1
  go_wp2_with fail
  go_ret
  exact ⟨rfl, HB3.out⟩
theorem dMay_no (x : DAt) (D : DkL) (w : World) (h : Dsk w w.heap.size x D) (hm : ¬ MayD D) : Calls Tryd.prog 29 #[dval x D] w fun e w' => e = .returned (.bool false) ∧ Below w.heap.size w w' := by
  obtain ⟨ba, bc, wa, wc⟩ := x
  obtain ⟨bl, ws⟩ := D
  obtain ⟨hB, hW⟩ := h
  unfold MayD at hm
  simp only [dval] at hB hW hm ⊢
  have l1 := hB.len_le
  have l2 := hW.len_le
  obtain ⟨n, hn⟩ : ∃ n, bl.length = n := ⟨_, rfl⟩
  obtain ⟨m, hm'⟩ : ∃ m, ws.length = m := ⟨_, rfl⟩
  rw [hm'] at hW hm l2 ⊢
  rw [hn] at hB hm l1 ⊢
  have n0 : (0 : Int) ≤ n := by omega
  have m0 : (0 : Int) ≤ m := by omega
  have b0 := (Below.refl w.heap.size w).alloc (Nat.le_refl _) (.cells #[.slice ba n bc, .slice wa m wc] 30)
  have x0 := Blk.new w 30 #[.slice ba n bc, .slice wa m wc]
  have HX := Lib.hid x0
  have HB := Lib.hid b0
  have HW := Lib.hid (hW.step b0)
  have HBl := Lib.hid (hB.step b0)
  clear hB hW b0 x0 hn hm'
  by_cases h1 : n = 256
  · subst h1
    by_cases h2 : (m : Int) ≤ 4096
    · have hm2 : ¬ ((∀ i, i < 256 → (bl.getD i []).length = 256) ∧ ∀ i, i < m → (0 ≤ (wr_ ws i).1 ∧ (wr_ ws i).1 < 256) ∧ (wr_ ws i).2.length = 256) := fun hh => hm ⟨⟨rfl, hh.1⟩, by omega, hh.2⟩
      by_cases h3 : ∀ i, i < 256 → (bl.getD i []).length = 256
      · have HI := Lib.hid (dAllB_any ba 256 bc bl _ HBl.out true ⟨fun _ => h3, fun _ => rfl⟩)
        have HP := Lib.hid (show ¬ ∀ i, i < m → (0 ≤ (wr_ ws i).1 ∧ (wr_ ws i).1 < 256) ∧ (wr_ ws i).2.length = 256 from fun hh => hm2 ⟨h3, hh⟩)
        clear hm hm2 h3
        go_enter Tryd.func29, Tryd.ntmps29
        go_wp2_with fail
        refine HI.out.mono ?_
        rintro e w1 ⟨rfl, b1⟩
        have c0 := (HX.out.below b1 HX.out.lt).cell 0
        have c1 := (HX.out.below b1 HX.out.lt).cell 1
        have HI2 := Lib.hid (dAllW_any wa m wc ws w1 (HW.out.step b1) false ⟨fun h => (by cases h), fun h => absurd h HP.out⟩)
        have HB2 := Lib.hid (HB.out.trans (b1.mono HB.out.size))
        clear b1
        go_wp2_with fail
        refine HI2.out.mono ?_
        rintro e w2 ⟨rfl, b2⟩
        have HB3 := Lib.hid (HB2.out.trans (b2.mono HB2.out.size))
        clear b2 c0 c1
        go_wp2_with fail
        go_ret
        exact ⟨rfl, HB3.out⟩
      · have HI := Lib.hid (dAllB_any ba 256 bc bl _ HBl.out false ⟨fun h => (by cases h), fun h => absurd h h3⟩)
        clear hm hm2 h3
        go_enter Tryd.func29, Tryd.ntmps29
        go_wp2_with fail
        refine HI.out.mono ?_
        rintro e w1 ⟨rfl, b1⟩
        have HB2 := Lib.hid (HB.out.trans (b1.mono HB.out.size))
        clear b1
        go_wp2_with fail
        go_ret
        exact ⟨rfl, HB2.out⟩
    · clear hm
      go_enter Tryd.func29, Tryd.ntmps29
      go_wp2_with fail
      go_ret
      exact ⟨rfl, HB.out⟩
  · have h2 : ((n : Int) == 256) = false := by simp; omega
    clear hm
    go_enter Tryd.func29, Tryd.ntmps29
    go_wp2_with fail
    go_ret
    exact ⟨rfl, HB.out⟩
end Go.Proofs.YtldnelimemjaiaaDoor
/-
  Words for a map[int]int that the call made: what it holds, as a function; a lookup, a store.
-/
namespace Go.Proofs.YtldnelimemjaiaaDoor
open Go.RowKit Go.Shelf Go.Maps Go.WideShapes
set_option maxRecDepth 100000

theorem lawInt : Keyed Tryd.prog 3 := int_keyed Tryd.underlying3
theorem zeroInt (w : World) : (zeroValue 3).run Tryd.prog w = .ok (.int .i64 0) w := by kernel_rfl
/-- Block g is a map of at most n entries that holds just what f tells. -/
def MapI (w : World) (g n : Nat) (f : Int → Option Nat) : Prop :=
  ∃ D : DataW Unit, w.ownsMap Tryd.prog 3 (plainElem Tryd.prog 3) g n D ∧ IsMap D ∧ ∀ p : Int, (Lit.int .i64 p).wf = true → has D (.int .i64 p) = (f p).isSome ∧ ∀ i, f p = some i → D.atKey (.int .i64 p) (.lit (.int .i64 0)) = .lit (.int .i64 (i : Nat))
section
variable {w w' : World} {g n : Nat} {f : Int → Option Nat}
theorem MapI.lt (h : MapI w g n f) : g < w.heap.size := by obtain ⟨D, h1, _⟩ := h; exact h1.lt
theorem MapI.kept {row : Option Nat} (h : MapI w g n f) (hg : w.grownBy w' row) (hne : some g ≠ row) : MapI w' g n f := by
  obtain ⟨D, h1, h2⟩ := h
  exact ⟨D, h1.kept hg hne, h2⟩
theorem MapI.below {B : Nat} (h : MapI w g n f) (hb : Below B w w') (hg : g < B) : MapI w' g n f := by
  obtain ⟨D, ⟨es, clock, h1, h3⟩, h2⟩ := h
  exact ⟨D, ⟨es, clock, (hb.block g hg).trans h1, h3⟩, h2⟩
theorem mapI_made (w : World) : MapI (w.alloc (.map #[] 0)) w.heap.size 0 (fun _ => none) :=
  ⟨.map [], World.ownsMap_made _ _ _ _, isMap_empty, fun p _ => ⟨rfl, fun i h => by cases h⟩⟩
theorem MapI.congr {f' : Int → Option Nat} (h : MapI w g n f) (e : ∀ p, f p = f' p) : MapI w g n f' := by
  obtain rfl : f = f' := funext e
  exact h
end
section
variable {w : World} {ops : Array Oper} {rest : List Oper} {o : Oper} {a : Act} {Q : Exit → Act → World → Prop}
/-- m[p] = i. -/
theorem wpList_mapI_put (hg : o.guard = none) (m x v : Operand) (hop : o.op = Op.mapUpdate 70 m x v) (g n : Nat) (f : Int → Option Nat) (hm : a.eval m = .map (some g)) (hown : MapI w g n f) (hn : n < maxLen)
    (p : Int) (i : Nat) (hp : (Lit.int .i64 p).wf = true) (hi : (i : Int) ≤ 9223372036854775807) (hx : a.eval x = .int .i64 p) (hv : a.eval v = .int .i64 (i : Nat))
    (hK : ∀ w', MapI w' g (n + 1) (fun q => if q = p then some i else f q) → w.grownBy w' (some g) → wpList Tryd.prog ops Q rest (a.put o.dst undef) w') : wpList Tryd.prog ops Q (o :: rest) a w := by
  obtain ⟨D, h1, h2, h3⟩ := hown
  have hwi : (Lit.int .i64 (i : Nat)).wf = true := by simp [Lit.wf, IntKind.min, IntKind.max, IntKind.signed, IntKind.bits]; omega
  refine wpList_mapUpdate_own w hg m x v 70 hop 3 3 lawInt Tryd.underlying70 _ g n D hm h1 hn (.int .i64 p) (.int .i64 (i : Nat)) (.int .i64 p) hx hv (keyOf_int_mk Tryd.underlying3 hp) (.lit (.int .i64 (i : Nat))) [] (plainElem_int Tryd.underlying3 hwi) ?_
  intro w' hw' hgr
  refine hK w' ⟨_, hw', h2.put _ _, fun q hq => ?_⟩ hgr
  by_cases e : q = p
  · subst e
    have ef : (fun r => if r = q then some i else f r) q = some i := if_pos rfl
    have hk : WideAt.IsKeyLit (.int .i64 q) := by unfold WideAt.IsKeyLit; exact trivial
    rw [ef]
    refine ⟨has_put_same h2 hk _, fun j hj => ?_⟩
    cases hj
    exact atKey_put_same h2 hk _ _
  · have hne : (Lit.int .i64 q) ≠ (Lit.int .i64 p) := fun h => e (by injection h)
    have ef : (fun r => if r = p then some i else f r) q = f q := if_neg e
    obtain ⟨h4, h5⟩ := h3 q hq
    rw [ef]
    refine ⟨by rw [has_put_other hne, h4], fun j hj => ?_⟩
    rw [atKey_put_other hne]
    exact h5 j hj
/-- i, ok := m[p]. -/
theorem wpList_mapI_get (hg : o.guard = none) (m x : Operand) (hop : o.op = Op.lookup 70 m x true) (g n : Nat) (f : Int → Option Nat) (hm : a.eval m = .map (some g)) (hown : MapI w g n f)
    (p : Int) (hp : (Lit.int .i64 p).wf = true) (hx : a.eval x = .int .i64 p)
    (hK : ∀ c : Int, (∀ i, f p = some i → c = (i : Nat)) → wpList Tryd.prog ops Q rest (a.put o.dst (.tuple #[.int .i64 c, .bool (f p).isSome])) w) : wpList Tryd.prog ops Q (o :: rest) a w := by
  obtain ⟨D, h1, h2, h3⟩ := hown
  refine wpList_lookup_own_ok_int w hg m x 70 hop 3 3 .i64 lawInt Tryd.underlying70 Tryd.underlying3 (zeroInt w) g n D hm h1 (.int .i64 p) (.int .i64 p) hx (keyOf_int_mk Tryd.underlying3 hp) ?_
  intro c hat hwc
  obtain ⟨h4, h5⟩ := h3 p hp
  rw [h4]
  refine hK c fun i hi => ?_
  rw [h5 i hi] at hat
  injection hat with hat
  injection hat with _ hat
  exact hat.symm
theorem wpList_mapI_some (hg : o.guard = none) (m x : Operand) (hop : o.op = Op.lookup 70 m x true) (g n : Nat) (f : Int → Option Nat) (hm : a.eval m = .map (some g)) (hown : MapI w g n f)
    (p : Int) (hp : (Lit.int .i64 p).wf = true) (hx : a.eval x = .int .i64 p) (i : Nat) (hf : f p = some i)
    (hK : wpList Tryd.prog ops Q rest (a.put o.dst (.tuple #[.int .i64 (i : Nat), .bool true])) w) : wpList Tryd.prog ops Q (o :: rest) a w :=
  wpList_mapI_get hg m x hop g n f hm hown p hp hx fun c hc => by
    rw [hf, hc i hf]
    exact hK
theorem wpList_mapI_none (hg : o.guard = none) (m x : Operand) (hop : o.op = Op.lookup 70 m x true) (g n : Nat) (f : Int → Option Nat) (hm : a.eval m = .map (some g)) (hown : MapI w g n f)
    (p : Int) (hp : (Lit.int .i64 p).wf = true) (hx : a.eval x = .int .i64 p) (hf : f p = none)
    (hK : ∀ c : Int, wpList Tryd.prog ops Q rest (a.put o.dst (.tuple #[.int .i64 c, .bool false])) w) : wpList Tryd.prog ops Q (o :: rest) a w :=
  wpList_mapI_get hg m x hop g n f hm hown p hp hx fun c _ => by
    rw [hf]
    exact hK c
end
end Go.Proofs.YtldnelimemjaiaaDoor
/-
  dev.lastOnes tells for each block which is the last one of the writes whose mark is true.
-/
namespace Go.Proofs.YtldnelimemjaiaaDoor
open Go.RowKit Go.Shelf
set_option maxRecDepth 100000

/-- A new map that tells of each block its last one among the first m. -/
def LastPost (ws : WrL) (mk : Nat → Bool) (m : Nat) (w : World) (e : Ending) (w' : World) : Prop :=
  ∃ g, e = .returned (.map (some g)) ∧ w.heap.size ≤ g ∧ MapI w' g m (fun p => lastTo ws mk p m) ∧ Below w.heap.size w w'
theorem lastTo_put {ws : WrL} {mk : Nat → Bool} {k : Nat} {p : Int} {s : List UInt8} (h : wr_ ws k = (p, s)) (hm : mk k = true) (q : Int) : (if q = p then some k else lastTo ws mk q k) = lastTo ws mk q (k + 1) := by
  rw [lastTo, h]
  by_cases e : q = p
  · rw [if_pos e, if_pos ⟨hm, e.symm⟩]
  · rw [if_neg e, if_neg (fun h => e h.2.symm)]
theorem lastTo_skip {ws : WrL} {mk : Nat → Bool} {k : Nat} (hm : mk k = false) (q : Int) : lastTo ws mk q k = lastTo ws mk q (k + 1) := by
  rw [lastTo, if_neg (fun h => by rw [hm] at h; cases h.1)]
set_option maxHeartbeats 1000000 in
theorem dLast1_any (a : Option Addr) (m c : Nat) (ws : WrL) (mk : Nat → Bool) (pa : Addr) (w : World) (hW : Wts w w.heap.size a m c ws)
    (hF : ∀ W, Below w.heap.size w W → ∀ i, i < m → Calls Tryd.prog 34 #[.int .i64 (i : Nat), .pointer (some pa)] W fun e w' => e = .returned (.bool (mk i)) ∧ Below W.heap.size W w') :
    Calls Tryd.prog 35 #[.slice a m c, .func (.func 34) #[] #[.pointer (some pa)]] w (LastPost ws mk m w) := by
  have hmm := @run_makeMap Tryd.prog
  have m0 : (0 : Int) ≤ m := by omega
  have m1 := hW.len_le
  obtain ⟨g, hg⟩ : ∃ g, w.heap.size = g := ⟨_, rfl⟩
  obtain ⟨w0, hw0⟩ : ∃ w0, w.alloc (.map #[] 0) = w0 := ⟨_, rfl⟩
  have hM := mapI_made w
  have hb0 : Below w.heap.size w w0 := by rw [← hw0]; exact (Below.refl _ w).alloc (Nat.le_refl _) _
  rw [hw0, hg] at hM
  rw [hg] at hb0
  have hM0 : MapI w0 g 0 (fun p => lastTo ws mk p 0) := hM
  have HW := Lib.hid hW
  have HF := Lib.hid hF
  have HG := Lib.hid hg
  have HM0 := Lib.hid hM0
  have HB0 := Lib.hid hb0
  clear hW hF hM hM0 hb0
  go_enter Tryd.func35, Tryd.ntmps35
  go_wp2_with fail
  clear hg hw0
  go_loopw [11] (fun i wr => ∃ k : Nat, k ≤ m ∧ i = .int .i64 k ∧ Hid (MapI wr g k (fun p => lastTo ws mk p k)) ∧ Hid (Below g w wr)) (fun i _ => m - (intOf i).toNat)
  case atStart => exact ⟨0, Nat.zero_le _, rfl, HM0, HB0⟩
  case round =>
    obtain ⟨k, hk, rfl, HM, HB⟩ := hrel
    have k0 : (0 : Int) ≤ k := by omega
    by_cases hlt : k < m
    · have k1 : (k : Int) < m := by omega
      obtain ⟨b, off, p, A, l, c', s, rfl, hlb, hl, hwf, hc, hd, hA⟩ := HW.out.at_ hlt
      rw [HG.out] at hlb
      have c1 := (HB.out.cell (p := ⟨b, off + k * 2, none⟩) hlb).trans hc
      have c2 := (HB.out.cell (p := ⟨b, off + k * 2 + 1, none⟩) hlb).trans hd
      have hx := Blk.new wr 64 #[.int .i64 p, .slice A l c']
      have ba := (Below.refl wr.heap.size wr).alloc (Nat.le_refl _) (.cells #[.int .i64 p, .slice A l c'] 64)
      have hgr : g < wr.heap.size := HM.out.lt
      have ha := HM.out.below ba hgr
      have hb := HB.out.trans (ba.mono (Nat.le_of_lt hgr))
      have hcl := HF.out _ (by rw [HG.out]; exact hb) k hlt
      obtain ⟨wa, hwa⟩ : ∃ wa, wr.alloc (.cells #[.int .i64 p, .slice A l c'] 64) = wa := ⟨_, rfl⟩
      obtain ⟨gt, hgt⟩ : ∃ gt, wr.heap.size = gt := ⟨_, rfl⟩
      rw [hwa, hgt] at hx
      rw [hwa] at ha hb hcl
      rw [hgt] at hgr
      have HX := Lib.hid hx
      have HA := Lib.hid ha
      have HBa := Lib.hid hb
      have HC := Lib.hid hcl
      have HL := Lib.hid hl
      have HWF := Lib.hid hwf
      clear hc hd hA ba hx ha hb hcl HM HB hl hwf
      go_wp2_with fail
      refine HC.out.mono ?_
      rintro e w1 ⟨rfl, b1⟩
      have hgw := HA.out.lt
      have HB1 := Lib.hid (HBa.out.trans (b1.mono (by omega)))
      have HM1 := Lib.hid (HA.out.below b1 hgw)
      have d0 := (HX.out.below b1 HX.out.lt).cell 0
      clear b1 hgt hwa c1 c2 HC HA HBa HX hgw hgr
      by_cases hm : mk k = true
      · have HMK := Lib.hid hm
        go_wp2_with (at_mapUpdate; refine wpList_mapI_put rfl (.tmp 19) (.tmp 21) (.tmp 22) rfl g k _ rfl HM1.out (by unfold maxLen; omega) p k HWF.out (by omega) rfl rfl ?_
                     intro w2 hm2 hg2
                     have HM2 := Lib.hid (hm2.congr (lastTo_put HL.out HMK.out))
                     have HB2 := Lib.hid (HB1.out.grown hg2 (by have := HM1.out.lt; omega) (fun j e => by cases e; exact Nat.le_refl _))
                     clear hm2 hg2)
        go_roundw
        case rel => exact ⟨k + 1, by omega, by go_num, HM2, HB2⟩
        case measure => simp [intOf]; omega
      · have hm' : mk k = false := by simpa using hm
        have HM2 := Lib.hid ((HM1.out.congr (lastTo_skip hm')))
        clear hm
        go_wp2_with fail
        go_roundw
        case rel =>
          obtain ⟨D, h1, h2⟩ := HM2.out
          exact ⟨k + 1, by omega, by go_num, Lib.hid ⟨D, h1.mono (Nat.le_succ _), h2⟩, HB1⟩
        case measure => simp [intOf]; omega
    · obtain rfl : k = m := by omega
      go_wp2_with fail
      go_ret
      exact ⟨g, rfl, by rw [HG.out]; exact Nat.le_refl _, HM.out, by rw [HG.out]; exact HB.out⟩
set_option maxHeartbeats 1000000 in
theorem dLast2_any (a : Option Addr) (m c : Nat) (ws : WrL) (mk : Nat → Bool) (pa pb : Addr) (w : World) (hW : Wts w w.heap.size a m c ws)
    (hF : ∀ W, Below w.heap.size w W → ∀ i, i < m → Calls Tryd.prog 36 #[.int .i64 (i : Nat), .pointer (some pa), .pointer (some pb)] W fun e w' => e = .returned (.bool (mk i)) ∧ Below W.heap.size W w') :
    Calls Tryd.prog 35 #[.slice a m c, .func (.func 36) #[] #[.pointer (some pa), .pointer (some pb)]] w (LastPost ws mk m w) := by
  have hmm := @run_makeMap Tryd.prog
  have m0 : (0 : Int) ≤ m := by omega
  have m1 := hW.len_le
  obtain ⟨g, hg⟩ : ∃ g, w.heap.size = g := ⟨_, rfl⟩
  obtain ⟨w0, hw0⟩ : ∃ w0, w.alloc (.map #[] 0) = w0 := ⟨_, rfl⟩
  have hM := mapI_made w
  have hb0 : Below w.heap.size w w0 := by rw [← hw0]; exact (Below.refl _ w).alloc (Nat.le_refl _) _
  rw [hw0, hg] at hM
  rw [hg] at hb0
  have hM0 : MapI w0 g 0 (fun p => lastTo ws mk p 0) := hM
  have HW := Lib.hid hW
  have HF := Lib.hid hF
  have HG := Lib.hid hg
  have HM0 := Lib.hid hM0
  have HB0 := Lib.hid hb0
  clear hW hF hM hM0 hb0
  go_enter Tryd.func35, Tryd.ntmps35
  go_wp2_with fail
  clear hg hw0
  go_loopw [11] (fun i wr => ∃ k : Nat, k ≤ m ∧ i = .int .i64 k ∧ Hid (MapI wr g k (fun p => lastTo ws mk p k)) ∧ Hid (Below g w wr)) (fun i _ => m - (intOf i).toNat)
  case atStart => exact ⟨0, Nat.zero_le _, rfl, HM0, HB0⟩
  case round =>
    obtain ⟨k, hk, rfl, HM, HB⟩ := hrel
    have k0 : (0 : Int) ≤ k := by omega
    by_cases hlt : k < m
    · have k1 : (k : Int) < m := by omega
      obtain ⟨b, off, p, A, l, c', s, rfl, hlb, hl, hwf, hc, hd, hA⟩ := HW.out.at_ hlt
      rw [HG.out] at hlb
      have c1 := (HB.out.cell (p := ⟨b, off + k * 2, none⟩) hlb).trans hc
      have c2 := (HB.out.cell (p := ⟨b, off + k * 2 + 1, none⟩) hlb).trans hd
      have hx := Blk.new wr 64 #[.int .i64 p, .slice A l c']
      have ba := (Below.refl wr.heap.size wr).alloc (Nat.le_refl _) (.cells #[.int .i64 p, .slice A l c'] 64)
      have hgr : g < wr.heap.size := HM.out.lt
      have ha := HM.out.below ba hgr
      have hb := HB.out.trans (ba.mono (Nat.le_of_lt hgr))
      have hcl := HF.out _ (by rw [HG.out]; exact hb) k hlt
      obtain ⟨wa, hwa⟩ : ∃ wa, wr.alloc (.cells #[.int .i64 p, .slice A l c'] 64) = wa := ⟨_, rfl⟩
      obtain ⟨gt, hgt⟩ : ∃ gt, wr.heap.size = gt := ⟨_, rfl⟩
      rw [hwa, hgt] at hx
      rw [hwa] at ha hb hcl
      rw [hgt] at hgr
      have HX := Lib.hid hx
      have HA := Lib.hid ha
      have HBa := Lib.hid hb
      have HC := Lib.hid hcl
      have HL := Lib.hid hl
      have HWF := Lib.hid hwf
      clear hc hd hA ba hx ha hb hcl HM HB hl hwf
      go_wp2_with fail
      refine HC.out.mono ?_
      rintro e w1 ⟨rfl, b1⟩
      have hgw := HA.out.lt
      have HB1 := Lib.hid (HBa.out.trans (b1.mono (by omega)))
      have HM1 := Lib.hid (HA.out.below b1 hgw)
      have d0 := (HX.out.below b1 HX.out.lt).cell 0
      clear b1 hgt hwa c1 c2 HC HA HBa HX hgw hgr
      by_cases hm : mk k = true
      · have HMK := Lib.hid hm
        go_wp2_with (at_mapUpdate; refine wpList_mapI_put rfl (.tmp 19) (.tmp 21) (.tmp 22) rfl g k _ rfl HM1.out (by unfold maxLen; omega) p k HWF.out (by omega) rfl rfl ?_
                     intro w2 hm2 hg2
                     have HM2 := Lib.hid (hm2.congr (lastTo_put HL.out HMK.out))
                     have HB2 := Lib.hid (HB1.out.grown hg2 (by have := HM1.out.lt; omega) (fun j e => by cases e; exact Nat.le_refl _))
                     clear hm2 hg2)
        go_roundw
        case rel => exact ⟨k + 1, by omega, by go_num, HM2, HB2⟩
        case measure => simp [intOf]; omega
      · have hm' : mk k = false := by simpa using hm
        have HM2 := Lib.hid ((HM1.out.congr (lastTo_skip hm')))
        clear hm
        go_wp2_with fail
        go_roundw
        case rel =>
          obtain ⟨D, h1, h2⟩ := HM2.out
          exact ⟨k + 1, by omega, by go_num, Lib.hid ⟨D, h1.mono (Nat.le_succ _), h2⟩, HB1⟩
        case measure => simp [intOf]; omega
    · obtain rfl : k = m := by omega
      go_wp2_with fail
      go_ret
      exact ⟨g, rfl, by rw [HG.out]; exact Nat.le_refl _, HM.out, by rw [HG.out]; exact HB.out⟩
end Go.Proofs.YtldnelimemjaiaaDoor
/-
  dev.left tells what last ones leave of a block; the closures that tell marks.
-/
namespace Go.Proofs.YtldnelimemjaiaaDoor
open Go.RowKit Go.Shelf
set_option maxRecDepth 100000

/-- A list below block B that reads as s. -/
def ReadPost (B : Nat) (s : List UInt8) (w : World) (e : Ending) (w' : World) : Prop := ∃ A c, e = .returned (.slice A s.length c) ∧ Bsl w' B A s.length c s ∧ Below w.heap.size w w'
theorem wf64 {p : Int} (h0 : -9223372036854775808 ≤ p) (h1 : p ≤ 9223372036854775807) : (Lit.int .i64 p).wf = true := by simp [Lit.wf, IntKind.min, IntKind.max, IntKind.signed, IntKind.bits]; omega
set_option maxHeartbeats 1000000 in
theorem dLeft_some (B : Nat) (x : DAt) (D : DkL) (g N : Nat) (f : Int → Option Nat) (p : Int) (i : Nat) (w : World) (hB : B ≤ w.heap.size) (h : Dsk w B x D) (hM : MapI w g N f) (hp : (Lit.int .i64 p).wf = true) (hf : f p = some i) (hi : i < D.2.length) :
    Calls Tryd.prog 38 #[dval x D, .map (some g), .int .i64 p] w (ReadPost B (wr_ D.2 i).2 w) := by
  obtain ⟨b, off, q, A, l, c, s, hbe, hlb, hl, _, hc, hd, hA⟩ := h.2.at_ hi
  obtain ⟨ba, bc, wa, wc⟩ := x
  obtain rfl : wa = some ⟨b, off, none⟩ := hbe
  simp only [dval]
  have m1 := h.2.len_le
  obtain ⟨n, hn⟩ : ∃ n, D.1.length = n := ⟨_, rfl⟩
  obtain ⟨m, hm⟩ : ∃ m, D.2.length = m := ⟨_, rfl⟩
  rw [hm] at m1 hi
  have i0 : (0 : Int) ≤ i := by omega
  have i1 : (i : Int) < m := by omega
  have hb := (Below.refl w.heap.size w).alloc (Nat.le_refl _) (.cells #[.slice ba D.1.length bc, .slice (some ⟨b, off, none⟩) D.2.length wc] 30)
  have hx := Blk.new w 30 #[.slice ba D.1.length bc, .slice (some ⟨b, off, none⟩) D.2.length wc]
  have hM1 := hM.below hb hM.lt
  have c1 := (hb.cell (p := ⟨b, off + i * 2, none⟩) (Nat.lt_of_lt_of_le hlb hB)).trans hc
  have c2 := (hb.cell (p := ⟨b, off + i * 2 + 1, none⟩) (Nat.lt_of_lt_of_le hlb hB)).trans hd
  have hA1 := hA.below (hb.mono hB)
  rw [hn, hm] at hb hx hM1 c1 c2 hA1 ⊢
  rw [hl]
  have hls := hA.1
  subst hls
  have HB := Lib.hid hb
  have HX := Lib.hid hx
  have HM := Lib.hid hM1
  have HA := Lib.hid hA1
  have HP := Lib.hid hp
  have HF := Lib.hid hf
  clear h hM hb hx hM1 hc hd hA hA1 hl hn hm hp hf
  go_enter Tryd.func38, Tryd.ntmps38
  go_wp2_with (at_lookup; refine wpList_mapI_some rfl (.tmp 10) (.tmp 11) rfl g N f rfl HM.out p HP.out rfl i HF.out ?_)
  go_ret
  exact ⟨A, c, rfl, HA.out, HB.out⟩
set_option maxHeartbeats 1000000 in
theorem dLeft_none (B : Nat) (x : DAt) (D : DkL) (g N : Nat) (f : Int → Option Nat) (p : Nat) (w : World) (hB : B ≤ w.heap.size) (h : Dsk w B x D) (hM : MapI w g N f) (hf : f (p : Int) = none) (hp : p < D.1.length) :
    Calls Tryd.prog 38 #[dval x D, .map (some g), .int .i64 p] w (ReadPost B (D.1.getD p []) w) := by
  have m1 := h.1.len_le
  obtain ⟨b, off, A, l, c, s, hbe, hlb, hl, hc, hA⟩ := h.1.at_ hp
  obtain ⟨ba, bc, wa, wc⟩ := x
  obtain rfl : ba = some ⟨b, off, none⟩ := hbe
  simp only [dval]
  obtain ⟨n, hn⟩ : ∃ n, D.1.length = n := ⟨_, rfl⟩
  obtain ⟨m, hm⟩ : ∃ m, D.2.length = m := ⟨_, rfl⟩
  rw [hn] at m1 hp
  have i0 : (0 : Int) ≤ p := by omega
  have i1 : (p : Int) < n := by omega
  have hwf := wf64 (p := p) (by omega) (by omega)
  have hb := (Below.refl w.heap.size w).alloc (Nat.le_refl _) (.cells #[.slice (some ⟨b, off, none⟩) D.1.length bc, .slice wa D.2.length wc] 30)
  have hx := Blk.new w 30 #[.slice (some ⟨b, off, none⟩) D.1.length bc, .slice wa D.2.length wc]
  have hM1 := hM.below hb hM.lt
  have c1 := (hb.cell (p := ⟨b, off + p, none⟩) (Nat.lt_of_lt_of_le hlb hB)).trans hc
  have hA1 := hA.below (hb.mono hB)
  rw [hn, hm] at hb hx hM1 c1 hA1 ⊢
  rw [hl]
  have hls := hA.1
  subst hls
  have HB := Lib.hid hb
  have HX := Lib.hid hx
  have HM := Lib.hid hM1
  have HA := Lib.hid hA1
  have HP := Lib.hid hwf
  have HF := Lib.hid hf
  clear h hM hb hx hM1 hc hA hA1 hl hn hm hwf hf
  go_enter Tryd.func38, Tryd.ntmps38
  go_wp2_with (at_lookup; refine wpList_mapI_none rfl (.tmp 10) (.tmp 11) rfl g N f rfl HM.out p HP.out rfl HF.out ?_; intro cx)
  go_ret
  exact ⟨A, c, rfl, HA.out, HB.out⟩
/-- What last ones leave. -/
theorem dLeft_any (B : Nat) (x : DAt) (D : DkL) (g N : Nat) (mk : Nat → Bool) (p : Nat) (w : World) (hB : B ≤ w.heap.size) (h : Dsk w B x D) (hM : MapI w g N (fun q => lastTo D.2 mk q D.2.length)) (hp : p < D.1.length) :
    Calls Tryd.prog 38 #[dval x D, .map (some g), .int .i64 p] w (ReadPost B (leftD D mk p) w) := by
  have m1 := h.1.len_le
  unfold leftD
  split
  · rename_i i hi
    exact dLeft_some B x D g N _ p i w hB h hM (wf64 (by omega) (by omega)) hi (lastTo_lt hi).1
  · rename_i hi
    exact dLeft_none B x D g N _ p w hB h hM hi hp
/-- A slice of marks that lies below block B reads as ks. -/
def Mks (w : World) (B : Nat) (a : Option Addr) (len cap : Nat) (ks : List Bool) : Prop :=
  ks.length = len ∧ len ≤ cap ∧ cap ≤ maxLen ∧ (0 < len → ∃ b off, a = some ⟨b, off, none⟩ ∧ b < B ∧ ∀ i, i < len → w.cell? ⟨b, off + i, none⟩ = some (.bool (ks.getD i false)))
theorem Mks.below {w w' : World} {B len cap : Nat} {a : Option Addr} {ks : List Bool} (h : Mks w B a len cap ks) (hb : Below B w w') : Mks w' B a len cap ks := by
  obtain ⟨h1, h2, h3, h4⟩ := h
  refine ⟨h1, h2, h3, fun hl => ?_⟩
  obtain ⟨b, off, e, hlt, hc⟩ := h4 hl
  exact ⟨b, off, e, hlt, fun i hi => (hb.cell (p := ⟨b, off + i, none⟩) hlt).trans (hc i hi)⟩
theorem Mks.more {w : World} {B B' len cap : Nat} {a : Option Addr} {ks : List Bool} (h : Mks w B a len cap ks) (hB : B ≤ B') : Mks w B' a len cap ks := by
  obtain ⟨h1, h2, h3, h4⟩ := h
  refine ⟨h1, h2, h3, fun hl => ?_⟩
  obtain ⟨b, off, e, hlt, hc⟩ := h4 hl
  exact ⟨b, off, e, by omega, hc⟩
theorem Mks.step {w w' : World} {len cap : Nat} {a : Option Addr} {ks : List Bool} (h : Mks w w.heap.size a len cap ks) (hb : Below w.heap.size w w') : Mks w' w'.heap.size a len cap ks := (h.below hb).more hb.size
theorem Mks.len_le {w : World} {B len cap : Nat} {a : Option Addr} {ks : List Bool} (h : Mks w B a len cap ks) : (len : Int) ≤ 9223372036854775807 := by have h1 := h.2.1; have h2 := h.2.2.1; unfold maxLen at h2; omega
theorem dMark_any (B : Nat) (a : Option Addr) (n c : Nat) (ks : List Bool) (gk i : Nat) (w : World) (hk : Mks w B a n c ks) (hg : w.cell? ⟨gk, 0, none⟩ = some (.slice a n c)) (hi : i < n) :
    Calls Tryd.prog 34 #[.int .i64 (i : Nat), .pointer (some ⟨gk, 0, none⟩)] w fun e w' => e = .returned (.bool (ks.getD i false)) ∧ Below w.heap.size w w' := by
  have i0 : (0 : Int) ≤ i := by omega
  have i1 : (i : Int) < n := by omega
  obtain ⟨b, off, rfl, _, hc⟩ := hk.2.2.2 (by omega)
  have c1 := hc i hi
  obtain ⟨r, hr⟩ : ∃ r, ks.getD i false = r := ⟨_, rfl⟩
  rw [hr] at c1 ⊢
  clear hc hk hr
  go_enter Tryd.func34, Tryd.ntmps34
  go_wp2_with fail
  go_ret
  exact ⟨rfl, Below.refl _ _⟩
theorem dGoes_any (B : Nat) (x : DAt) (D : DkL) (gd ga : Nat) (p : Int) (i : Nat) (w : World) (h : Dsk w B x D) (hd : Blk w gd 30 #[.slice x.ba D.1.length x.bc, .slice x.wa D.2.length x.wc]) (hp : w.cell? ⟨ga, 0, none⟩ = some (.int .i64 p)) (hi : i < D.2.length) :
    Calls Tryd.prog 36 #[.int .i64 (i : Nat), .pointer (some ⟨gd, 0, none⟩), .pointer (some ⟨ga, 0, none⟩)] w fun e w' => e = .returned (.bool (decide ((wr_ D.2 i).1 = p))) ∧ Below w.heap.size w w' := by
  obtain ⟨b, off, q, A, l, c, s, hbe, hlb, hl, _, hc, _, hA⟩ := h.2.at_ hi
  obtain ⟨ba, bc, wa, wc⟩ := x
  obtain rfl : wa = some ⟨b, off, none⟩ := hbe
  have m1 := h.2.len_le
  obtain ⟨m, hm⟩ : ∃ m, D.2.length = m := ⟨_, rfl⟩
  rw [hm] at m1 hi
  rw [hl]
  have i0 : (0 : Int) ≤ i := by omega
  have i1 : (i : Int) < m := by omega
  have d1 : w.cell? ⟨gd, 1, none⟩ = some (.slice (some ⟨b, off, none⟩) m wc) := by rw [← hm]; exact hd.cell 1
  have e : (q == p) = decide (q = p) := rfl
  have HB := Lib.hid (fun k => below_drewN (Below.refl w.heap.size w) k)
  have HE := Lib.hid e
  clear h hd hA hm hl e
  go_enter Tryd.func36, Tryd.ntmps36
  go_wp2_with fail
  go_quiet (fail)
  go_wp2_with fail
  go_ret
  exact ⟨by first | rfl | (rw [← HE.out]; rfl), HB.out _⟩
end Go.Proofs.YtldnelimemjaiaaDoor
/-
  dev.settled of a disk that may be answers what the writes leave whose mark is true, laid in one new piece.
-/
namespace Go.Proofs.YtldnelimemjaiaaDoor
open Go.RowKit Go.Shelf
set_option maxRecDepth 100000

/-- A row of one's own whose first k cells are lists below block B that read as f tells. -/
def RowsI (B : Nat) (f : Nat → List UInt8) (hb n k : Nat) (w : World) : Prop := ∃ cb, Blk w hb 44 cb ∧ cb.size = n ∧ ∀ i, i < k → ∃ A c, cb[i]? = some (.slice A (f i).length c) ∧ Bsl w B A (f i).length c (f i)
theorem RowsI.below {B : Nat} {f : Nat → List UInt8} {hb n k : Nat} {w w' : World} (h : RowsI B f hb n k w) (hB : B ≤ w.heap.size) (hw : Below w.heap.size w w') : RowsI B f hb n k w' := by
  obtain ⟨cb, h1, h2, h3⟩ := h
  refine ⟨cb, h1.below hw h1.lt, h2, fun i hi => ?_⟩
  obtain ⟨A, c, h4, h5⟩ := h3 i hi
  exact ⟨A, c, h4, h5.below (hw.mono hB)⟩
theorem RowsI.put {B : Nat} {f : Nat → List UInt8} {hb n k : Nat} {w : World} (h : RowsI B f hb n k w) (hB : B ≤ hb) (hk : k < n) {A : Option Addr} {c : Nat} (hs : Bsl w B A (f k).length c (f k)) : RowsI B f hb n (k + 1) (w.setCell ⟨hb, k, none⟩ (.slice A (f k).length c)) := by
  obtain ⟨cb, h1, h2, h3⟩ := h
  have hb' : Below B w (w.setCell ⟨hb, k, none⟩ (.slice A (f k).length c)) := (Below.refl B w).setCell (p := ⟨hb, k, none⟩) hB _
  refine ⟨_, h1.set_ k _, by simpa using h2, fun i hi => ?_⟩
  rcases Nat.lt_or_ge i k with h9 | h9
  · obtain ⟨A', c', h4, h5⟩ := h3 i h9
    exact ⟨A', c', by rw [Array.getElem?_setIfInBounds, if_neg (by omega)]; exact h4, h5.below hb'⟩
  · obtain rfl : i = k := by omega
    exact ⟨A, c, by rw [Array.getElem?_setIfInBounds, if_pos rfl, if_pos (by omega)], hs.below hb'⟩
theorem RowsI.bls {B : Nat} {f : Nat → List UInt8} {hb n : Nat} {w : World} (h : RowsI B f hb n n w) (hB : B ≤ w.heap.size) (hn : n ≤ 1000000) : Bls w w.heap.size (some ⟨hb, 0, none⟩) n n ((List.range n).map f) := by
  obtain ⟨cb, h1, h2, h3⟩ := h
  refine ⟨by simp, Nat.le_refl _, by unfold maxLen; omega, fun h0 => ⟨hb, 0, rfl, h1.lt, fun i hi => ?_⟩⟩
  obtain ⟨A, c, h4, h5⟩ := h3 i hi
  have e : ((List.range n).map f).getD i [] = f i := by simp [List.getD_eq_getElem?_getD, hi]
  rw [e]
  exact ⟨A, c, by rw [Nat.zero_add, h1.cell, h4], h5.more hB⟩
set_option maxHeartbeats 2000000 in
theorem dSettled1_any (x : DAt) (D : DkL) (mk : Nat → Bool) (pa : Addr) (w : World) (h : Dsk w w.heap.size x D) (hmay : MayD D)
    (hF : ∀ W, Below w.heap.size w W → ∀ i, i < D.2.length → Calls Tryd.prog 34 #[.int .i64 (i : Nat), .pointer (some pa)] W fun e w' => e = .returned (.bool (mk i)) ∧ Below W.heap.size W w') :
    Calls Tryd.prog 33 #[dval x D, .func (.func 34) #[] #[.pointer (some pa)]] w (LaidPost (keptD D mk) w) := by
  obtain ⟨ba, bc, wa, wc⟩ := x
  have hl1 := hmay.1.1
  have hfits := may_fits (keptD_may hmay mk)
  have hkl := keptD_length D mk
  simp only [dval]
  rw [hl1]
  have hmk : ∀ W : World, (Instr.makeSlice 27 (.int .i64 256) (.int .i64 256)).run Tryd.prog W = .ok (.slice (some ⟨W.heap.size, 0, none⟩) 256 256) (W.alloc (.cells (Array.replicate 256 (.slice none 0 0)) 44)) := make_rows 256 (by omega)
  obtain ⟨m, hm⟩ : ∃ m, D.2.length = m := ⟨_, rfl⟩
  obtain ⟨B, hB⟩ : ∃ B, w.heap.size = B := ⟨_, rfl⟩
  obtain ⟨w0, hw0⟩ : ∃ w0, (w.alloc (.cells #[.slice ba 256 bc, .slice wa m wc] 30)).alloc (.cells #[.slice none 0 0, .slice none 0 0] 30) = w0 := ⟨_, rfl⟩
  have b0 : Below B w w0 := by rw [← hw0, ← hB]; exact ((Below.refl _ w).alloc (Nat.le_refl _) _).alloc (by simp) _
  have z0 : w0.heap.size = B + 2 := by rw [← hw0, ← hB]; simp
  have x0 : Blk w0 B 30 #[.slice ba 256 bc, .slice wa m wc] := by rw [← hw0, ← hB]; exact (Blk.new w _ _).alloc _
  have x1 : Blk w0 (B + 1) 30 #[.slice none 0 0, .slice none 0 0] := by
    have := Blk.new (w.alloc (.cells #[.slice ba 256 bc, .slice wa m wc] 30)) 30 #[.slice none 0 0, .slice none 0 0]
    rw [World.size_alloc, hB, hw0] at this
    exact this
  have hD0 : Dsk w0 B ⟨ba, bc, wa, wc⟩ D := by
    rw [← hB] at b0 ⊢
    exact ⟨h.1.below b0, h.2.below b0⟩
  have hW0 := (hD0.2.more (B' := w0.heap.size) (by omega))
  have hl := dLast1_any wa m wc D.2 mk pa w0 (by rw [← hm]; exact hW0) (fun W hW i hi => hF W (by rw [hB]; exact b0.trans (hW.mono (by omega))) i (by rw [hm]; exact hi))
  rw [hm]
  have c0 := x0.cell 0
  have c1 := x0.cell 1
  have HL := Lib.hid hl
  have HX0 := Lib.hid x0
  have HX1 := Lib.hid x1
  have HB0 := Lib.hid b0
  have HZ0 := Lib.hid z0
  have HD := Lib.hid hD0
  have HM := Lib.hid hm
  have HBB := Lib.hid hB
  have HMAY := Lib.hid hmay
  have HFI := Lib.hid hfits
  have HKL := Lib.hid hkl
  have HL1 := Lib.hid hl1
  clear hl x0 x1 b0 z0 hD0 hm hmay hF h hfits hkl hl1 hW0
  go_enter Tryd.func33, Tryd.ntmps33
  go_wp2_with fail
  clear hw0 c0 c1 hB
  refine HL.out.mono ?_
  rintro e w1 ⟨g, rfl, hge, hM1, b1⟩
  have c0 := (HX0.out.below b1 HX0.out.lt).cell 0
  have c1 := (HX0.out.below b1 HX0.out.lt).cell 1
  obtain ⟨hb, hhb⟩ : ∃ hb, w1.heap.size = hb := ⟨_, rfl⟩
  obtain ⟨w2, hw2⟩ : ∃ w2, w1.alloc (.cells (Array.replicate 256 (.slice none 0 0)) 44) = w2 := ⟨_, rfl⟩
  have ba2 : Below w1.heap.size w1 w2 := by rw [← hw2]; exact (Below.refl _ w1).alloc (Nat.le_refl _) _
  have b2 : Below w0.heap.size w0 w2 := b1.trans (ba2.mono b1.size)
  have hR0 : RowsI B (leftD D mk) hb 256 0 w2 := ⟨_, by rw [← hw2, ← hhb]; exact Blk.new w1 _ _, by simp, fun i hi => absurd hi (Nat.not_lt_zero _)⟩
  have hM2 : MapI w2 g m _ := hM1.below ba2 hM1.lt
  have hhb' : g < hb := by rw [← hhb]; exact hM1.lt
  have HB2 := Lib.hid b2
  have HR := Lib.hid hR0
  have HM2 := Lib.hid hM2
  have HGE := Lib.hid (And.intro hge hhb')
  clear b1 hM1 hge ba2 b2 hR0 hM2 hhb' HL
  go_wp2_with fail
  clear hhb hw2 c0 c1
  go_loopw [18] (fun i wr => ∃ k : Nat, k ≤ 256 ∧ i = .int .i64 k ∧ Hid (RowsI B (leftD D mk) hb 256 k wr) ∧ Hid (MapI wr g m (fun p => lastTo D.2 mk p m)) ∧ Hid (Below w0.heap.size w0 wr)) (fun i _ => 256 - (intOf i).toNat)
  case atStart => exact ⟨0, Nat.zero_le _, rfl, HR, HM2, HB2⟩
  case round =>
    obtain ⟨k, hk, rfl, HRr, HMr, HBr⟩ := hrel
    clear HR HM2 HB2
    have k0 : (0 : Int) ≤ k := by omega
    have hz := HZ0.out
    have hzr := HBr.out.size
    have xr := HX0.out.below HBr.out HX0.out.lt
    have d0 := xr.cell 0
    have d1 := xr.cell 1
    by_cases hlt : k < 256
    · have k1 : (k : Int) < 256 := by omega
      have hDr : Dsk wr B ⟨ba, bc, wa, wc⟩ D := ⟨HD.out.1.below (HBr.out.mono (by omega)), HD.out.2.below (HBr.out.mono (by omega))⟩
      have hcl := dLeft_any B ⟨ba, bc, wa, wc⟩ D g m mk k wr (by omega) hDr (by rw [HM.out]; exact HMr.out) (by rw [HL1.out]; exact hlt)
      simp only [dval] at hcl
      rw [HL1.out, HM.out] at hcl
      obtain ⟨s, hs⟩ : ∃ s, leftD D mk k = s := ⟨_, rfl⟩
      rw [hs] at hcl
      have HS := Lib.hid hs
      have HC := Lib.hid hcl
      clear hDr hcl hs xr hz
      go_wp2_with fail
      refine HC.out.mono ?_
      rintro e w3 ⟨A, c, rfl, h3, b3⟩
      have hBr := HBr.out.trans (b3.mono hzr)
      have hR3 := HRr.out.below (by have := HZ0.out; omega) b3
      have hM3 := HMr.out.below b3 HMr.out.lt
      obtain ⟨cb, y1, y2, _⟩ := id hR3
      obtain ⟨u3, hu3⟩ : ∃ u, w3.cell? ⟨hb, k, none⟩ = some u := ⟨_, by rw [y1.cell]; exact Array.getElem?_eq_getElem (by omega)⟩
      have hf3 := y1.frozen k
      have hge := HGE.out
      have hp := hR3.put (k := k) (A := A) (c := c) (by have := HZ0.out; omega) hlt (by rw [HS.out]; exact h3)
      rw [HS.out] at hp
      have gs : w3.grownBy (w3.setCell ⟨hb, k, none⟩ (.slice A s.length c)) (some hb) := only_setCell (World.grownBy.refl w3 _) (.inl rfl) _
      have HP := Lib.hid hp
      have HM3 := Lib.hid (hM3.kept gs (fun e => by have := Option.some.inj e; omega))
      have HB3 := Lib.hid (hBr.setCell (p := ⟨hb, k, none⟩) (by show w0.heap.size ≤ hb; omega) (.slice A s.length c))
      clear h3 b3 hBr hR3 hM3 y1 y2 hp gs HC d0 d1 hzr hge
      go_wp2_with fail
      go_roundw
      case rel => exact ⟨k + 1, by omega, by go_num, HP, HM3, HB3⟩
      case measure => simp [intOf]; omega
    · obtain rfl : k = 256 := by omega
      have hBl := HRr.out.bls (by omega) (by omega)
      have hkd : (keptD D mk).1 = (List.range 256).map (leftD D mk) := rfl
      rw [← hkd] at hBl
      have hla := dLaid_any ⟨some ⟨hb, 0, none⟩, 256, none, 0⟩ (keptD D mk) wr ⟨by rw [HKL.out]; exact hBl, wts_nil _ _⟩ HFI.out
      simp only [HKL.out] at hla
      have e2 : (keptD D mk).2.length = 0 := rfl
      rw [e2] at hla
      have x1r := HX1.out.below HBr.out HX1.out.lt
      have HLA := Lib.hid hla
      have HX1r := Lib.hid x1r
      have HBw := Lib.hid (HB0.out.trans (HBr.out.mono (by omega)))
      have HZR := Lib.hid (show B + 2 ≤ wr.heap.size by omega)
      clear hBl hkd hla e2 xr d0 d1 hz hzr x1r HRr HMr HBr
      go_wp2_with fail
      refine HLA.out.mono ?_
      rintro e w4 ⟨x4, rfl, h4, b4⟩
      have hz := HZR.out
      have y4 := HX1r.out.below b4 HX1r.out.lt
      have d0 := y4.cell 0
      have d1 := y4.cell 1
      have hf := fun i => y4.frozen i
      have hKD : ∀ (u v : Value), Laid ((w4.setCell ⟨B + 1, 0, none⟩ u).setCell ⟨B + 1, 1, none⟩ v) B x4 (keptD D mk) := fun u v => laid_far h4 (by omega) (by omega) u v
      have hBF : ∀ (u v : Value), Below B w ((w4.setCell ⟨B + 1, 0, none⟩ u).setCell ⟨B + 1, 1, none⟩ v) := fun u v => ((HBw.out.trans (b4.mono (by omega))).setCell (p := ⟨B + 1, 0, none⟩) (Nat.le_succ _) u).setCell (p := ⟨B + 1, 1, none⟩) (Nat.le_succ _) v
      have hXF := fun (u v : Value) => (y4.set_ 0 u).set_ 1 v
      have HK := Lib.hid hKD
      have HBF := Lib.hid hBF
      have HXF := Lib.hid hXF
      obtain ⟨ba4, bc4, wa4, wc4⟩ := x4
      clear h4 b4 y4 hz hKD hBF hXF HLA HX1r HBw
      simp only [dval]
      go_wp2_with fail
      have hKD := HK.out (.slice ba4 (keptD D mk).1.length bc4) (.slice wa4 (keptD D mk).2.length wc4)
      have hBF := HBF.out (.slice ba4 (keptD D mk).1.length bc4) (.slice wa4 (keptD D mk).2.length wc4)
      have hXF := HXF.out (.slice ba4 (keptD D mk).1.length bc4) (.slice wa4 (keptD D mk).2.length wc4)
      obtain ⟨wf, hwf⟩ : ∃ wf, ((w4.setCell ⟨B + 1, 0, none⟩ (.slice ba4 (keptD D mk).1.length bc4)).setCell ⟨B + 1, 1, none⟩ (.slice wa4 (keptD D mk).2.length wc4)) = wf := ⟨_, rfl⟩
      rw [hwf] at hKD hBF hXF ⊢
      clear hwf d0 d1 hf
      have e0 := hXF.cell 0
      have e1 := hXF.cell 1
      refine bodyPost_ret (v := dval ⟨ba4, bc4, wa4, wc4⟩ (keptD D mk)) (by simp [results, Tryd.f33, go_sem, e0, e1, dval]) rfl ?_
      exact ⟨⟨ba4, bc4, wa4, wc4⟩, rfl, by rw [HBB.out]; exact hKD, by rw [HBB.out]; exact hBF⟩
end Go.Proofs.YtldnelimemjaiaaDoor
/-
  dev.Check, Flush, Crash, Twin: what they answer, whatever disk they are handed.
-/
namespace Go.Proofs.YtldnelimemjaiaaDoor
open Go.RowKit Go.Shelf
set_option maxRecDepth 100000

/-- A disk that is answered: none, or one laid in a new piece. -/
def OutD (w : World) (lo : Nat) (x : DAt) (D : DkL) : Prop := (x = ⟨none, 0, none, 0⟩ ∧ D = ([], [])) ∨ Laid w lo x D
theorem OutD.dsk {w : World} {lo : Nat} {x : DAt} {D : DkL} (h : OutD w lo x D) : Dsk w w.heap.size x D := by
  rcases h with ⟨rfl, rfl⟩ | h
  · exact ⟨bls_nil _ _, wts_nil _ _⟩
  · exact h.dsk
theorem OutD.below {w w' : World} {lo : Nat} {x : DAt} {D : DkL} (h : OutD w lo x D) (hb : Below w.heap.size w w') : OutD w' lo x D := h.imp id fun h => h.below hb
theorem OutD.lower {w : World} {lo lo' : Nat} {x : DAt} {D : DkL} (h : OutD w lo x D) (hl : lo' ≤ lo) : OutD w lo' x D := h.imp id fun h => h.lower hl
/-- A disk and an error's number. -/
def ToldD (o : DkL × Int) (w : World) (e : Ending) (w' : World) : Prop := ∃ x', e = .returned (.tuple #[dval x' o.1, .int .i64 o.2]) ∧ OutD w' w.heap.size x' o.1 ∧ Below w.heap.size w w'
/-- An error, and no disk. -/
theorem toldD_no {c : Int} {w : World} {e : Ending} {w' : World} (he : e = .returned (.tuple #[.agg #[.slice none 0 0, .slice none 0 0], .int .i64 c])) (hb : Below w.heap.size w w') : ToldD (([], []), c) w e w' := ⟨⟨none, 0, none, 0⟩, he, .inl ⟨rfl, rfl⟩, hb⟩
def flushO (D : DkL) : DkL × Int := if MayD D then (keptD D (fun _ => true), 0) else (([], []), 8)
def crashO (D : DkL) (ks : List Bool) : DkL × Int := if MayD D then (if ks.length = D.2.length then (keptD D (fun i => ks.getD i false), 0) else (([], []), 2)) else (([], []), 8)
def checkO (D : DkL) : Int := if MayD D then 0 else 8
theorem dCheck_any (x : DAt) (D : DkL) (w : World) (h : Dsk w w.heap.size x D) : Calls Tryd.prog 18 #[dval x D] w fun e w' => e = .returned (.int .i64 (checkO D)) ∧ Below w.heap.size w w' := by
  have b0 := (Below.refl w.heap.size w).alloc (Nat.le_refl _) (.cells #[.slice x.ba D.1.length x.bc, .slice x.wa D.2.length x.wc] 30)
  have h0 := h.step b0
  unfold checkO
  by_cases hm : MayD D
  · rw [if_pos hm]
    have HC := Lib.hid (dMay_yes x D _ h0 hm)
    simp only [dval] at HC ⊢
    have HB := Lib.hid b0
    clear b0 h0 h hm
    go_enter Tryd.func18, Tryd.ntmps18
    go_wp2_with fail
    refine HC.out.mono ?_
    rintro e w1 ⟨rfl, b1⟩
    have HB1 := Lib.hid (HB.out.trans (b1.mono HB.out.size))
    clear b1
    go_wp2_with fail
    go_ret
    exact ⟨rfl, HB1.out⟩
  · rw [if_neg hm]
    have HC := Lib.hid (dMay_no x D _ h0 hm)
    simp only [dval] at HC ⊢
    have HB := Lib.hid b0
    clear b0 h0 h hm
    go_enter Tryd.func18, Tryd.ntmps18
    go_wp2_with fail
    refine HC.out.mono ?_
    rintro e w1 ⟨rfl, b1⟩
    have HB1 := Lib.hid (HB.out.trans (b1.mono HB.out.size))
    clear b1
    go_wp2_with fail
    go_ret
    exact ⟨rfl, HB1.out⟩
/-- Boxed, and room for the answer. -/
theorem two_boxes (w : World) (u v : Value) : ∃ w0, (w.alloc (.cells #[u, v] 30)).alloc (.cells #[.slice none 0 0, .slice none 0 0] 30) = w0 ∧ Below w.heap.size w w0 ∧ w0.heap.size = w.heap.size + 2 ∧ Blk w0 w.heap.size 30 #[u, v] ∧ Blk w0 (w.heap.size + 1) 30 #[.slice none 0 0, .slice none 0 0] := by
  refine ⟨_, rfl, ((Below.refl _ w).alloc (Nat.le_refl _) _).alloc (by simp) _, by simp, (Blk.new w _ _).alloc _, ?_⟩
  have := Blk.new (w.alloc (.cells #[u, v] 30)) 30 #[.slice none 0 0, .slice none 0 0]
  rw [World.size_alloc] at this
  exact this
theorem three_boxes (w : World) (u v k : Value) : ∃ w0, ((w.alloc (.cells #[u, v] 30)).alloc (.cells #[k] 49)).alloc (.cells #[.slice none 0 0, .slice none 0 0] 30) = w0 ∧ Below w.heap.size w w0 ∧ w0.heap.size = w.heap.size + 3 ∧ Blk w0 w.heap.size 30 #[u, v] ∧ Blk w0 (w.heap.size + 1) 49 #[k] ∧ Blk w0 (w.heap.size + 2) 30 #[.slice none 0 0, .slice none 0 0] :=
  ⟨_, rfl, below_alloc3' w _ _ _, by simp, blk3_0 w _ _ _ _, blk3_1 w _ _ _ _, blk3_2 w _ _ _ _⟩
set_option maxHeartbeats 1000000 in
theorem dCrash_any (x : DAt) (D : DkL) (a : Option Addr) (n c : Nat) (ks : List Bool) (w : World) (h : Dsk w w.heap.size x D) (hk : Mks w w.heap.size a n c ks) : Calls Tryd.prog 17 #[dval x D, .slice a n c] w (ToldD (crashO D ks) w) := by
  have hkn := hk.1
  have n1 := hk.len_le
  have m1 := h.2.len_le
  obtain ⟨w0, hw0, b0, z0, x0, xk, x1⟩ := three_boxes w (.slice x.ba D.1.length x.bc) (.slice x.wa D.2.length x.wc) (.slice a n c)
  have h0 := h.step b0
  have c0 := x0.cell 0
  have c1 := x0.cell 1
  have ck := xk.cell 0
  have HX0 := Lib.hid x0
  have HXk := Lib.hid xk
  have HX1 := Lib.hid x1
  have HB := Lib.hid b0
  have HZ := Lib.hid z0
  have HD := Lib.hid h0
  have hk0 := hk.step b0
  have n0 : (0 : Int) ≤ n := by omega
  have HMk := Lib.hid hk0
  unfold crashO
  by_cases hm : MayD D
  · rw [if_pos hm]
    have hc := dMay_yes x D _ h0 hm
    have HM := Lib.hid hm
    simp only [dval] at hc ⊢
    by_cases he : ks.length = D.2.length
    · rw [if_pos he]
      obtain ⟨m, hm'⟩ : ∃ m, D.2.length = m := ⟨_, rfl⟩
      obtain rfl : n = m := by omega
      rw [hm'] at hc c1 m1 hw0 HX0 ⊢
      have HC := Lib.hid hc
      have HLN := Lib.hid hm'
      have hne : ((n : Int) != n) = false := by simp
      clear b0 h0 h hm x0 x1 xk z0 hk hk0 he hkn hc hm'
      go_enter Tryd.func17, Tryd.ntmps17
      go_wp2_with fail
      clear hw0 c0 c1 ck
      refine HC.out.mono ?_
      rintro e w1 ⟨rfl, b1⟩
      have c0 := (HX0.out.below b1 HX0.out.lt).cell 0
      have c1 := (HX0.out.below b1 HX0.out.lt).cell 1
      have ck := (HXk.out.below b1 HXk.out.lt).cell 0
      have hs := dSettled1_any x D (fun i => ks.getD i false) ⟨w.heap.size + 1, 0, none⟩ w1 (HD.out.step b1) HM.out (fun W hW i hi => dMark_any w1.heap.size a n c ks (w.heap.size + 1) i W ((HMk.out.step b1).below hW) (((HXk.out.below b1 HXk.out.lt).below hW (by have := HXk.out.lt; have := b1.size; omega)).cell 0) (by rw [← HLN.out]; exact hi))
      simp only [dval] at hs
      rw [HLN.out] at hs
      have HS := Lib.hid hs
      have HX2 := Lib.hid (HX1.out.below b1 HX1.out.lt)
      have HB1 := Lib.hid (HB.out.trans (b1.mono HB.out.size))
      have HZ1 := Lib.hid (show w.heap.size + 3 ≤ w1.heap.size by have := b1.size; have := HZ.out; omega)
      clear b1 hs HC
      go_wp2_with fail
      clear ck hne
      refine HS.out.mono ?_
      rintro e w2 ⟨x2, rfl, h2, b2⟩
      clear c0 c1
      have y2 := HX2.out.below b2 HX2.out.lt
      have d0 := y2.cell 0
      have d1 := y2.cell 1
      have hf := fun i => y2.frozen i
      have hz := HZ1.out
      have HK := Lib.hid (fun (u v : Value) => laid_far (g := w.heap.size + 2) (lo' := w.heap.size) h2 (by omega) (by omega) u v)
      have HBF := Lib.hid (fun (u v : Value) => ((HB1.out.trans (b2.mono (by omega))).setCell (p := ⟨w.heap.size + 2, 0, none⟩) (Nat.le_add_right _ _) u).setCell (p := ⟨w.heap.size + 2, 1, none⟩) (Nat.le_add_right _ _) v)
      have HXF := Lib.hid (fun (u v : Value) => (y2.set_ 0 u).set_ 1 v)
      obtain ⟨K, hK⟩ : ∃ K, keptD D (fun i => ks.getD i false) = K := ⟨_, rfl⟩
      rw [hK] at HK ⊢
      have HK0 := Lib.hid hK
      obtain ⟨ba2, bc2, wa2, wc2⟩ := x2
      clear h2 b2 y2 hz hK
      simp only [dval]
      go_wp2_with fail
      have hKD := HK.out (.slice ba2 K.1.length bc2) (.slice wa2 K.2.length wc2)
      have hBF := HBF.out (.slice ba2 K.1.length bc2) (.slice wa2 K.2.length wc2)
      have hXF := HXF.out (.slice ba2 K.1.length bc2) (.slice wa2 K.2.length wc2)
      obtain ⟨wf, hwf⟩ : ∃ wf, ((w2.setCell ⟨w.heap.size + 2, 0, none⟩ (.slice ba2 K.1.length bc2)).setCell ⟨w.heap.size + 2, 1, none⟩ (.slice wa2 K.2.length wc2)) = wf := ⟨_, rfl⟩
      rw [hwf] at hKD hBF hXF ⊢
      clear hwf d0 d1 hf
      have e0 := hXF.cell 0
      have e1 := hXF.cell 1
      refine bodyPost_ret (v := .tuple #[dval ⟨ba2, bc2, wa2, wc2⟩ K, .int .i64 0]) (by simp [results, Tryd.f17, go_sem, e0, e1, dval]) rfl ?_
      exact ⟨⟨ba2, bc2, wa2, wc2⟩, by rw [HK0.out], .inr (by rw [HK0.out]; exact hKD), hBF⟩
    · rw [if_neg he]
      have hne : ((n : Int) != (D.2.length : Nat)) = true := by simp; omega
      have HC := Lib.hid hc
      clear b0 h0 h hm x0 x1 xk z0 hk hk0 he hkn hc HM
      go_enter Tryd.func17, Tryd.ntmps17
      go_wp2_with fail
      clear hw0 c0 c1 ck
      refine HC.out.mono ?_
      rintro e w1 ⟨rfl, b1⟩
      have y2 := HX1.out.below b1 HX1.out.lt
      have d0 := y2.cell 0
      have d1 := y2.cell 1
      have hf := fun i => y2.frozen i
      have HY := Lib.hid y2
      have HB1 := Lib.hid (HB.out.trans (b1.mono HB.out.size))
      have c0 := (HX0.out.below b1 HX0.out.lt).cell 0
      have c1 := (HX0.out.below b1 HX0.out.lt).cell 1
      have ck := (HXk.out.below b1 HXk.out.lt).cell 0
      clear b1 y2
      go_wp2_with fail
      clear c0 c1 ck
      have hBF := (HB1.out.setCell (p := ⟨w.heap.size + 2, 0, none⟩) (Nat.le_add_right _ _) (.slice none 0 0)).setCell (p := ⟨w.heap.size + 2, 1, none⟩) (Nat.le_add_right _ _) (.slice none 0 0)
      have hXF := (HY.out.set_ 0 (.slice none 0 0)).set_ 1 (.slice none 0 0)
      obtain ⟨wf, hwf⟩ : ∃ wf, ((w1.setCell ⟨w.heap.size + 2, 0, none⟩ (.slice none 0 0)).setCell ⟨w.heap.size + 2, 1, none⟩ (.slice none 0 0)) = wf := ⟨_, rfl⟩
      rw [hwf] at hBF hXF ⊢
      clear hwf d0 d1 hf
      have e0 := hXF.cell 0
      have e1 := hXF.cell 1
      exact bodyPost_ret (v := .tuple #[.agg #[.slice none 0 0, .slice none 0 0], .int .i64 2]) (by simp [results, Tryd.f17, go_sem, e0, e1]) rfl (toldD_no rfl hBF)
  · rw [if_neg hm]
    have HC := Lib.hid (dMay_no x D _ h0 hm)
    simp only [dval] at HC ⊢
    clear b0 h0 h hm x0 x1 xk z0 hk hk0 hkn
    go_enter Tryd.func17, Tryd.ntmps17
    go_wp2_with fail
    clear hw0 c0 c1 ck
    refine HC.out.mono ?_
    rintro e w1 ⟨rfl, b1⟩
    have y2 := HX1.out.below b1 HX1.out.lt
    have d0 := y2.cell 0
    have d1 := y2.cell 1
    have hf := fun i => y2.frozen i
    have HY := Lib.hid y2
    have HB1 := Lib.hid (HB.out.trans (b1.mono HB.out.size))
    have c0 := (HX0.out.below b1 HX0.out.lt).cell 0
    have c1 := (HX0.out.below b1 HX0.out.lt).cell 1
    have ck := (HXk.out.below b1 HXk.out.lt).cell 0
    clear b1 y2
    go_wp2_with fail
    clear c0 c1 ck
    have hBF := (HB1.out.setCell (p := ⟨w.heap.size + 2, 0, none⟩) (Nat.le_add_right _ _) (.slice none 0 0)).setCell (p := ⟨w.heap.size + 2, 1, none⟩) (Nat.le_add_right _ _) (.slice none 0 0)
    have hXF := (HY.out.set_ 0 (.slice none 0 0)).set_ 1 (.slice none 0 0)
    obtain ⟨wf, hwf⟩ : ∃ wf, ((w1.setCell ⟨w.heap.size + 2, 0, none⟩ (.slice none 0 0)).setCell ⟨w.heap.size + 2, 1, none⟩ (.slice none 0 0)) = wf := ⟨_, rfl⟩
    rw [hwf] at hBF hXF ⊢
    clear hwf d0 d1 hf
    have e0 := hXF.cell 0
    have e1 := hXF.cell 1
    exact bodyPost_ret (v := .tuple #[.agg #[.slice none 0 0, .slice none 0 0], .int .i64 8]) (by simp [results, Tryd.f17, go_sem, e0, e1]) rfl (toldD_no rfl hBF)
end Go.Proofs.YtldnelimemjaiaaDoor
/-
  dev.Write: what it answers, whatever disk, place and bytes it is handed.
-/
namespace Go.Proofs.YtldnelimemjaiaaDoor
open Go.RowKit Go.Shelf
set_option maxRecDepth 100000

/-- A disk on which one more write waits. -/
def withD (D : DkL) (p : Int) (s : List UInt8) : DkL := (D.1, D.2 ++ [(p, s)])
def writeO (D : DkL) (p : Int) (s : List UInt8) : DkL × Int :=
  if MayD D then (if 0 ≤ p ∧ p < 256 then (if s.length = 256 then (if D.2.length = 4096 then (([], []), 9) else (withD D p s, 0)) else (([], []), 3)) else (([], []), 2)) else (([], []), 8)
theorem wr_with (ws : WrL) (p : Int) (s : List UInt8) : (∀ i, i < ws.length → wr_ (ws ++ [(p, s)]) i = wr_ ws i) ∧ wr_ (ws ++ [(p, s)]) ws.length = (p, s) := by
  unfold wr_
  refine ⟨fun i hi => ?_, ?_⟩
  · rw [List.getD_eq_getElem?_getD, List.getElem?_append_left hi, ← List.getD_eq_getElem?_getD]
  · rw [List.getD_eq_getElem?_getD, List.getElem?_append_right (Nat.le_refl _), Nat.sub_self]
    rfl
theorem sumW_congr {a b : WrL} : ∀ {n : Nat}, (∀ i, i < n → wr_ a i = wr_ b i) → sumW a n = sumW b n
  | 0, _ => rfl
  | n + 1, h => by
    unfold sumW
    rw [sumW_congr (fun i hi => h i (by omega)), h n (by omega)]
theorem with_may {D : DkL} {p : Int} {s : List UInt8} (h : MayD D) (hp : 0 ≤ p ∧ p < 256) (hs : s.length = 256) (hn : D.2.length ≠ 4096) : MayD (withD D p s) := by
  obtain ⟨h1, h2, h3⟩ := h
  obtain ⟨e1, e2⟩ := wr_with D.2 p s
  refine ⟨h1, by show (D.2 ++ [(p, s)]).length ≤ 4096; rw [List.length_append]; simp; omega, fun i hi => ?_⟩
  have hi' : i < D.2.length + 1 := by have : i < (D.2 ++ [(p, s)]).length := hi; rwa [List.length_append] at this
  show (0 ≤ (wr_ (D.2 ++ [(p, s)]) i).1 ∧ (wr_ (D.2 ++ [(p, s)]) i).1 < 256) ∧ (wr_ (D.2 ++ [(p, s)]) i).2.length = 256
  rcases Nat.lt_or_ge i D.2.length with h4 | h4
  · rw [e1 i h4]
    exact h3 i h4
  · obtain rfl : i = D.2.length := by omega
    rw [e2]
    exact ⟨hp, hs⟩
def WriteGoes (D : DkL) (p : Int) (s : List UInt8) : Prop := MayD D ∧ (0 ≤ p ∧ p < 256) ∧ s.length = 256 ∧ D.2.length ≠ 4096
/-- The ways that are refused. -/
theorem dWrite_no (x : DAt) (D : DkL) (p : Int) (a : Option Addr) (n c : Nat) (s : List UInt8) (w : World) (h : Dsk w w.heap.size x D) (hs : Bsl w w.heap.size a n c s) (hno : ¬ WriteGoes D p s) : Calls Tryd.prog 16 #[dval x D, .int .i64 p, .slice a n c] w (ToldD (writeO D p s) w) := by
  obtain ⟨w0, hw0, b0, z0, x0, x1⟩ := two_boxes w (.slice x.ba D.1.length x.bc) (.slice x.wa D.2.length x.wc)
  have h0 := h.step b0
  have c0 := x0.cell 0
  have c1 := x0.cell 1
  have HX0 := Lib.hid x0
  have HX1 := Lib.hid x1
  have HB := Lib.hid b0
  have hbk := dIsBlock_any p
  have hlg := dIsLong_any a n c
  have hsl := hs.1
  unfold writeO
  by_cases hm : MayD D
  · rw [if_pos hm]
    have HC := Lib.hid (dMay_yes x D _ h0 hm)
    simp only [dval] at HC ⊢
    by_cases hp : 0 ≤ p ∧ p < 256
    · rw [if_pos hp]
      simp only [decide_eq_true hp] at hbk
      have HBK := Lib.hid hbk
      by_cases hl : s.length = 256
      · have hf4 : D.2.length = 4096 := Classical.byContradiction fun hh => hno ⟨hm, hp, hl, hh⟩
        rw [if_pos hl, if_pos hf4]
        have hn : n = 256 := by omega
        simp only [decide_eq_true hn] at hlg
        have HLG := Lib.hid hlg
        rw [hf4] at hw0 HX0 c1 HC ⊢
        clear b0 h0 h hm x0 x1 z0 hbk hlg hno hp hl hsl hs hf4 hn
        go_enter Tryd.func16, Tryd.ntmps16
        go_wp2_with fail
        clear hw0 c0 c1
        refine HC.out.mono ?_
        rintro e w1 ⟨rfl, b1⟩
        have HX01 := Lib.hid (HX0.out.below b1 HX0.out.lt)
        have HY := Lib.hid (HX1.out.below b1 HX1.out.lt)
        have HB1 := Lib.hid (HB.out.trans (b1.mono HB.out.size))
        clear b1
        go_wp2_with fail
        refine (HBK.out _).mono ?_
        rintro e w1' ⟨rfl, rfl⟩
        go_wp2_with fail
        refine (HLG.out _).mono ?_
        rintro e w1' ⟨rfl, rfl⟩
        have c1 := HX01.out.cell 1
        have d0 := HY.out.cell 0
        have d1 := HY.out.cell 1
        have hf := fun i => HY.out.frozen i
        go_wp2_with fail
        clear c1
        have hBF := (HB1.out.setCell (p := ⟨w.heap.size + 1, 0, none⟩) (Nat.le_add_right _ _) (.slice none 0 0)).setCell (p := ⟨w.heap.size + 1, 1, none⟩) (Nat.le_add_right _ _) (.slice none 0 0)
        have hXF := (HY.out.set_ 0 (.slice none 0 0)).set_ 1 (.slice none 0 0)
        obtain ⟨wf, hwf⟩ : ∃ wf, ((w1.setCell ⟨w.heap.size + 1, 0, none⟩ (.slice none 0 0)).setCell ⟨w.heap.size + 1, 1, none⟩ (.slice none 0 0)) = wf := ⟨_, rfl⟩
        rw [hwf] at hBF hXF ⊢
        clear hwf d0 d1 hf
        have e0 := hXF.cell 0
        have e1 := hXF.cell 1
        exact bodyPost_ret (v := .tuple #[.agg #[.slice none 0 0, .slice none 0 0], .int .i64 9]) (by simp [results, Tryd.f16, go_sem, e0, e1]) rfl (toldD_no rfl hBF)
      · rw [if_neg hl]
        have hn : n ≠ 256 := by omega
        simp only [decide_eq_false hn] at hlg
        have HLG := Lib.hid hlg
        clear b0 h0 h hm x0 x1 z0 hbk hlg hno hp hl hsl hs hn
        go_enter Tryd.func16, Tryd.ntmps16
        go_wp2_with fail
        clear hw0 c0 c1
        refine HC.out.mono ?_
        rintro e w1 ⟨rfl, b1⟩
        have HX01 := Lib.hid (HX0.out.below b1 HX0.out.lt)
        have HY := Lib.hid (HX1.out.below b1 HX1.out.lt)
        have HB1 := Lib.hid (HB.out.trans (b1.mono HB.out.size))
        clear b1
        go_wp2_with fail
        refine (HBK.out _).mono ?_
        rintro e w1' ⟨rfl, rfl⟩
        go_wp2_with fail
        refine (HLG.out _).mono ?_
        rintro e w1' ⟨rfl, rfl⟩
        have c1 := HX01.out.cell 1
        have d0 := HY.out.cell 0
        have d1 := HY.out.cell 1
        have hf := fun i => HY.out.frozen i
        go_wp2_with fail
        clear c1
        have hBF := (HB1.out.setCell (p := ⟨w.heap.size + 1, 0, none⟩) (Nat.le_add_right _ _) (.slice none 0 0)).setCell (p := ⟨w.heap.size + 1, 1, none⟩) (Nat.le_add_right _ _) (.slice none 0 0)
        have hXF := (HY.out.set_ 0 (.slice none 0 0)).set_ 1 (.slice none 0 0)
        obtain ⟨wf, hwf⟩ : ∃ wf, ((w1.setCell ⟨w.heap.size + 1, 0, none⟩ (.slice none 0 0)).setCell ⟨w.heap.size + 1, 1, none⟩ (.slice none 0 0)) = wf := ⟨_, rfl⟩
        rw [hwf] at hBF hXF ⊢
        clear hwf d0 d1 hf
        have e0 := hXF.cell 0
        have e1 := hXF.cell 1
        exact bodyPost_ret (v := .tuple #[.agg #[.slice none 0 0, .slice none 0 0], .int .i64 3]) (by simp [results, Tryd.f16, go_sem, e0, e1]) rfl (toldD_no rfl hBF)
    · rw [if_neg hp]
      simp only [decide_eq_false hp] at hbk
      have HBK := Lib.hid hbk
      clear b0 h0 h hm x0 x1 z0 hbk hlg hno hp hsl hs
      go_enter Tryd.func16, Tryd.ntmps16
      go_wp2_with fail
      clear hw0 c0 c1
      refine HC.out.mono ?_
      rintro e w1 ⟨rfl, b1⟩
      have HX01 := Lib.hid (HX0.out.below b1 HX0.out.lt)
      have HY := Lib.hid (HX1.out.below b1 HX1.out.lt)
      have HB1 := Lib.hid (HB.out.trans (b1.mono HB.out.size))
      clear b1
      go_wp2_with fail
      refine (HBK.out _).mono ?_
      rintro e w1' ⟨rfl, rfl⟩
      have c1 := HX01.out.cell 1
      have d0 := HY.out.cell 0
      have d1 := HY.out.cell 1
      have hf := fun i => HY.out.frozen i
      go_wp2_with fail
      clear c1
      have hBF := (HB1.out.setCell (p := ⟨w.heap.size + 1, 0, none⟩) (Nat.le_add_right _ _) (.slice none 0 0)).setCell (p := ⟨w.heap.size + 1, 1, none⟩) (Nat.le_add_right _ _) (.slice none 0 0)
      have hXF := (HY.out.set_ 0 (.slice none 0 0)).set_ 1 (.slice none 0 0)
      obtain ⟨wf, hwf⟩ : ∃ wf, ((w1.setCell ⟨w.heap.size + 1, 0, none⟩ (.slice none 0 0)).setCell ⟨w.heap.size + 1, 1, none⟩ (.slice none 0 0)) = wf := ⟨_, rfl⟩
      rw [hwf] at hBF hXF ⊢
      clear hwf d0 d1 hf
      have e0 := hXF.cell 0
      have e1 := hXF.cell 1
      exact bodyPost_ret (v := .tuple #[.agg #[.slice none 0 0, .slice none 0 0], .int .i64 2]) (by simp [results, Tryd.f16, go_sem, e0, e1]) rfl (toldD_no rfl hBF)
  · rw [if_neg hm]
    have HC := Lib.hid (dMay_no x D _ h0 hm)
    simp only [dval] at HC ⊢
    clear b0 h0 h hm x0 x1 z0 hbk hlg hno hsl hs
    go_enter Tryd.func16, Tryd.ntmps16
    go_wp2_with fail
    clear hw0 c0 c1
    refine HC.out.mono ?_
    rintro e w1 ⟨rfl, b1⟩
    have HX01 := Lib.hid (HX0.out.below b1 HX0.out.lt)
    have HY := Lib.hid (HX1.out.below b1 HX1.out.lt)
    have HB1 := Lib.hid (HB.out.trans (b1.mono HB.out.size))
    clear b1
    have c1 := HX01.out.cell 1
    have d0 := HY.out.cell 0
    have d1 := HY.out.cell 1
    have hf := fun i => HY.out.frozen i
    go_wp2_with fail
    clear c1
    have hBF := (HB1.out.setCell (p := ⟨w.heap.size + 1, 0, none⟩) (Nat.le_add_right _ _) (.slice none 0 0)).setCell (p := ⟨w.heap.size + 1, 1, none⟩) (Nat.le_add_right _ _) (.slice none 0 0)
    have hXF := (HY.out.set_ 0 (.slice none 0 0)).set_ 1 (.slice none 0 0)
    obtain ⟨wf, hwf⟩ : ∃ wf, ((w1.setCell ⟨w.heap.size + 1, 0, none⟩ (.slice none 0 0)).setCell ⟨w.heap.size + 1, 1, none⟩ (.slice none 0 0)) = wf := ⟨_, rfl⟩
    rw [hwf] at hBF hXF ⊢
    clear hwf d0 d1 hf
    have e0 := hXF.cell 0
    have e1 := hXF.cell 1
    exact bodyPost_ret (v := .tuple #[.agg #[.slice none 0 0, .slice none 0 0], .int .i64 8]) (by simp [results, Tryd.f16, go_sem, e0, e1]) rfl (toldD_no rfl hBF)
set_option maxHeartbeats 4000000 in
theorem dWrite_yes (x : DAt) (D : DkL) (p : Int) (a : Option Addr) (c : Nat) (s : List UInt8) (w : World) (h : Dsk w w.heap.size x D) (hs : Bsl w w.heap.size a 256 c s) (hm : MayD D) (hp : 0 ≤ p ∧ p < 256) (hn : D.2.length ≠ 4096) : Calls Tryd.prog 16 #[dval x D, .int .i64 p, .slice a 256 c] w (ToldD (withD D p s, 0) w) := by
  obtain ⟨w0, hw0, b0, z0, x0, x1⟩ := two_boxes w (.slice x.ba D.1.length x.bc) (.slice x.wa D.2.length x.wc)
  have h0 := h.step b0
  have c0 := x0.cell 0
  have c1 := x0.cell 1
  have HX0 := Lib.hid x0
  have HX1 := Lib.hid x1
  have HB := Lib.hid b0
  have HZ := Lib.hid z0
  have HD := Lib.hid h0
  have HS0 := Lib.hid (hs.step b0)
  have HC := Lib.hid (dMay_yes x D _ h0 hm)
  have hbk := dIsBlock_any p
  simp only [decide_eq_true hp] at hbk
  have HBK := Lib.hid hbk
  have hlg := dIsLong_any a 256 c
  have HLG : Hid (∀ W, Calls Tryd.prog 31 #[.slice a 256 c] W fun e w' => e = .returned (.bool true) ∧ W = w') := Lib.hid hlg
  have HM := Lib.hid hm
  have HF := Lib.hid (may_fits (with_may hm hp hs.1 hn))
  obtain ⟨m, hm2⟩ : ∃ m, D.2.length = m := ⟨_, rfl⟩
  have m0 : m < 4096 := by have := hm.2.1; omega
  have m1 : ((m : Int) == 4096) = false := by simp; omega
  have HM2 := Lib.hid hm2
  have HP := Lib.hid hp
  simp only [dval] at HC ⊢
  rw [hm2] at HX0 hw0 c1 HC ⊢
  clear b0 h0 h hm x0 x1 z0 hbk hlg hs hn hp
  go_enter Tryd.func16, Tryd.ntmps16
  go_wp2_with fail
  clear hw0 c0 c1 hm2
  refine HC.out.mono ?_
  rintro e w1 ⟨rfl, b1⟩
  have x01 := HX0.out.below b1 HX0.out.lt
  have c0 := x01.cell 0
  have c1 := x01.cell 1
  have HX01 := Lib.hid x01
  have HX11 := Lib.hid (HX1.out.below b1 HX1.out.lt)
  have HB1 := Lib.hid (HB.out.trans (b1.mono HB.out.size))
  have HZ1 := Lib.hid (show w.heap.size + 2 ≤ w1.heap.size by have := b1.size; have := HZ.out; omega)
  have HD1 := Lib.hid (HD.out.step b1)
  have HS1 := Lib.hid (HS0.out.step b1)
  clear b1 x01 HX0 HX1 HB HD HS0
  go_wp2_with fail
  refine (HBK.out _).mono ?_
  rintro e w1' ⟨rfl, rfl⟩
  go_wp2_with fail
  refine (HLG.out _).mono ?_
  rintro e w1' ⟨rfl, rfl⟩
  go_wp2_with fail
  have hsz := HZ1.out
  have hD1 := HD1.out
  have hS1 := HS1.out
  have hp := HP.out
  obtain ⟨g1, hg1⟩ : ∃ g, w1.heap.size = g := ⟨_, rfl⟩
  obtain ⟨w2, hw2⟩ : ∃ w2, (w1.alloc (.cells #[.int .i64 p, .slice a 256 c] 64)).alloc (.cells #[.slice x.wa m x.wc, .slice (some ⟨g1, 0, none⟩) 1 1] 28) = w2 := ⟨_, rfl⟩
  have b2 : Below w1.heap.size w1 w2 := by rw [← hw2]; exact ((Below.refl _ w1).alloc (Nat.le_refl _) _).alloc (by simp) _
  have y1 : Blk w2 g1 64 #[.int .i64 p, .slice a 256 c] := by rw [← hw2, ← hg1]; exact (Blk.new w1 _ _).alloc _
  have y2 : Blk w2 (g1 + 1) 28 #[.slice x.wa m x.wc, .slice (some ⟨g1, 0, none⟩) 1 1] := by
    have := Blk.new (w1.alloc (.cells #[.int .i64 p, .slice a 256 c] 64)) 28 #[.slice x.wa m x.wc, .slice (some ⟨g1, 0, none⟩) 1 1]
    rw [World.size_alloc, hg1, hw2] at this
    exact this
  have hD2 := hD1.step b2
  have hS2 := hS1.step b2
  have hone : Wts w2 w2.heap.size (some ⟨g1, 0, none⟩) 1 1 [(p, s)] := by
    refine ⟨rfl, Nat.le_refl _, by unfold maxLen; omega, fun _ => ⟨g1, 0, rfl, y1.lt, fun i hi => ?_⟩⟩
    obtain rfl : i = 0 := by omega
    have hsl := hS2.1
    refine ⟨wf64 (p := p) (by omega) (by omega), y1.cell 0, a, c, ?_, ?_⟩
    · show w2.cell? ⟨g1, 1, none⟩ = some (.slice a s.length c)
      rw [hsl]
      exact y1.cell 1
    · show Bsl w2 _ a s.length c s
      rw [hsl]
      exact hS2
  have hcon := dConcat_any (g1 + 1) 2 [⟨x.wa, m, x.wc, D.2⟩, ⟨some ⟨g1, 0, none⟩, 1, 1, [(p, s)]⟩] w2 y2.lt (by simp) (fun i hi => by
    have : i = 0 ∨ i = 1 := by simp at hi; omega
    rcases this with rfl | rfl
    · exact y2.cell 0
    · exact y2.cell 1) (fun i hi => by
    have : i = 0 ∨ i = 1 := by simp at hi; omega
    rcases this with rfl | rfl
    · show Wts w2 w2.heap.size x.wa m x.wc D.2
      rw [← HM2.out]
      exact hD2.2
    · exact hone) (by simp [flatW]) (by simp [flatW, HM2.out]; omega)
  have hfl : flatW [⟨x.wa, m, x.wc, D.2⟩, ⟨some ⟨g1, 0, none⟩, 1, 1, [(p, s)]⟩] = D.2 ++ [(p, s)] := by simp [flatW]
  rw [hfl] at hcon
  have HCON := Lib.hid hcon
  have HX02 := Lib.hid (HX01.out.below b2 HX01.out.lt)
  have HX12 := Lib.hid (HX11.out.below b2 HX11.out.lt)
  have HB2 := Lib.hid (HB1.out.trans (b2.mono (by omega)))
  have HZ2 := Lib.hid (show w.heap.size + 2 ≤ w2.heap.size by have := b2.size; omega)
  have HD2 := Lib.hid hD2
  rw [hg1, hw2]
  clear hsz hD1 hS1 hp hg1 hw2 b2 y1 y2 hD2 hS2 hone hcon hfl HB1 HZ1 HD1 HS1 HX01 HX11 c0 c1
  refine HCON.out.mono ?_
  rintro e w3 ⟨v, rfl, hrow, b3⟩
  obtain ⟨wa3, wc3, rfl, hwts⟩ := hrow.wts
  have x03 := HX02.out.below b3 HX02.out.lt
  have c0 := x03.cell 0
  have c1 := x03.cell 1
  have hla := dLaid_any ⟨x.ba, x.bc, wa3, wc3⟩ (withD D p s) w3 ⟨(HD2.out.step b3).1, hwts⟩ HF.out
  have hw1 : (withD D p s).1 = D.1 := rfl
  have hw2 : (withD D p s).2 = D.2 ++ [(p, s)] := rfl
  simp only [hw1, hw2] at hla
  obtain ⟨L, hL⟩ : ∃ L, (D.2 ++ [(p, s)]).length = L := ⟨_, rfl⟩
  rw [hL] at hla ⊢
  have HLA := Lib.hid hla
  have HX2 := Lib.hid (HX12.out.below b3 HX12.out.lt)
  have HB1 := Lib.hid (HB2.out.trans (b3.mono HB2.out.size))
  have HZ1 := Lib.hid (show w.heap.size + 2 ≤ w3.heap.size by have := b3.size; have := HZ2.out; omega)
  have HW2 := Lib.hid (show (withD D p s).2.length = L from hL)
  clear hrow b3 hwts x03 hla hw1 hw2 hL HCON HX02 HX12 HB2 HZ2 HD2
  go_wp2_with fail
  refine HLA.out.mono ?_
  rintro e w4 ⟨x2, rfl, h2, b2⟩
  clear c0 c1
  have y2 := HX2.out.below b2 HX2.out.lt
  have d0 := y2.cell 0
  have d1 := y2.cell 1
  have hf := fun i => y2.frozen i
  have hz := HZ1.out
  have HK := Lib.hid (fun (u v : Value) => laid_far (g := w.heap.size + 1) (lo' := w.heap.size) h2 (by omega) (by omega) u v)
  have HBF := Lib.hid (fun (u v : Value) => ((HB1.out.trans (b2.mono (by omega))).setCell (p := ⟨w.heap.size + 1, 0, none⟩) (Nat.le_add_right _ _) u).setCell (p := ⟨w.heap.size + 1, 1, none⟩) (Nat.le_add_right _ _) v)
  have HXF := Lib.hid (fun (u v : Value) => (y2.set_ 0 u).set_ 1 v)
  obtain ⟨K, hK⟩ : ∃ K, withD D p s = K := ⟨_, rfl⟩
  rw [hK] at HK ⊢
  have HK0 := Lib.hid hK
  obtain ⟨ba2, bc2, wa2, wc2⟩ := x2
  clear h2 b2 y2 hz hK
  simp only [dval]
  go_wp2_with fail
  have hKD := HK.out (.slice ba2 K.1.length bc2) (.slice wa2 K.2.length wc2)
  have hBF := HBF.out (.slice ba2 K.1.length bc2) (.slice wa2 K.2.length wc2)
  have hXF := HXF.out (.slice ba2 K.1.length bc2) (.slice wa2 K.2.length wc2)
  obtain ⟨wf, hwf⟩ : ∃ wf, ((w4.setCell ⟨w.heap.size + 1, 0, none⟩ (.slice ba2 K.1.length bc2)).setCell ⟨w.heap.size + 1, 1, none⟩ (.slice wa2 K.2.length wc2)) = wf := ⟨_, rfl⟩
  rw [hwf] at hKD hBF hXF ⊢
  clear hwf d0 d1 hf
  have e0 := hXF.cell 0
  have e1 := hXF.cell 1
  refine bodyPost_ret (v := .tuple #[dval ⟨ba2, bc2, wa2, wc2⟩ K, .int .i64 0]) (by simp [results, Tryd.f16, go_sem, e0, e1, dval]) rfl ?_
  exact ⟨⟨ba2, bc2, wa2, wc2⟩, by rw [HK0.out], .inr (by rw [HK0.out]; exact hKD), hBF⟩
theorem dWrite_any (x : DAt) (D : DkL) (p : Int) (a : Option Addr) (n c : Nat) (s : List UInt8) (w : World) (h : Dsk w w.heap.size x D) (hs : Bsl w w.heap.size a n c s) : Calls Tryd.prog 16 #[dval x D, .int .i64 p, .slice a n c] w (ToldD (writeO D p s) w) := by
  by_cases hy : WriteGoes D p s
  · obtain ⟨h1, h2, h3, h4⟩ := hy
    rw [writeO, if_pos h1, if_pos h2, if_pos h3, if_neg h4]
    obtain rfl : n = 256 := by rw [← hs.1]; exact h3
    exact dWrite_yes x D p a c s w h hs h1 h2 h4
  · exact dWrite_no x D p a n c s w h hs hy
end Go.Proofs.YtldnelimemjaiaaDoor
/-
  dev.Read: what it answers, whatever disk and place it is handed.
-/
namespace Go.Proofs.YtldnelimemjaiaaDoor
open Go.RowKit Go.Shelf
set_option maxRecDepth 100000

/-- bytes.Clone: a list of the call's own. -/
theorem dClone_any (B : Nat) (a : Option Addr) (len cap : Nat) (s : List UInt8) (w : World) (hB : B ≤ w.heap.size) (hA : Bsl w B a len cap s) (hlen : len ≤ 1000000000000) :
    Calls Tryd.prog 37 #[.slice a len cap] w (OwnV len s w) := by
  have q22 : ∀ (w : World) (a : Option Addr) (n c n' c' : Nat), (binOp .eql 44 (.slice a n c) (.slice none n' c')).run Tryd.prog w = .ok (.bool a.isNone) w := fun w a n c n' c' => Lib.run_eql_slice_nil w _ _ a n c n' c' Tryd.underlying44
  obtain ⟨h1, h2, h3, h4, h5⟩ := hA
  cases a with
  | none =>
    have hc := h4 rfl
    have hl : len = 0 := by omega
    subst hl; subst hc
    obtain rfl : s = [] := List.eq_nil_of_length_eq_zero h1
    go_enter Tryd.func37, Tryd.ntmps37
    go_wp2_with fail
    go_ret
    exact ⟨_, rfl, own_nil _ _, Below.refl _ _⟩
  | some ad =>
    have hA : Bsl w B (some ad) len cap s := ⟨h1, h2, h3, h4, h5⟩
    have b1 : Below w.heap.size w (w.alloc (.cells #[] 5)) := (Below.refl _ w).alloc (Nat.le_refl _) _
    have HA1 := Lib.hid (hA.below (b1.mono hB)); clear hA
    have HB1 := Lib.hid b1; clear b1
    have HO1 := Lib.hid (own_empty w)
    clear h1 h2 h3 h4 h5
    go_enter Tryd.func37, Tryd.ntmps37
    go_wp2_with (at_builtin
                 refine wpList_append_big rfl (.tmp 5) (.tmp 6) rfl w.heap.size _ 0 _ rfl HO1.out _ (some ad) len cap s rfl HA1.out (by omega) HB1.out.size ?_
                 intro v' W3 hown' hg'
                 have HB3 := Lib.hid (app_below HB1.out HO1.out hg' HB1.out.size); clear hg'
                 have HO3 := Lib.hid hown'; clear hown')
    go_ret
    refine ⟨_, rfl, ?_, HB3.out⟩
    have := HO3.out
    rwa [Nat.zero_add, List.nil_append] at this
/-- A list of the call's own, and an error's number. -/
def ToldL (o : List UInt8 × Int) (w : World) (e : Ending) (w' : World) : Prop := ∃ v, e = .returned (.tuple #[v, .int .i64 o.2]) ∧ w'.ownsRow w.heap.size 5 1 v o.1.length (vals o.1) ∧ Below w.heap.size w w'
def readO (D : DkL) (p : Int) : List UInt8 × Int := if MayD D then (if 0 ≤ p ∧ p < 256 then (leftD D (fun _ => true) p.toNat, 0) else ([], 2)) else ([], 8)
theorem leftD_goes (D : DkL) (p : Nat) : leftD D (fun i => decide ((wr_ D.2 i).1 = (p : Int))) p = leftD D (fun _ => true) p := by
  have : lastTo D.2 (fun i => decide ((wr_ D.2 i).1 = (p : Int))) (p : Int) D.2.length = lastTo D.2 (fun _ => true) (p : Int) D.2.length := lastTo_congr fun i _ => by simp
  unfold leftD
  rw [this]
theorem read_boxes (w : World) (u v k : Value) : ∃ w0, (w.alloc (.cells #[u, v] 30)).alloc (.cells #[k] 3) = w0 ∧ Below w.heap.size w w0 ∧ w0.heap.size = w.heap.size + 2 ∧ Blk w0 w.heap.size 30 #[u, v] ∧ Blk w0 (w.heap.size + 1) 3 #[k] := by
  refine ⟨_, rfl, ((Below.refl _ w).alloc (Nat.le_refl _) _).alloc (by simp) _, by simp, (Blk.new w _ _).alloc _, ?_⟩
  have := Blk.new (w.alloc (.cells #[u, v] 30)) 3 #[k]
  rw [World.size_alloc] at this
  exact this
set_option maxHeartbeats 2000000 in
theorem dRead_any (x : DAt) (D : DkL) (p : Int) (w : World) (h : Dsk w w.heap.size x D) : Calls Tryd.prog 19 #[dval x D, .int .i64 p] w (ToldL (readO D p) w) := by
  obtain ⟨w0, hw0, b0, z0, x0, xp⟩ := read_boxes w (.slice x.ba D.1.length x.bc) (.slice x.wa D.2.length x.wc) (.int .i64 p)
  have h0 := h.step b0
  have c0 := x0.cell 0
  have c1 := x0.cell 1
  have cp := xp.cell 0
  have HX0 := Lib.hid x0
  have HXp := Lib.hid xp
  have HB := Lib.hid b0
  have HZ := Lib.hid z0
  have HD := Lib.hid h0
  unfold readO
  by_cases hm : MayD D
  · rw [if_pos hm]
    have HC := Lib.hid (dMay_yes x D _ h0 hm)
    simp only [dval] at HC ⊢
    have hbk := dIsBlock_any p
    have HM := Lib.hid hm
    by_cases hp : 0 ≤ p ∧ p < 256
    · rw [if_pos hp]
      simp only [decide_eq_true hp] at hbk
      obtain ⟨q, rfl⟩ := Int.eq_ofNat_of_zero_le hp.1
      have hq : q < 256 := by omega
      have HBK := Lib.hid hbk
      have hll := leftD_length hm (fun _ => true) hq
      have e2 : ((q : Int).toNat) = q := by simp
      obtain ⟨s, hs⟩ : ∃ s, leftD D (fun _ => true) q = s := ⟨_, rfl⟩
      rw [hs] at hll
      rw [e2, hs]
      have HLL := Lib.hid hll
      have HS := Lib.hid hs
      clear e2 hs b0 h0 h hm x0 xp z0 hbk hp hll
      go_enter Tryd.func19, Tryd.ntmps19
      go_wp2_with fail
      clear hw0 c0 c1 cp
      refine HC.out.mono ?_
      rintro e w1 ⟨rfl, b1⟩
      have cp := (HXp.out.below b1 HXp.out.lt).cell 0
      have HB1 := Lib.hid b1
      clear b1
      go_wp2_with fail
      refine (HBK.out _).mono ?_
      rintro e w1' ⟨rfl, rfl⟩
      have b1 := HB1.out
      have x01 := HX0.out.below b1 HX0.out.lt
      have xp1 := HXp.out.below b1 HXp.out.lt
      have hD1 := HD.out.step b1
      have c0 := x01.cell 0
      have c1 := x01.cell 1
      have hl := dLast2_any x.wa D.2.length x.wc D.2 (fun i => decide ((wr_ D.2 i).1 = (q : Int))) ⟨w.heap.size, 0, none⟩ ⟨w.heap.size + 1, 0, none⟩ w1 hD1.2 (fun W hW i hi => dGoes_any w1.heap.size x D w.heap.size (w.heap.size + 1) (q : Int) i W ⟨hD1.1.below hW, hD1.2.below hW⟩ (x01.below hW x01.lt) ((xp1.below hW xp1.lt).cell 0) hi)
      have HL := Lib.hid hl
      have HX1 := Lib.hid x01
      have HXp1 := Lib.hid xp1
      have HD1 := Lib.hid hD1
      have HBw := Lib.hid (HB.out.trans (b1.mono HB.out.size))
      clear b1 x01 xp1 hD1 hl HB1 HC HBK HX0 HXp HB HD
      go_wp2_with fail
      clear c0 c1 cp
      refine HL.out.mono ?_
      rintro e w2 ⟨g, rfl, hge, hM, b2⟩
      have c0 := (HX1.out.below b2 HX1.out.lt).cell 0
      have c1 := (HX1.out.below b2 HX1.out.lt).cell 1
      have cp := (HXp1.out.below b2 HXp1.out.lt).cell 0
      have hle := dLeft_any w2.heap.size x D g D.2.length (fun i => decide ((wr_ D.2 i).1 = (q : Int))) q w2 (Nat.le_refl _) (HD1.out.step b2) hM (by rw [HM.out.1.1]; exact hq)
      rw [leftD_goes] at hle
      simp only [dval] at hle
      rw [HS.out] at hle
      have HLE := Lib.hid hle
      have HB2 := Lib.hid (HBw.out.trans (b2.mono HBw.out.size))
      clear hle b2 hM hge HL
      go_wp2_with fail
      clear c0 c1 cp
      refine HLE.out.mono ?_
      rintro e w3 ⟨A, c, rfl, h3, b3⟩
      have HCL := Lib.hid (dClone_any w2.heap.size A s.length c s w3 b3.size h3 (by rw [HLL.out]; omega))
      have HB3 := Lib.hid (HB2.out.trans (b3.mono HB2.out.size))
      clear h3 b3 HLE
      go_wp2_with fail
      refine HCL.out.mono ?_
      rintro e w4 ⟨v4, rfl, h4, b4⟩
      have HO := Lib.hid (own_mono h4 HB3.out.size)
      have HB4 := Lib.hid (HB3.out.trans (b4.mono HB3.out.size))
      clear h4 b4
      go_wp2_with fail
      go_ret2
      exact ⟨v4, rfl, HO.out, HB4.out⟩
    · rw [if_neg hp]
      simp only [decide_eq_false hp] at hbk
      have HBK := Lib.hid hbk
      clear b0 h0 h hm x0 xp z0 hbk hp
      go_enter Tryd.func19, Tryd.ntmps19
      go_wp2_with fail
      clear hw0 c0 c1 cp
      refine HC.out.mono ?_
      rintro e w1 ⟨rfl, b1⟩
      have cp := (HXp.out.below b1 HXp.out.lt).cell 0
      have HB1 := Lib.hid (HB.out.trans (b1.mono HB.out.size))
      clear b1
      go_wp2_with fail
      refine (HBK.out _).mono ?_
      rintro e w1' ⟨rfl, rfl⟩
      go_wp2_with fail
      go_ret2
      exact ⟨_, rfl, own_nil _ _, HB1.out⟩
  · rw [if_neg hm]
    have HC := Lib.hid (dMay_no x D _ h0 hm)
    simp only [dval] at HC ⊢
    clear b0 h0 h hm x0 xp z0
    go_enter Tryd.func19, Tryd.ntmps19
    go_wp2_with fail
    clear hw0 c0 c1 cp
    refine HC.out.mono ?_
    rintro e w1 ⟨rfl, b1⟩
    have HB1 := Lib.hid (HB.out.trans (b1.mono HB.out.size))
    clear b1
    go_wp2_with fail
    go_ret2
    exact ⟨_, rfl, own_nil _ _, HB1.out⟩
end Go.Proofs.YtldnelimemjaiaaDoor
/-
  Labels as bytes, and the labels that stand on a disk, as plain lists.
-/
namespace Go.Proofs.YtldnelimemjaiaaDoor
open Go.RowKit Go.Shelf
set_option maxRecDepth 100000

/-- The sum of a text. -/
def sumN (s : List UInt8) : Nat := (fourW s).a.toNat
theorem sumN_lt (s : List UInt8) : sumN s < 4294967296 := (fourW s).a.isLt
/-- What is summed of a label. -/
def summedL (l : Lb) : List UInt8 := [67] ++ (leB 4 l.1 ++ (leB 4 l.2.1 ++ bytesP l.2.2))
theorem summedL_length (l : Lb) : (summedL l).length = 25 := by simp [summedL, leB_length, bytesP_length]
/-- A label's block. -/
def blockL (l : Lb) : List UInt8 := summedL l ++ (leB 4 (sumN (summedL l)) ++ List.replicate 227 0)
theorem blockL_length (l : Lb) : (blockL l).length = 256 := by simp [blockL, summedL_length, leB_length]
/-- The label that a block would be of. -/
def readL (b : List UInt8) : Lb := (leN ((b.drop 1).take 4), leN ((b.drop 5).take 4), getP ((b.drop 9).take 16))
theorem wf_readL (b : List UInt8) : WfL (readL b) := ⟨leN_le b 1 4, leN_le b 5 4, wf_getP _⟩
/-- The label of a block. -/
def labelO (b : List UInt8) : Option Lb := if MayP (readL b).2.2 then (if MayL (readL b) ∧ b = blockL (readL b) then some (readL b) else none) else none
theorem labelO_some {b : List UInt8} {l : Lb} (h : labelO b = some l) : MayL l ∧ WfL l ∧ b = blockL l := by
  unfold labelO at h
  split at h
  · split at h
    · next h1 =>
      cases h
      exact ⟨h1.1, wf_readL b, h1.2⟩
    · cases h
  · cases h
theorem win_of (A B C : List UInt8) (i k : Nat) (hi : A.length = i) (hk : B.length = k) : ((A ++ (B ++ C)).drop i).take k = B := by
  rw [List.drop_append_of_le_length (by omega), List.drop_of_length_le (by omega), List.nil_append, List.take_append_of_le_length (by omega), List.take_of_length_le (by omega)]
theorem readL_block {l : Lb} (hm : MayL l) (hw : WfL l) : readL (blockL l) = l := by
  obtain ⟨g, e, p⟩ := l
  obtain ⟨w1, w2, w3⟩ := hw
  obtain ⟨_, _, _, m4⟩ := hm
  simp only at w1 w2 w3 m4
  obtain ⟨T, hT⟩ : ∃ T, leB 4 (sumN (summedL (g, e, p))) ++ List.replicate 227 0 = T := ⟨_, rfl⟩
  have e0 : blockL (g, e, p) = [67] ++ (leB 4 g ++ (leB 4 e ++ (bytesP p ++ T))) := by rw [blockL, hT]; simp [summedL]
  have e1 : ((blockL (g, e, p)).drop 1).take 4 = leB 4 g := by rw [e0]; exact win_of _ _ _ 1 4 rfl (leB_length 4 g)
  have e2 : ((blockL (g, e, p)).drop 5).take 4 = leB 4 e := by
    rw [e0, ← List.append_assoc]
    exact win_of _ _ _ 5 4 (by simp [leB_length]) (leB_length 4 e)
  have e3 : ((blockL (g, e, p)).drop 9).take 16 = bytesP p := by
    rw [e0, ← List.append_assoc, ← List.append_assoc]
    exact win_of _ _ _ 9 16 (by simp [leB_length]) (bytesP_length p)
  rw [readL, e1, e2, e3, leN_leB 4 g (by omega), leN_leB 4 e (by omega), getP_bytesP m4 w3]
theorem labelO_block {l : Lb} (hm : MayL l) (hw : WfL l) : labelO (blockL l) = some l := by
  unfold labelO
  rw [readL_block hm hw, if_pos hm.2.2.2, if_pos ⟨hm, rfl⟩]

/-- A label is put in ahead of the first one with a smaller Gen. -/
def insL (l : Lb) : List Lb → List Lb
  | [] => [l]
  | m :: r => if m.1 < l.1 then l :: m :: r else m :: insL l r
theorem insL_perm (l : Lb) : ∀ L : List Lb, (insL l L).Perm (l :: L)
  | [] => List.Perm.refl _
  | m :: r => by
    unfold insL
    split
    · exact List.Perm.refl _
    · exact ((insL_perm l r).cons m).trans (List.Perm.swap l m r)
/-- Gens fall. -/
def Falls (L : List Lb) : Prop := L.Pairwise (fun l m => m.1 ≤ l.1)
theorem insL_falls (l : Lb) : ∀ {L : List Lb}, Falls L → Falls (insL l L)
  | [], _ => List.pairwise_singleton _ _
  | m :: r, h => by
    unfold insL
    obtain ⟨h1, h2⟩ := List.pairwise_cons.1 h
    split
    · next hlt =>
      refine List.pairwise_cons.2 ⟨fun x hx => ?_, h⟩
      rcases List.mem_cons.1 hx with rfl | hx
      · omega
      · have := h1 x hx; omega
    · next hge =>
      refine List.pairwise_cons.2 ⟨fun x hx => ?_, insL_falls l h2⟩
      rcases List.mem_cons.1 ((insL_perm l r).mem_iff.1 hx) with rfl | hx
      · omega
      · exact h1 x hx
/-- The labels in the first k slots, the greatest Gen first; as they come. -/
def standL (f : Nat → Option Lb) : Nat → List Lb
  | 0 => []
  | k + 1 => match f k with
    | some l => insL l (standL f k)
    | none => standL f k
def slotsL (f : Nat → Option Lb) : Nat → List Lb
  | 0 => []
  | k + 1 => match f k with
    | some l => slotsL f k ++ [l]
    | none => slotsL f k
theorem standL_congr {f g : Nat → Option Lb} : ∀ {n : Nat}, (∀ k, k < n → f k = g k) → standL f n = standL g n
  | 0, _ => rfl
  | n + 1, h => by rw [standL, standL, h n (Nat.lt_succ_self _), standL_congr (fun k hk => h k (by omega))]
theorem standL_perm (f : Nat → Option Lb) : ∀ k, (standL f k).Perm (slotsL f k)
  | 0 => List.Perm.refl _
  | k + 1 => by
    unfold standL slotsL
    cases f k with
    | none => exact standL_perm f k
    | some l => exact (insL_perm l _).trans (((standL_perm f k).cons l).trans (List.perm_append_singleton l _).symm)
theorem standL_falls (f : Nat → Option Lb) : ∀ k, Falls (standL f k)
  | 0 => List.Pairwise.nil
  | k + 1 => by
    unfold standL
    cases f k with
    | none => exact standL_falls f k
    | some l => exact insL_falls l (standL_falls f k)
theorem slotsL_mem {f : Nat → Option Lb} {l : Lb} : ∀ {k : Nat}, l ∈ slotsL f k ↔ ∃ q, q < k ∧ f q = some l
  | 0 => by simp [slotsL]
  | k + 1 => by
    have ih := slotsL_mem (f := f) (l := l) (k := k)
    unfold slotsL
    cases hf : f k with
    | none =>
      simp only
      rw [ih]
      constructor
      · rintro ⟨q, h1, h2⟩
        exact ⟨q, by omega, h2⟩
      · rintro ⟨q, h1, h2⟩
        rcases Nat.lt_or_ge q k with h | h
        · exact ⟨q, h, h2⟩
        · obtain rfl : q = k := by omega
          rw [hf] at h2
          cases h2
    | some m =>
      simp only [List.mem_append, List.mem_singleton]
      rw [ih]
      constructor
      · rintro (⟨q, h1, h2⟩ | rfl)
        · exact ⟨q, by omega, h2⟩
        · exact ⟨k, by omega, hf⟩
      · rintro ⟨q, h1, h2⟩
        rcases Nat.lt_or_ge q k with h | h
        · exact .inl ⟨q, h, h2⟩
        · obtain rfl : q = k := by omega
          rw [hf] at h2
          exact .inr (Option.some.inj h2).symm
theorem standL_mem {f : Nat → Option Lb} {l : Lb} {k : Nat} : l ∈ standL f k ↔ ∃ q, q < k ∧ f q = some l := (standL_perm f k).mem_iff.trans slotsL_mem
theorem slotsL_length (f : Nat → Option Lb) : ∀ k, (slotsL f k).length ≤ k
  | 0 => Nat.le_refl _
  | k + 1 => by
    have := slotsL_length f k
    unfold slotsL
    cases f k with
    | none => simp only; omega
    | some l => simp only [List.length_append, List.length_singleton]; omega
theorem standL_length (f : Nat → Option Lb) (k : Nat) : (standL f k).length ≤ k := by rw [(standL_perm f k).length_eq]; exact slotsL_length f k
/-- Each in its slot. -/
def Slotted (f : Nat → Option Lb) : Prop := ∀ q l, f q = some l → l.1 % 4 = q
theorem standL_uniq {f : Nat → Option Lb} (hs : Slotted f) {k : Nat} {l m : Lb} (hl : l ∈ standL f k) (hm : m ∈ standL f k) (h : l.1 = m.1) : l = m := by
  obtain ⟨q, _, e1⟩ := standL_mem.1 hl
  obtain ⟨r, _, e2⟩ := standL_mem.1 hm
  have h1 := hs q l e1
  have h2 := hs r m e2
  obtain rfl : q = r := by omega
  rw [e1] at e2
  exact Option.some.inj e2
/-- What falls and holds the same labels is the same list. -/
theorem standL_eq {f : Nat → Option Lb} (hs : Slotted f) {k : Nat} {L : List Lb} (hp : L.Perm (slotsL f k)) (hL : Falls L) : L = standL f k :=
  List.Perm.eq_of_pairwise (le := fun (l m : Lb) => m.1 ≤ l.1) (fun l m h1 h2 a b => standL_uniq hs ((hp.trans (standL_perm f k).symm).mem_iff.1 h1) h2 (by omega)) hL (standL_falls f k) (hp.trans (standL_perm f k).symm)
theorem slotsL_nodup {f : Nat → Option Lb} (hs : Slotted f) : ∀ k, (slotsL f k).Nodup
  | 0 => List.nodup_nil
  | k + 1 => by
    have ih := slotsL_nodup hs k
    unfold slotsL
    cases hf : f k with
    | none => exact ih
    | some l =>
      refine List.nodup_append.2 ⟨ih, List.pairwise_singleton _ _, fun a ha b hb e => ?_⟩
      obtain ⟨q, h1, h2⟩ := slotsL_mem.1 ha
      simp only [List.mem_singleton] at hb
      have e1 := hs q a h2
      have e2 := hs k l hf
      subst hb
      subst e
      omega
/-- Falling, and no Gen twice. -/
theorem standL_strict {f : Nat → Option Lb} (hs : Slotted f) (k : Nat) : (standL f k).Pairwise (fun l m => m.1 < l.1) := by
  have hn : (standL f k).Nodup := (standL_perm f k).nodup_iff.2 (slotsL_nodup hs k)
  have hf := standL_falls f k
  have hu : ∀ l m, l ∈ standL f k → m ∈ standL f k → l.1 = m.1 → l = m := fun l m h1 h2 h => standL_uniq hs h1 h2 h
  obtain ⟨L, hL⟩ : ∃ L, standL f k = L := ⟨_, rfl⟩
  rw [hL] at hn hf hu ⊢
  clear hL
  have := List.pairwise_and_iff.2 ⟨hn, hf⟩
  exact List.Pairwise.imp_of_mem (fun {a b} ha hb h => by
    have h1 := h.2
    rcases Nat.lt_or_eq_of_le h1 with h2 | h2
    · exact h2
    · exact absurd (hu a b ha hb h2.symm) h.1) this

/-- The label that stands in a slot. -/
def seenL (D : DkL) (p : Nat) : Option Lb := match labelO (leftD D (fun _ => true) p) with
  | some l => if l.1 % 4 = p then some l else none
  | none => none
theorem seenL_slotted (D : DkL) : Slotted (seenL D) := by
  intro q l h
  unfold seenL at h
  split at h
  · split at h
    · next h1 => cases h; exact h1
    · cases h
  · cases h
theorem seenL_may {D : DkL} {p : Nat} {l : Lb} (h : seenL D p = some l) : MayL l ∧ WfL l ∧ l.1 % 4 = p := by
  have hs := seenL_slotted D p l h
  unfold seenL at h
  split at h
  · next m hm =>
    split at h
    · cases h
      exact ⟨(labelO_some hm).1, (labelO_some hm).2.1, hs⟩
    · cases h
  · cases h
/-- What Find answers. -/
def findL (D : DkL) : List Lb := standL (seenL D) 4
def findO (D : DkL) : List Lb × Int := if MayD D then (findL D, 0) else ([], 8)
/-- What Put answers. -/
def putO (D : DkL) (l : Lb) : DkL × Int := if MayD D then (if MayL l then writeO D ((l.1 % 4 : Nat) : Int) (blockL l) else (([], []), 8)) else (([], []), 8)
theorem left_with (D : DkL) (p : Nat) (s : List UInt8) (q : Nat) : leftD (withD D p s) (fun _ => true) q = if q = p then s else leftD D (fun _ => true) q := by
  obtain ⟨h1, h2⟩ := wr_with D.2 (p : Int) s
  have hl : (withD D (p : Int) s).2.length = D.2.length + 1 := by simp [withD]
  have he : (withD D (p : Int) s).2 = D.2 ++ [((p : Int), s)] := rfl
  unfold leftD
  rw [hl, he, lastTo, h2]
  by_cases e : q = p
  · subst e
    rw [if_pos ⟨rfl, rfl⟩, if_pos rfl]
    simp only
    rw [h2]
  · rw [if_neg (fun h => e (by have := h.2; simp only at this; omega)), if_neg e]
    have hc : lastTo (D.2 ++ [((p : Int), s)]) (fun _ => true) (q : Int) D.2.length = lastTo D.2 (fun _ => true) (q : Int) D.2.length := lastTo_congr (fun i hi => by rw [h1 i hi])
    rw [hc]
    cases hx : lastTo D.2 (fun _ => true) (q : Int) D.2.length with
    | none => rfl
    | some i => simp only; rw [h1 i (lastTo_lt hx).1]
theorem seenL_with {D : DkL} {l : Lb} (hm : MayL l) (hw : WfL l) (q : Nat) : seenL (withD D ((l.1 % 4 : Nat) : Int) (blockL l)) q = if q = l.1 % 4 then some l else seenL D q := by
  unfold seenL
  rw [left_with]
  by_cases e : q = l.1 % 4
  · rw [if_pos e, if_pos e, labelO_block hm hw]
    simp only
    rw [if_pos e.symm]
  · rw [if_neg e, if_neg e]
theorem seenL_far {D : DkL} {p : Nat} {s : List UInt8} {q : Nat} (h : q ≠ p) : seenL (withD D (p : Int) s) q = seenL D q := by
  unfold seenL
  rw [left_with, if_neg h]
/-- Put's answer where it is one. -/
theorem putO_cases (D : DkL) (l : Lb) : (∃ c : Int, putO D l = (([], []), c) ∧ c ≠ 0) ∨ (MayD D ∧ MayL l ∧ D.2.length ≠ 4096 ∧ MayD (withD D ((l.1 % 4 : Nat) : Int) (blockL l)) ∧ putO D l = (withD D ((l.1 % 4 : Nat) : Int) (blockL l), 0)) := by
  unfold putO
  by_cases h1 : MayD D
  · rw [if_pos h1]
    by_cases h2 : MayL l
    · rw [if_pos h2]
      have hp : (0 : Int) ≤ ((l.1 % 4 : Nat) : Int) ∧ ((l.1 % 4 : Nat) : Int) < 256 := by omega
      unfold writeO
      rw [if_pos h1, if_pos hp, if_pos (blockL_length l)]
      by_cases h3 : D.2.length = 4096
      · rw [if_pos h3]; exact .inl ⟨_, rfl, by decide⟩
      · rw [if_neg h3]; exact .inr ⟨h1, h2, h3, with_may h1 hp (blockL_length l) h3, rfl⟩
    · rw [if_neg h2]; exact .inl ⟨_, rfl, by decide⟩
  · rw [if_neg h1]; exact .inl ⟨_, rfl, by decide⟩
end Go.Proofs.YtldnelimemjaiaaDoor
/-
  ptr.put: the bytes of a pointer whose numbers have room, in a row of the call's own.
-/
namespace Go.Proofs.YtldnelimemjaiaaDoor
open Go.RowKit Go.Shelf
set_option maxRecDepth 100000

/-- make([]byte, 0, 16). -/
theorem make_room (n : Nat) (hn : n ≤ 1000000) (W : World) : (Instr.makeSlice 44 (.int .i64 0) (.int .i64 (n : Int))).run Tryd.prog W = .ok (.slice (some ⟨W.heap.size, 0, none⟩) 0 n) (W.alloc (.cells (Array.replicate n (.int .u8 0)) 5)) := by
  obtain ⟨i0, hi, hz0, hz1, hz2⟩ := info_parts infoU8
  have hr := run_make (P := Tryd.prog) W 44 5 i0 (.int .u8 0) Tryd.underlying44 hi hz0 .i64 .i64 0 n (by omega) (by omega) (by rw [hz2]; omega) (by omega)
  rw [hz1] at hr
  simp only [Int.toNat_natCast] at hr
  have e : madeCells (Value.int .u8 0).cells (n * 1) = Array.replicate n (Value.int .u8 0) := by
    apply Array.ext
    · simp [size_madeCells]
    · intro i h1 h2
      simp [madeCells, Value.cells, Nat.mod_one]
  rw [e] at hr
  exact hr
theorem own_room0 (w : World) (n : Nat) (hn : n ≤ 1000000) : (w.alloc (.cells (Array.replicate n (.int .u8 0)) 5)).ownsRow w.heap.size 5 1 (.slice (some ⟨w.heap.size, 0, none⟩) 0 n) 0 (vals []) :=
  ⟨rfl, .inr ⟨w.heap.size, n, _, rfl, Nat.le_refl _, heap_alloc_new w _, Nat.zero_le _, by unfold maxLen; omega, by simp, rfl⟩⟩
/-- The bytes of the first numbers. -/
def putTo (p : Pt) : Nat → List UInt8
  | 0 => []
  | 1 => leB 1 p.1.toNat
  | 2 => leB 1 p.1.toNat ++ leB 3 p.2.1
  | 3 => leB 1 p.1.toNat ++ leB 3 p.2.1 ++ leB 4 p.2.2.1
  | 4 => leB 1 p.1.toNat ++ leB 3 p.2.1 ++ leB 4 p.2.2.1 ++ leB 4 p.2.2.2.1
  | _ => bytesP p
/-- How many bytes the first numbers have. -/
def stP : Nat → Nat
  | 0 => 0
  | 1 => 1
  | 2 => 4
  | 3 => 8
  | 4 => 12
  | _ => 16
set_option maxHeartbeats 1000000 in
theorem put_any (p : Pt) (hw : WfP p) (hroom : (0 ≤ p.1 ∧ p.1 < 256) ∧ p.2.1 < 16777216) (w : World) (hz : Szs w) : Calls Tryd.prog 74 #[ptV p] w (OwnV 16 (bytesP p) w) := by
  obtain ⟨a, b, c, d, e⟩ := p
  obtain ⟨_, _, h4, h5, h6⟩ := hw
  obtain ⟨⟨h1, h2⟩, h3⟩ := hroom
  dsimp only at h1 h2 h3 h4 h5 h6
  obtain ⟨A, rfl⟩ := Int.eq_ofNat_of_zero_le h1
  have i1 : (0 : Int) ≤ (b : Int) := by omega
  have i2 : (b : Int) ≤ 4294967295 := by omega
  have i3 : (0 : Int) ≤ (c : Int) := by omega
  have i4 : (c : Int) ≤ 4294967295 := by omega
  have i5 : (0 : Int) ≤ (d : Int) := by omega
  have i6 : (d : Int) ≤ 4294967295 := by omega
  have i7 : (0 : Int) ≤ (e : Int) := by omega
  have i8 : (e : Int) ≤ 4294967295 := by omega
  have hmk : ∀ W : World, (Instr.makeSlice 44 (.int .i64 0) (.int .i64 16)).run Tryd.prog W = _ := make_room 16 (by omega)
  have HZ := Lib.hid hz; clear hz
  obtain ⟨g, hg⟩ : ∃ g, w.heap.size = g := ⟨_, rfl⟩
  have HG := Lib.hid hg
  have hz3 := HZ.out.2
  obtain ⟨z0, z1, z2, z3, z4⟩ := hz3
  have y0 : ∀ o1 o2 o3 : Obj, (((w.alloc o1).alloc o2).alloc o3).cell? ⟨0, 0, none⟩ = some (.int .i64 1) := fun o1 o2 o3 => (HZ.out.step (below_alloc3' w o1 o2 o3)).2.1
  have y1 : ∀ o1 o2 o3 : Obj, (((w.alloc o1).alloc o2).alloc o3).cell? ⟨0, 1, none⟩ = some (.int .i64 3) := fun o1 o2 o3 => (HZ.out.step (below_alloc3' w o1 o2 o3)).2.2.1
  have y2 : ∀ o1 o2 o3 : Obj, (((w.alloc o1).alloc o2).alloc o3).cell? ⟨0, 2, none⟩ = some (.int .i64 4) := fun o1 o2 o3 => (HZ.out.step (below_alloc3' w o1 o2 o3)).2.2.2.1
  have y3 : ∀ o1 o2 o3 : Obj, (((w.alloc o1).alloc o2).alloc o3).cell? ⟨0, 3, none⟩ = some (.int .i64 4) := fun o1 o2 o3 => (HZ.out.step (below_alloc3' w o1 o2 o3)).2.2.2.2.1
  have y4 : ∀ o1 o2 o3 : Obj, (((w.alloc o1).alloc o2).alloc o3).cell? ⟨0, 4, none⟩ = some (.int .i64 4) := fun o1 o2 o3 => (HZ.out.step (below_alloc3' w o1 o2 o3)).2.2.2.2.2
  clear z0 z1 z2 z3 z4
  go_enter Tryd.func74, Tryd.ntmps74
  go_wp2_with fail
  clear y0 y1 y2 y3 y4
  go_loopw [4, 26] (fun v i wr => ∃ j : Nat, j ≤ 5 ∧ i = .int .i64 j ∧ wr.ownsRow (g + 2) 5 1 v (stP j) (vals (putTo (A, b, c, d, e) j)) ∧ Below g w wr ∧ Blk wr (g + 1) 117 #[.int .i64 (A : Int), .int .i64 (b : Int), .int .i64 (c : Int), .int .i64 (d : Int), .int .i64 (e : Int)] ∧ g + 3 ≤ wr.heap.size)
    (fun _ i _ => 5 - (intOf i).toNat)
  case atStart =>
    have hz2 : ((w.alloc (Obj.cells #[Value.int IntKind.i64 (A : Int), Value.int IntKind.u32 (b : Int), Value.int IntKind.u32 (c : Int), Value.int IntKind.u32 (d : Int), Value.int IntKind.u32 (e : Int)] 36)).alloc (Obj.cells #[Value.int IntKind.i64 (A : Int), Value.int IntKind.i64 (b : Int), Value.int IntKind.i64 (c : Int), Value.int IntKind.i64 (d : Int), Value.int IntKind.i64 (e : Int)] 117)).heap.size = g + 2 := by simp [hg]
    have hz1 : (w.alloc (Obj.cells #[Value.int IntKind.i64 (A : Int), Value.int IntKind.u32 (b : Int), Value.int IntKind.u32 (c : Int), Value.int IntKind.u32 (d : Int), Value.int IntKind.u32 (e : Int)] 36)).heap.size = g + 1 := by simp [hg]
    refine ⟨0, by omega, rfl, ?_, ?_, ?_, ?_⟩
    · have := own_room0 ((w.alloc (Obj.cells #[Value.int IntKind.i64 (A : Int), Value.int IntKind.u32 (b : Int), Value.int IntKind.u32 (c : Int), Value.int IntKind.u32 (d : Int), Value.int IntKind.u32 (e : Int)] 36)).alloc (Obj.cells #[Value.int IntKind.i64 (A : Int), Value.int IntKind.i64 (b : Int), Value.int IntKind.i64 (c : Int), Value.int IntKind.i64 (d : Int), Value.int IntKind.i64 (e : Int)] 117)) 16 (by omega)
      rw [hz2] at this
      exact this
    · have := below_alloc3' w (Obj.cells #[Value.int IntKind.i64 (A : Int), Value.int IntKind.u32 (b : Int), Value.int IntKind.u32 (c : Int), Value.int IntKind.u32 (d : Int), Value.int IntKind.u32 (e : Int)] 36) (Obj.cells #[Value.int IntKind.i64 (A : Int), Value.int IntKind.i64 (b : Int), Value.int IntKind.i64 (c : Int), Value.int IntKind.i64 (d : Int), Value.int IntKind.i64 (e : Int)] 117) (Obj.cells (Array.replicate 16 (Value.int IntKind.u8 0)) 5)
      rw [hg] at this
      exact this
    · have := (Blk.new (w.alloc (Obj.cells #[Value.int IntKind.i64 (A : Int), Value.int IntKind.u32 (b : Int), Value.int IntKind.u32 (c : Int), Value.int IntKind.u32 (d : Int), Value.int IntKind.u32 (e : Int)] 36)) 117 #[Value.int IntKind.i64 (A : Int), Value.int IntKind.i64 (b : Int), Value.int IntKind.i64 (c : Int), Value.int IntKind.i64 (d : Int), Value.int IntKind.i64 (e : Int)]).alloc (Obj.cells (Array.replicate 16 (Value.int IntKind.u8 0)) 5)
      rw [hz1] at this
      exact this
    · simp [hg]
  case round =>
    obtain ⟨j, hj, rfl, ho, hb, hn, hs⟩ := hrel
    have HO := Lib.hid ho; clear ho
    have HL := Lib.hid hb; clear hb
    have HN := Lib.hid hn; clear hn
    have HS := Lib.hid hs; clear hs
    obtain ⟨v, hv⟩ : ∃ v : Value, u4 = v := ⟨_, rfl⟩
    rw [hv] at HO ⊢
    clear hv
    have hcs : j = 0 ∨ j = 1 ∨ j = 2 ∨ j = 3 ∨ j = 4 ∨ j = 5 := by omega
    rcases hcs with rfl | rfl | rfl | rfl | rfl | rfl
    · have hn : wr.cell? ⟨g + 1, 0, none⟩ = some (.int .i64 ((A : Nat) : Int)) := HN.out.cell 0
      have hidx := szIdx0 wr
      have hput : ∀ (W : World), Calls Tryd.prog 76 #[.int .i64 (A : Nat), .int .i64 1] W _ := fun W => put_ok A 1 (by omega) (by omega) (by omega) W
      have HP := Lib.hid (hput wr); clear hput
      go_wp2_with fail
      refine HP.out.mono ?_
      rintro ev w1 ⟨rfl, hh, b1, s1⟩
      have HB1 := Lib.hid (bsl_of_holds (cap := 1) (leB_length 1 A) (Nat.le_refl _) (by unfold maxLen; omega) s1 hh)
      have HO1 := Lib.hid (own_below HO.out b1)
      have hsz1 : wr.heap.size ≤ w1.heap.size := b1.size
      have HS1 := Lib.hid hsz1; clear hsz1
      have HL1 := Lib.hid (HL.out.trans (b1.mono (by have := HS.out; omega)))
      have HN1 := Lib.hid (HN.out.below b1 HN.out.lt)
      clear hh s1 b1
      go_wp2_with (at_builtin
                   refine wpList_append_bsl rfl (.tmp 38) (.tmp 39) rfl (g + 2) v 0 _ rfl HO1.out w1.heap.size (some ⟨wr.heap.size + 1, 0, none⟩) 1 1 (leB 1 A) rfl HB1.out (by omega) (by have := HS.out; have := HS1.out; omega) ?_
                   intro v2 w2 h2 hgr2
                   have HO2 := Lib.hid h2; clear h2
                   have HGR := Lib.hid hgr2; clear hgr2)
      go_roundw
      case rel =>
        have hne : ∀ r, v.ownBlock = some r → g + 2 ≤ r := fun r hr => (HO1.out.lt r hr).1
        refine ⟨1, by omega, by first | rfl | go_num, ?_, ?_, ?_, ?_⟩
        · have := HO2.out; simpa [putTo, stP, bytesP] using this
        · exact HL1.out.grown HGR.out (by have := HS.out; have := HS1.out; omega) (fun r hr => by have := hne r hr; omega)
        · exact HN1.out.grown HGR.out (fun er => by have := hne (g + 1) er.symm; omega)
        · have := HGR.out.size; have := HS1.out; have := HS.out; omega
      case measure => simp [intOf]
    · have hn : wr.cell? ⟨g + 1, 1, none⟩ = some (.int .i64 ((b : Nat) : Int)) := HN.out.cell 1
      have hidx := szIdx1 wr
      have hput : ∀ (W : World), Calls Tryd.prog 76 #[.int .i64 (b : Nat), .int .i64 3] W _ := fun W => put_ok b 3 (by omega) (by omega) (by omega) W
      have HP := Lib.hid (hput wr); clear hput
      go_wp2_with fail
      refine HP.out.mono ?_
      rintro ev w1 ⟨rfl, hh, b1, s1⟩
      have HB1 := Lib.hid (bsl_of_holds (cap := 3) (leB_length 3 b) (Nat.le_refl _) (by unfold maxLen; omega) s1 hh)
      have HO1 := Lib.hid (own_below HO.out b1)
      have hsz1 : wr.heap.size ≤ w1.heap.size := b1.size
      have HS1 := Lib.hid hsz1; clear hsz1
      have HL1 := Lib.hid (HL.out.trans (b1.mono (by have := HS.out; omega)))
      have HN1 := Lib.hid (HN.out.below b1 HN.out.lt)
      clear hh s1 b1
      go_wp2_with (at_builtin
                   refine wpList_append_bsl rfl (.tmp 38) (.tmp 39) rfl (g + 2) v 1 _ rfl HO1.out w1.heap.size (some ⟨wr.heap.size + 1, 0, none⟩) 3 3 (leB 3 b) rfl HB1.out (by omega) (by have := HS.out; have := HS1.out; omega) ?_
                   intro v2 w2 h2 hgr2
                   have HO2 := Lib.hid h2; clear h2
                   have HGR := Lib.hid hgr2; clear hgr2)
      go_roundw
      case rel =>
        have hne : ∀ r, v.ownBlock = some r → g + 2 ≤ r := fun r hr => (HO1.out.lt r hr).1
        refine ⟨2, by omega, by first | rfl | go_num, ?_, ?_, ?_, ?_⟩
        · have := HO2.out; simpa [putTo, stP, bytesP] using this
        · exact HL1.out.grown HGR.out (by have := HS.out; have := HS1.out; omega) (fun r hr => by have := hne r hr; omega)
        · exact HN1.out.grown HGR.out (fun er => by have := hne (g + 1) er.symm; omega)
        · have := HGR.out.size; have := HS1.out; have := HS.out; omega
      case measure => simp [intOf]
    · have hn : wr.cell? ⟨g + 1, 2, none⟩ = some (.int .i64 ((c : Nat) : Int)) := HN.out.cell 2
      have hidx := szIdx2 wr
      have hput : ∀ (W : World), Calls Tryd.prog 76 #[.int .i64 (c : Nat), .int .i64 4] W _ := fun W => put_ok c 4 (by omega) (by omega) (by omega) W
      have HP := Lib.hid (hput wr); clear hput
      go_wp2_with fail
      refine HP.out.mono ?_
      rintro ev w1 ⟨rfl, hh, b1, s1⟩
      have HB1 := Lib.hid (bsl_of_holds (cap := 4) (leB_length 4 c) (Nat.le_refl _) (by unfold maxLen; omega) s1 hh)
      have HO1 := Lib.hid (own_below HO.out b1)
      have hsz1 : wr.heap.size ≤ w1.heap.size := b1.size
      have HS1 := Lib.hid hsz1; clear hsz1
      have HL1 := Lib.hid (HL.out.trans (b1.mono (by have := HS.out; omega)))
      have HN1 := Lib.hid (HN.out.below b1 HN.out.lt)
      clear hh s1 b1
      go_wp2_with (at_builtin
                   refine wpList_append_bsl rfl (.tmp 38) (.tmp 39) rfl (g + 2) v 4 _ rfl HO1.out w1.heap.size (some ⟨wr.heap.size + 1, 0, none⟩) 4 4 (leB 4 c) rfl HB1.out (by omega) (by have := HS.out; have := HS1.out; omega) ?_
                   intro v2 w2 h2 hgr2
                   have HO2 := Lib.hid h2; clear h2
                   have HGR := Lib.hid hgr2; clear hgr2)
      go_roundw
      case rel =>
        have hne : ∀ r, v.ownBlock = some r → g + 2 ≤ r := fun r hr => (HO1.out.lt r hr).1
        refine ⟨3, by omega, by first | rfl | go_num, ?_, ?_, ?_, ?_⟩
        · have := HO2.out; simpa [putTo, stP, bytesP] using this
        · exact HL1.out.grown HGR.out (by have := HS.out; have := HS1.out; omega) (fun r hr => by have := hne r hr; omega)
        · exact HN1.out.grown HGR.out (fun er => by have := hne (g + 1) er.symm; omega)
        · have := HGR.out.size; have := HS1.out; have := HS.out; omega
      case measure => simp [intOf]
    · have hn : wr.cell? ⟨g + 1, 3, none⟩ = some (.int .i64 ((d : Nat) : Int)) := HN.out.cell 3
      have hidx := szIdx3 wr
      have hput : ∀ (W : World), Calls Tryd.prog 76 #[.int .i64 (d : Nat), .int .i64 4] W _ := fun W => put_ok d 4 (by omega) (by omega) (by omega) W
      have HP := Lib.hid (hput wr); clear hput
      go_wp2_with fail
      refine HP.out.mono ?_
      rintro ev w1 ⟨rfl, hh, b1, s1⟩
      have HB1 := Lib.hid (bsl_of_holds (cap := 4) (leB_length 4 d) (Nat.le_refl _) (by unfold maxLen; omega) s1 hh)
      have HO1 := Lib.hid (own_below HO.out b1)
      have hsz1 : wr.heap.size ≤ w1.heap.size := b1.size
      have HS1 := Lib.hid hsz1; clear hsz1
      have HL1 := Lib.hid (HL.out.trans (b1.mono (by have := HS.out; omega)))
      have HN1 := Lib.hid (HN.out.below b1 HN.out.lt)
      clear hh s1 b1
      go_wp2_with (at_builtin
                   refine wpList_append_bsl rfl (.tmp 38) (.tmp 39) rfl (g + 2) v 8 _ rfl HO1.out w1.heap.size (some ⟨wr.heap.size + 1, 0, none⟩) 4 4 (leB 4 d) rfl HB1.out (by omega) (by have := HS.out; have := HS1.out; omega) ?_
                   intro v2 w2 h2 hgr2
                   have HO2 := Lib.hid h2; clear h2
                   have HGR := Lib.hid hgr2; clear hgr2)
      go_roundw
      case rel =>
        have hne : ∀ r, v.ownBlock = some r → g + 2 ≤ r := fun r hr => (HO1.out.lt r hr).1
        refine ⟨4, by omega, by first | rfl | go_num, ?_, ?_, ?_, ?_⟩
        · have := HO2.out; simpa [putTo, stP, bytesP] using this
        · exact HL1.out.grown HGR.out (by have := HS.out; have := HS1.out; omega) (fun r hr => by have := hne r hr; omega)
        · exact HN1.out.grown HGR.out (fun er => by have := hne (g + 1) er.symm; omega)
        · have := HGR.out.size; have := HS1.out; have := HS.out; omega
      case measure => simp [intOf]
    · have hn : wr.cell? ⟨g + 1, 4, none⟩ = some (.int .i64 ((e : Nat) : Int)) := HN.out.cell 4
      have hidx := szIdx4 wr
      have hput : ∀ (W : World), Calls Tryd.prog 76 #[.int .i64 (e : Nat), .int .i64 4] W _ := fun W => put_ok e 4 (by omega) (by omega) (by omega) W
      have HP := Lib.hid (hput wr); clear hput
      go_wp2_with fail
      refine HP.out.mono ?_
      rintro ev w1 ⟨rfl, hh, b1, s1⟩
      have HB1 := Lib.hid (bsl_of_holds (cap := 4) (leB_length 4 e) (Nat.le_refl _) (by unfold maxLen; omega) s1 hh)
      have HO1 := Lib.hid (own_below HO.out b1)
      have hsz1 : wr.heap.size ≤ w1.heap.size := b1.size
      have HS1 := Lib.hid hsz1; clear hsz1
      have HL1 := Lib.hid (HL.out.trans (b1.mono (by have := HS.out; omega)))
      have HN1 := Lib.hid (HN.out.below b1 HN.out.lt)
      clear hh s1 b1
      go_wp2_with (at_builtin
                   refine wpList_append_bsl rfl (.tmp 38) (.tmp 39) rfl (g + 2) v 12 _ rfl HO1.out w1.heap.size (some ⟨wr.heap.size + 1, 0, none⟩) 4 4 (leB 4 e) rfl HB1.out (by omega) (by have := HS.out; have := HS1.out; omega) ?_
                   intro v2 w2 h2 hgr2
                   have HO2 := Lib.hid h2; clear h2
                   have HGR := Lib.hid hgr2; clear hgr2)
      go_roundw
      case rel =>
        have hne : ∀ r, v.ownBlock = some r → g + 2 ≤ r := fun r hr => (HO1.out.lt r hr).1
        refine ⟨5, by omega, by first | rfl | go_num, ?_, ?_, ?_, ?_⟩
        · have := HO2.out; simpa [putTo, stP, bytesP] using this
        · exact HL1.out.grown HGR.out (by have := HS.out; have := HS1.out; omega) (fun r hr => by have := hne r hr; omega)
        · exact HN1.out.grown HGR.out (fun er => by have := hne (g + 1) er.symm; omega)
        · have := HGR.out.size; have := HS1.out; have := HS.out; omega
      case measure => simp [intOf]
    · go_wp2_with fail
      go_ret
      have := HO.out
      refine ⟨_, rfl, own_mono this (by have := HG.out; omega), ?_⟩
      rw [HG.out]
      exact HL.out
end Go.Proofs.YtldnelimemjaiaaDoor
/-
  ptr.get: the pointer whose sixteen bytes these are.
-/
namespace Go.Proofs.YtldnelimemjaiaaDoor
open Go.RowKit Go.Shelf
set_option maxRecDepth 100000

/-- The numbers that are there yet. -/
def numTo (n0 n1 n2 n3 n4 : Nat) : Nat → Array Value
  | 0 => #[.int .i64 0, .int .i64 0, .int .i64 0, .int .i64 0, .int .i64 0]
  | 1 => #[.int .i64 (n0 : Int), .int .i64 0, .int .i64 0, .int .i64 0, .int .i64 0]
  | 2 => #[.int .i64 (n0 : Int), .int .i64 (n1 : Int), .int .i64 0, .int .i64 0, .int .i64 0]
  | 3 => #[.int .i64 (n0 : Int), .int .i64 (n1 : Int), .int .i64 (n2 : Int), .int .i64 0, .int .i64 0]
  | 4 => #[.int .i64 (n0 : Int), .int .i64 (n1 : Int), .int .i64 (n2 : Int), .int .i64 (n3 : Int), .int .i64 0]
  | _ => #[.int .i64 (n0 : Int), .int .i64 (n1 : Int), .int .i64 (n2 : Int), .int .i64 (n3 : Int), .int .i64 (n4 : Int)]
/-- Where the next one stands. -/
def atP : Nat → Nat
  | 0 => 0
  | 1 => 1
  | 2 => 4
  | 3 => 8
  | 4 => 12
  | _ => 16
set_option maxHeartbeats 1000000 in
theorem get_any (a : Option Addr) (cap : Nat) (s : List UInt8) (w : World) (hB : Bsl w w.heap.size a 16 cap s) (hz : Szs w) : Calls Tryd.prog 60 #[.slice a 16 cap] w fun e w' => e = .returned (ptV (getP s)) ∧ Below w.heap.size w w' := by
  have l0 := leN_le s 0 1
  have l1 := leN_le s 1 3
  have l2 := leN_le s 4 4
  have l3 := leN_le s 8 4
  have l4 := leN_le s 12 4
  obtain ⟨P, hP⟩ : ∃ P, getP s = P := ⟨_, rfl⟩
  rw [hP]
  rw [getP] at hP
  obtain ⟨n0, h0⟩ : ∃ n, leN ((s.drop 0).take 1) = n := ⟨_, rfl⟩
  obtain ⟨n1, h1⟩ : ∃ n, leN ((s.drop 1).take 3) = n := ⟨_, rfl⟩
  obtain ⟨n2, h2⟩ : ∃ n, leN ((s.drop 4).take 4) = n := ⟨_, rfl⟩
  obtain ⟨n3, h3⟩ : ∃ n, leN ((s.drop 8).take 4) = n := ⟨_, rfl⟩
  obtain ⟨n4, h4⟩ : ∃ n, leN ((s.drop 12).take 4) = n := ⟨_, rfl⟩
  rw [h0, h1, h2, h3, h4] at hP
  rw [h0] at l0
  rw [h1] at l1
  rw [h2] at l2
  rw [h3] at l3
  rw [h4] at l4
  subst hP
  have i0 : (0 : Int) ≤ (n0 : Int) := by omega
  have j0 : (n0 : Int) ≤ 4294967295 := by omega
  have i1 : (0 : Int) ≤ (n1 : Int) := by omega
  have j1 : (n1 : Int) ≤ 4294967295 := by omega
  have i2 : (0 : Int) ≤ (n2 : Int) := by omega
  have j2 : (n2 : Int) ≤ 4294967295 := by omega
  have i3 : (0 : Int) ≤ (n3 : Int) := by omega
  have j3 : (n3 : Int) ≤ 4294967295 := by omega
  have i4 : (0 : Int) ≤ (n4 : Int) := by omega
  have j4 : (n4 : Int) ≤ 4294967295 := by omega
  obtain ⟨g, hg⟩ : ∃ g, w.heap.size = g := ⟨_, rfl⟩
  have HG := Lib.hid hg
  have HZ := Lib.hid hz; clear hz
  have HB := Lib.hid hB; clear hB
  have al2 : ∀ o1 o2 : Obj, Below w.heap.size w ((w.alloc o1).alloc o2) := fun o1 o2 => ((Below.refl _ w).alloc (Nat.le_refl _) _).alloc (by simp) _
  have y0 : ∀ o1 o2 : Obj, ((w.alloc o1).alloc o2).cell? ⟨0, 0, none⟩ = some (.int .i64 1) := fun o1 o2 => (HZ.out.step (al2 o1 o2)).2.1
  have y1 : ∀ o1 o2 : Obj, ((w.alloc o1).alloc o2).cell? ⟨0, 1, none⟩ = some (.int .i64 3) := fun o1 o2 => (HZ.out.step (al2 o1 o2)).2.2.1
  have y2 : ∀ o1 o2 : Obj, ((w.alloc o1).alloc o2).cell? ⟨0, 2, none⟩ = some (.int .i64 4) := fun o1 o2 => (HZ.out.step (al2 o1 o2)).2.2.2.1
  have y3 : ∀ o1 o2 : Obj, ((w.alloc o1).alloc o2).cell? ⟨0, 3, none⟩ = some (.int .i64 4) := fun o1 o2 => (HZ.out.step (al2 o1 o2)).2.2.2.2.1
  have y4 : ∀ o1 o2 : Obj, ((w.alloc o1).alloc o2).cell? ⟨0, 4, none⟩ = some (.int .i64 4) := fun o1 o2 => (HZ.out.step (al2 o1 o2)).2.2.2.2.2
  have H0 := Lib.hid h0; clear h0
  have H1 := Lib.hid h1; clear h1
  have H2 := Lib.hid h2; clear h2
  have H3 := Lib.hid h3; clear h3
  have H4 := Lib.hid h4; clear h4
  have AL := Lib.hid al2; clear al2
  go_enter Tryd.func60, Tryd.ntmps60
  go_wp2_with fail
  clear y0 y1 y2 y3 y4
  go_loopw [4, 8] (fun t i wr => ∃ j : Nat, j ≤ 5 ∧ i = .int .i64 j ∧ t = .int .i64 (atP j : Nat) ∧ Below g w wr ∧ Blk wr (g + 1) 117 (numTo n0 n1 n2 n3 n4 j) ∧ Blk wr g 36 #[.int .i64 0, .int .u32 0, .int .u32 0, .int .u32 0, .int .u32 0])
    (fun _ i _ => 5 - (intOf i).toNat)
  case atStart =>
    refine ⟨0, by omega, rfl, rfl, ?_, ?_, ?_⟩
    · have := AL.out (Obj.cells #[.int .i64 0, .int .u32 0, .int .u32 0, .int .u32 0, .int .u32 0] 36) (Obj.cells #[.int .i64 0, .int .i64 0, .int .i64 0, .int .i64 0, .int .i64 0] 117)
      rw [HG.out] at this
      exact this
    · have := Blk.new (w.alloc (Obj.cells #[.int .i64 0, .int .u32 0, .int .u32 0, .int .u32 0, .int .u32 0] 36)) 117 #[.int .i64 0, .int .i64 0, .int .i64 0, .int .i64 0, .int .i64 0]
      rw [World.size_alloc, HG.out] at this
      exact this
    · have := (Blk.new w 36 #[.int .i64 0, .int .u32 0, .int .u32 0, .int .u32 0, .int .u32 0]).alloc (Obj.cells #[.int .i64 0, .int .i64 0, .int .i64 0, .int .i64 0, .int .i64 0] 117)
      rw [HG.out] at this
      exact this
  case round =>
    obtain ⟨j, hj, rfl, rfl, hb, hn, hp⟩ := hrel
    have HL := Lib.hid hb; clear hb
    have HN := Lib.hid hn; clear hn
    have HP := Lib.hid hp; clear hp
    have hcs : j = 0 ∨ j = 1 ∨ j = 2 ∨ j = 3 ∨ j = 4 ∨ j = 5 := by omega
    rcases hcs with rfl | rfl | rfl | rfl | rfl | rfl
    · have hidx := szIdx0 wr
      have hB1 : Bsl wr wr.heap.size a 16 cap s := (HB.out.below (by rw [HG.out]; exact HL.out)).more HL.out.size
      have hget : Calls Tryd.prog 61 #[.slice a 16 cap, .int .i64 0, .int .i64 1] wr _ := get_bsl hB1 0 1 (by omega) (by omega) (by omega)
      rw [H0.out] at hget
      have HGT := Lib.hid hget; clear hget hB1
      have e0 : ((atP 0 : Nat) : Int) = 0 := rfl
      rw [e0]
      go_wp2_with fail
      refine HGT.out.mono ?_
      rintro ev w1 ⟨rfl, b1⟩
      have HN1 := Lib.hid (HN.out.below b1 HN.out.lt)
      have HP1 := Lib.hid (HP.out.below b1 HP.out.lt)
      have HL1 := Lib.hid (HL.out.trans (b1.mono (by have := HN.out.lt; omega)))
      have hcj : w1.cell? ⟨g + 1, 0, none⟩ = some (.int .i64 0) := HN1.out.cell 0
      have hfj : w1.frozen? ⟨g + 1, 0, none⟩ = false := HN1.out.frozen 0
      clear b1
      go_wp2_with fail
      go_roundw
      case rel =>
        refine ⟨1, by omega, by first | rfl | go_num, by first | rfl | go_num, ?_, ?_, ?_⟩
        · exact HL1.out.setCell (p := ⟨g + 1, 0, none⟩) (by show g ≤ g + 1; omega) _
        · exact HN1.out.set_ 0 (.int .i64 (n0 : Int))
        · exact HP1.out.far (by show g ≠ g + 1; omega) _
      case measure => simp [intOf]
    · have hidx := szIdx1 wr
      have hB1 : Bsl wr wr.heap.size a 16 cap s := (HB.out.below (by rw [HG.out]; exact HL.out)).more HL.out.size
      have hget : Calls Tryd.prog 61 #[.slice a 16 cap, .int .i64 1, .int .i64 3] wr _ := get_bsl hB1 1 3 (by omega) (by omega) (by omega)
      rw [H1.out] at hget
      have HGT := Lib.hid hget; clear hget hB1
      have e0 : ((atP 1 : Nat) : Int) = 1 := rfl
      rw [e0]
      go_wp2_with fail
      refine HGT.out.mono ?_
      rintro ev w1 ⟨rfl, b1⟩
      have HN1 := Lib.hid (HN.out.below b1 HN.out.lt)
      have HP1 := Lib.hid (HP.out.below b1 HP.out.lt)
      have HL1 := Lib.hid (HL.out.trans (b1.mono (by have := HN.out.lt; omega)))
      have hcj : w1.cell? ⟨g + 1, 1, none⟩ = some (.int .i64 0) := HN1.out.cell 1
      have hfj : w1.frozen? ⟨g + 1, 1, none⟩ = false := HN1.out.frozen 1
      clear b1
      go_wp2_with fail
      go_roundw
      case rel =>
        refine ⟨2, by omega, by first | rfl | go_num, by first | rfl | go_num, ?_, ?_, ?_⟩
        · exact HL1.out.setCell (p := ⟨g + 1, 1, none⟩) (by show g ≤ g + 1; omega) _
        · exact HN1.out.set_ 1 (.int .i64 (n1 : Int))
        · exact HP1.out.far (by show g ≠ g + 1; omega) _
      case measure => simp [intOf]
    · have hidx := szIdx2 wr
      have hB1 : Bsl wr wr.heap.size a 16 cap s := (HB.out.below (by rw [HG.out]; exact HL.out)).more HL.out.size
      have hget : Calls Tryd.prog 61 #[.slice a 16 cap, .int .i64 4, .int .i64 4] wr _ := get_bsl hB1 4 4 (by omega) (by omega) (by omega)
      rw [H2.out] at hget
      have HGT := Lib.hid hget; clear hget hB1
      have e0 : ((atP 2 : Nat) : Int) = 4 := rfl
      rw [e0]
      go_wp2_with fail
      refine HGT.out.mono ?_
      rintro ev w1 ⟨rfl, b1⟩
      have HN1 := Lib.hid (HN.out.below b1 HN.out.lt)
      have HP1 := Lib.hid (HP.out.below b1 HP.out.lt)
      have HL1 := Lib.hid (HL.out.trans (b1.mono (by have := HN.out.lt; omega)))
      have hcj : w1.cell? ⟨g + 1, 2, none⟩ = some (.int .i64 0) := HN1.out.cell 2
      have hfj : w1.frozen? ⟨g + 1, 2, none⟩ = false := HN1.out.frozen 2
      clear b1
      go_wp2_with fail
      go_roundw
      case rel =>
        refine ⟨3, by omega, by first | rfl | go_num, by first | rfl | go_num, ?_, ?_, ?_⟩
        · exact HL1.out.setCell (p := ⟨g + 1, 2, none⟩) (by show g ≤ g + 1; omega) _
        · exact HN1.out.set_ 2 (.int .i64 (n2 : Int))
        · exact HP1.out.far (by show g ≠ g + 1; omega) _
      case measure => simp [intOf]
    · have hidx := szIdx3 wr
      have hB1 : Bsl wr wr.heap.size a 16 cap s := (HB.out.below (by rw [HG.out]; exact HL.out)).more HL.out.size
      have hget : Calls Tryd.prog 61 #[.slice a 16 cap, .int .i64 8, .int .i64 4] wr _ := get_bsl hB1 8 4 (by omega) (by omega) (by omega)
      rw [H3.out] at hget
      have HGT := Lib.hid hget; clear hget hB1
      have e0 : ((atP 3 : Nat) : Int) = 8 := rfl
      rw [e0]
      go_wp2_with fail
      refine HGT.out.mono ?_
      rintro ev w1 ⟨rfl, b1⟩
      have HN1 := Lib.hid (HN.out.below b1 HN.out.lt)
      have HP1 := Lib.hid (HP.out.below b1 HP.out.lt)
      have HL1 := Lib.hid (HL.out.trans (b1.mono (by have := HN.out.lt; omega)))
      have hcj : w1.cell? ⟨g + 1, 3, none⟩ = some (.int .i64 0) := HN1.out.cell 3
      have hfj : w1.frozen? ⟨g + 1, 3, none⟩ = false := HN1.out.frozen 3
      clear b1
      go_wp2_with fail
      go_roundw
      case rel =>
        refine ⟨4, by omega, by first | rfl | go_num, by first | rfl | go_num, ?_, ?_, ?_⟩
        · exact HL1.out.setCell (p := ⟨g + 1, 3, none⟩) (by show g ≤ g + 1; omega) _
        · exact HN1.out.set_ 3 (.int .i64 (n3 : Int))
        · exact HP1.out.far (by show g ≠ g + 1; omega) _
      case measure => simp [intOf]
    · have hidx := szIdx4 wr
      have hB1 : Bsl wr wr.heap.size a 16 cap s := (HB.out.below (by rw [HG.out]; exact HL.out)).more HL.out.size
      have hget : Calls Tryd.prog 61 #[.slice a 16 cap, .int .i64 12, .int .i64 4] wr _ := get_bsl hB1 12 4 (by omega) (by omega) (by omega)
      rw [H4.out] at hget
      have HGT := Lib.hid hget; clear hget hB1
      have e0 : ((atP 4 : Nat) : Int) = 12 := rfl
      rw [e0]
      go_wp2_with fail
      refine HGT.out.mono ?_
      rintro ev w1 ⟨rfl, b1⟩
      have HN1 := Lib.hid (HN.out.below b1 HN.out.lt)
      have HP1 := Lib.hid (HP.out.below b1 HP.out.lt)
      have HL1 := Lib.hid (HL.out.trans (b1.mono (by have := HN.out.lt; omega)))
      have hcj : w1.cell? ⟨g + 1, 4, none⟩ = some (.int .i64 0) := HN1.out.cell 4
      have hfj : w1.frozen? ⟨g + 1, 4, none⟩ = false := HN1.out.frozen 4
      clear b1
      go_wp2_with fail
      go_roundw
      case rel =>
        refine ⟨5, by omega, by first | rfl | go_num, by first | rfl | go_num, ?_, ?_, ?_⟩
        · exact HL1.out.setCell (p := ⟨g + 1, 4, none⟩) (by show g ≤ g + 1; omega) _
        · exact HN1.out.set_ 4 (.int .i64 (n4 : Int))
        · exact HP1.out.far (by show g ≠ g + 1; omega) _
      case measure => simp [intOf]
    · have q0 : wr.cell? ⟨g + 1, 0, none⟩ = some (.int .i64 (n0 : Int)) := HN.out.cell 0
      have q1 : wr.cell? ⟨g + 1, 1, none⟩ = some (.int .i64 (n1 : Int)) := HN.out.cell 1
      have q2 : wr.cell? ⟨g + 1, 2, none⟩ = some (.int .i64 (n2 : Int)) := HN.out.cell 2
      have q3 : wr.cell? ⟨g + 1, 3, none⟩ = some (.int .i64 (n3 : Int)) := HN.out.cell 3
      have q4 : wr.cell? ⟨g + 1, 4, none⟩ = some (.int .i64 (n4 : Int)) := HN.out.cell 4
      have d0 : wr.cell? ⟨g, 0, none⟩ = some (.int .i64 0) := HP.out.cell 0
      have d1 : wr.cell? ⟨g, 1, none⟩ = some (.int .u32 0) := HP.out.cell 1
      have d2 : wr.cell? ⟨g, 2, none⟩ = some (.int .u32 0) := HP.out.cell 2
      have d3 : wr.cell? ⟨g, 3, none⟩ = some (.int .u32 0) := HP.out.cell 3
      have d4 : wr.cell? ⟨g, 4, none⟩ = some (.int .u32 0) := HP.out.cell 4
      have fr : ∀ i, wr.frozen? ⟨g, i, none⟩ = false := fun i => HP.out.frozen i
      go_wp2_with fail
      obtain ⟨wf, hwf⟩ : ∃ wf, set5 wr g (.int .i64 (n0 : Int)) (.int .u32 (n1 : Int)) (.int .u32 (n2 : Int)) (.int .u32 (n3 : Int)) (.int .u32 (n4 : Int)) = wf := ⟨_, rfl⟩
      have HX := Lib.hid (HP.out.set5 (.int .i64 (n0 : Int)) (.int .u32 (n1 : Int)) (.int .u32 (n2 : Int)) (.int .u32 (n3 : Int)) (.int .u32 (n4 : Int)))
      have HBF := Lib.hid (below_set5 HL.out (Nat.le_refl g) (.int .i64 (n0 : Int)) (.int .u32 (n1 : Int)) (.int .u32 (n2 : Int)) (.int .u32 (n3 : Int)) (.int .u32 (n4 : Int)))
      rw [hwf] at HX HBF
      simp only [set5] at hwf
      rw [hwf]
      clear hwf q0 q1 q2 q3 q4 d0 d1 d2 d3 d4 fr
      have e0 := HX.out.cell 0
      have e1 := HX.out.cell 1
      have e2 := HX.out.cell 2
      have e3 := HX.out.cell 3
      have e4 := HX.out.cell 4
      refine bodyPost_ret (v := ptV (n0, n1, n2, n3, n4)) (by simp [results, Tryd.f60, go_sem, e0, e1, e2, e3, e4]) rfl ⟨rfl, ?_⟩
      rw [HG.out]
      exact HBF.out
end Go.Proofs.YtldnelimemjaiaaDoor
/-
  ptr.Check, ptr.Write and ptr.Read, whatever they are handed; nothing that was there is written.
-/
namespace Go.Proofs.YtldnelimemjaiaaDoor
open Go.RowKit Go.Shelf
set_option maxRecDepth 100000

/-- A list of the call's own, and an error's number. -/
def OutB (S : List UInt8) (c : Int) (w : World) (e : Ending) (w' : World) : Prop := ∃ v, e = .returned (.tuple #[v, .int .i64 c]) ∧ w'.ownsRow w.heap.size 5 1 v S.length (vals S) ∧ Below w.heap.size w w'
theorem outB_no {w w' : World} {c : Int} {e : Ending} (he : e = .returned (.tuple #[.slice none 0 0, .int .i64 c])) (hb : Below w.heap.size w w') : OutB [] c w e w' := ⟨_, he, own_nil _ _, hb⟩
/-- A pointer, and an error's number. -/
def OutP (p : Pt) (c : Int) (w : World) (e : Ending) (w' : World) : Prop := e = .returned (.tuple #[ptV p, .int .i64 c]) ∧ Below w.heap.size w w'
/-- What Check answers. -/
def pcheckO (p : Pt) : Int := if MayP p then 0 else 8
/-- What Write answers. -/
def pwriteO (p : Pt) : List UInt8 × Int := if MayP p then (bytesP p, 0) else ([], 8)
/-- What Read answers. -/
def preadO (s : List UInt8) : Pt × Int := if s.length = 16 then (if MayP (getP s) then (getP s, 0) else (p0, 8)) else (p0, 3)

theorem Check_any (p : Pt) (w : World) : Calls Tryd.prog 14 #[ptV p] w fun e w' => e = .returned (.int .i64 (pcheckO p)) ∧ Below w.heap.size w w' := by
  have hm := mayBe_any p (w.alloc (.cells (ptC p).toArray 36))
  have hb1 : Below w.heap.size w (w.alloc (.cells (ptC p).toArray 36)) := (Below.refl _ w).alloc (Nat.le_refl _) _
  have HB := Lib.hid hb1; clear hb1
  rw [pcheckO]
  by_cases h : MayP p
  · rw [if_pos h]
    rw [decide_eq_true h] at hm
    obtain ⟨a, b, c, d, e⟩ := p
    have HM := Lib.hid hm; clear hm
    go_enter Tryd.func14, Tryd.ntmps14
    go_wp2_with (go_at_call 28; refine HM.out.mono ?_; rintro ev w1 ⟨rfl, b1⟩; have HB1 := Lib.hid (HB.out.trans (b1.mono (by simp [ptC]))); clear b1)
    go_ret
    exact ⟨rfl, HB1.out⟩
  · rw [if_neg h]
    rw [decide_eq_false h] at hm
    obtain ⟨a, b, c, d, e⟩ := p
    have HM := Lib.hid hm; clear hm
    go_enter Tryd.func14, Tryd.ntmps14
    go_wp2_with (go_at_call 28; refine HM.out.mono ?_; rintro ev w1 ⟨rfl, b1⟩; have HB1 := Lib.hid (HB.out.trans (b1.mono (by simp [ptC]))); clear b1)
    go_ret
    exact ⟨rfl, HB1.out⟩

theorem Write_any (p : Pt) (hw : WfP p) (w : World) (hz : Szs w) : Calls Tryd.prog 50 #[ptV p] w (OutB (pwriteO p).1 (pwriteO p).2 w) := by
  have hm := mayBe_any p (w.alloc (.cells (ptC p).toArray 36))
  have hb1 : Below w.heap.size w (w.alloc (.cells (ptC p).toArray 36)) := (Below.refl _ w).alloc (Nat.le_refl _) _
  have HB := Lib.hid hb1; clear hb1
  have HZ := Lib.hid hz; clear hz
  have HW := Lib.hid hw; clear hw
  have hk : Blk (w.alloc (.cells (ptC p).toArray 36)) w.heap.size 36 (ptC p).toArray := Blk.new w _ _
  have HK := Lib.hid hk; clear hk
  rw [pwriteO]
  by_cases h : MayP p
  · rw [if_pos h]
    rw [decide_eq_true h] at hm
    have HR := Lib.hid h.room
    clear h
    obtain ⟨a, b, c, d, e⟩ := p
    have HM := Lib.hid hm; clear hm
    go_enter Tryd.func50, Tryd.ntmps50
    go_wp2_with (first
      | (go_at_call 28
         refine HM.out.mono ?_
         rintro ev w1 ⟨rfl, b1⟩
         have HB1 := Lib.hid (HB.out.trans (b1.mono (by simp [ptC])))
         obtain ⟨c0, c1, c2, c3, c4⟩ := (HK.out.below b1 HK.out.lt).five
         have HP := Lib.hid (put_any (a, b, c, d, e) HW.out HR.out w1 (HZ.out.step HB1.out))
         clear b1)
      | (go_at_call 74
         refine HP.out.mono ?_
         rintro ev w2 ⟨v2, rfl, o2, b2⟩
         have HO2 := Lib.hid (own_mono o2 HB1.out.size)
         have HB2 := Lib.hid (HB1.out.trans (b2.mono HB1.out.size))
         clear b2 o2))
    go_ret2
    refine ⟨v2, rfl, ?_, HB2.out⟩
    rw [bytesP_length]
    exact HO2.out
  · rw [if_neg h]
    rw [decide_eq_false h] at hm
    obtain ⟨a, b, c, d, e⟩ := p
    have HM := Lib.hid hm; clear hm
    go_enter Tryd.func50, Tryd.ntmps50
    go_wp2_with (go_at_call 28; refine HM.out.mono ?_; rintro ev w1 ⟨rfl, b1⟩; have HB1 := Lib.hid (HB.out.trans (b1.mono (by simp [ptC]))); clear b1)
    refine bodyPost_ret (v := .tuple #[.slice none 0 0, .int .i64 8]) (by simp [results, Tryd.f50, go_sem]) rfl ?_
    exact outB_no rfl HB1.out

theorem Read_any (a : Option Addr) (len cap : Nat) (s : List UInt8) (w : World) (hB : Bsl w w.heap.size a len cap s) (hz : Szs w) : Calls Tryd.prog 39 #[.slice a len cap] w (OutP (preadO s).1 (preadO s).2 w) := by
  have hl := hB.1
  rw [preadO]
  have hk : Blk (w.alloc (.cells #[.int .i64 0, .int .u32 0, .int .u32 0, .int .u32 0, .int .u32 0] 36)) w.heap.size 36 #[.int .i64 0, .int .u32 0, .int .u32 0, .int .u32 0, .int .u32 0] := Blk.new w _ _
  have hb1 : Below w.heap.size w (w.alloc (.cells #[.int .i64 0, .int .u32 0, .int .u32 0, .int .u32 0, .int .u32 0] 36)) := (Below.refl _ w).alloc (Nat.le_refl _) _
  have HK := Lib.hid hk; clear hk
  have HB1 := Lib.hid hb1; clear hb1
  have i0 : (0 : Int) ≤ (len : Int) := by omega
  have i1 : (len : Int) ≤ 9223372036854775807 := by have h1 := hB.2.1; have h2 := hB.2.2.1; unfold maxLen at h2; omega
  by_cases h16 : s.length = 16
  · rw [if_pos h16]
    obtain rfl : len = 16 := by omega
    have hb2 : Bsl (w.alloc (.cells #[.int .i64 0, .int .u32 0, .int .u32 0, .int .u32 0, .int .u32 0] 36)) (w.alloc (.cells #[.int .i64 0, .int .u32 0, .int .u32 0, .int .u32 0, .int .u32 0] 36)).heap.size a 16 cap s := hB.step HB1.out
    have HG := Lib.hid (get_any a cap s _ hb2 (hz.step HB1.out)); clear hb2
    have hm := fun w => mayBe_any (getP s) w
    obtain ⟨P, hP⟩ : ∃ P, getP s = P := ⟨_, rfl⟩
    rw [hP] at HG hm ⊢
    clear hP hl hz hB h16
    by_cases h : MayP P
    · rw [if_pos h]
      rw [decide_eq_true h] at hm
      clear h
      obtain ⟨a', b', c', d', e'⟩ := P
      have HM := Lib.hid hm; clear hm
      go_enter Tryd.func39, Tryd.ntmps39
      go_wp2_with (first
        | (go_at_call 60
           refine HG.out.mono ?_
           rintro ev w1 ⟨rfl, b1⟩
           have HB2 := Lib.hid (HB1.out.trans (b1.mono (by simp)))
           have HK2 := Lib.hid (HK.out.below b1 HK.out.lt)
           have HB3 := Lib.hid (HB2.out.alloc HB2.out.size (.cells #[.int .i64 a', .int .u32 (b' : Int), .int .u32 (c' : Int), .int .u32 (d' : Int), .int .u32 (e' : Int)] 36))
           have HK3 := Lib.hid (HK2.out.alloc (.cells #[.int .i64 a', .int .u32 (b' : Int), .int .u32 (c' : Int), .int .u32 (d' : Int), .int .u32 (e' : Int)] 36))
           have HP3 := Lib.hid (Blk.new w1 36 #[.int .i64 a', .int .u32 (b' : Int), .int .u32 (c' : Int), .int .u32 (d' : Int), .int .u32 (e' : Int)])
           clear b1)
        | (go_at_call 28
           refine (HM.out _).mono ?_
           rintro ev w2 ⟨rfl, b2⟩
           have HB4 := Lib.hid (HB3.out.trans (b2.mono HB3.out.size))
           have HK4 := Lib.hid (HK3.out.below b2 HK3.out.lt)
           obtain ⟨c0, c1, c2, c3, c4⟩ := (HP3.out.below b2 HP3.out.lt).five
           have d0 : w2.cell? ⟨w.heap.size, 0, none⟩ = some (.int .i64 0) := HK4.out.cell 0
           have d1 : w2.cell? ⟨w.heap.size, 1, none⟩ = some (.int .u32 0) := HK4.out.cell 1
           have d2 : w2.cell? ⟨w.heap.size, 2, none⟩ = some (.int .u32 0) := HK4.out.cell 2
           have d3 : w2.cell? ⟨w.heap.size, 3, none⟩ = some (.int .u32 0) := HK4.out.cell 3
           have d4 : w2.cell? ⟨w.heap.size, 4, none⟩ = some (.int .u32 0) := HK4.out.cell 4
           have fr : ∀ i, w2.frozen? ⟨w.heap.size, i, none⟩ = false := fun i => HK4.out.frozen i
           clear b2))
      obtain ⟨wf, hwf⟩ : ∃ wf, set5 w2 w.heap.size (.int .i64 a') (.int .u32 (b' : Int)) (.int .u32 (c' : Int)) (.int .u32 (d' : Int)) (.int .u32 (e' : Int)) = wf := ⟨_, rfl⟩
      have HXF := Lib.hid (HK4.out.set5 (.int .i64 a') (.int .u32 (b' : Int)) (.int .u32 (c' : Int)) (.int .u32 (d' : Int)) (.int .u32 (e' : Int)))
      have HBF := Lib.hid (below_set5 HB4.out (Nat.le_refl w.heap.size) (.int .i64 a') (.int .u32 (b' : Int)) (.int .u32 (c' : Int)) (.int .u32 (d' : Int)) (.int .u32 (e' : Int)))
      rw [hwf] at HXF HBF
      simp only [set5] at hwf
      rw [hwf]
      clear hwf d0 d1 d2 d3 d4 fr
      have e0 := HXF.out.cell 0
      have e1 := HXF.out.cell 1
      have e2 := HXF.out.cell 2
      have e3 := HXF.out.cell 3
      have e4 := HXF.out.cell 4
      exact bodyPost_ret (v := .tuple #[ptV (a', b', c', d', e'), .int .i64 0]) (by simp [results, Tryd.f39, go_sem, e0, e1, e2, e3, e4]) rfl ⟨rfl, HBF.out⟩
    · rw [if_neg h]
      rw [decide_eq_false h] at hm
      clear h
      obtain ⟨a', b', c', d', e'⟩ := P
      have HM := Lib.hid hm; clear hm
      go_enter Tryd.func39, Tryd.ntmps39
      go_wp2_with (first
        | (go_at_call 60
           refine HG.out.mono ?_
           rintro ev w1 ⟨rfl, b1⟩
           have HB2 := Lib.hid (HB1.out.trans (b1.mono (by simp)))
           have HK2 := Lib.hid (HK.out.below b1 HK.out.lt)
           have HB3 := Lib.hid (HB2.out.alloc HB2.out.size (.cells #[.int .i64 a', .int .u32 (b' : Int), .int .u32 (c' : Int), .int .u32 (d' : Int), .int .u32 (e' : Int)] 36))
           have HK3 := Lib.hid (HK2.out.alloc (.cells #[.int .i64 a', .int .u32 (b' : Int), .int .u32 (c' : Int), .int .u32 (d' : Int), .int .u32 (e' : Int)] 36))
           have HP3 := Lib.hid (Blk.new w1 36 #[.int .i64 a', .int .u32 (b' : Int), .int .u32 (c' : Int), .int .u32 (d' : Int), .int .u32 (e' : Int)])
           clear b1)
        | (go_at_call 28
           refine (HM.out _).mono ?_
           rintro ev w2 ⟨rfl, b2⟩
           have HB4 := Lib.hid (HB3.out.trans (b2.mono HB3.out.size))
           have HK4 := Lib.hid (HK3.out.below b2 HK3.out.lt)
           obtain ⟨c0, c1, c2, c3, c4⟩ := (HP3.out.below b2 HP3.out.lt).five
           have d0 : w2.cell? ⟨w.heap.size, 0, none⟩ = some (.int .i64 0) := HK4.out.cell 0
           have d1 : w2.cell? ⟨w.heap.size, 1, none⟩ = some (.int .u32 0) := HK4.out.cell 1
           have d2 : w2.cell? ⟨w.heap.size, 2, none⟩ = some (.int .u32 0) := HK4.out.cell 2
           have d3 : w2.cell? ⟨w.heap.size, 3, none⟩ = some (.int .u32 0) := HK4.out.cell 3
           have d4 : w2.cell? ⟨w.heap.size, 4, none⟩ = some (.int .u32 0) := HK4.out.cell 4
           have fr : ∀ i, w2.frozen? ⟨w.heap.size, i, none⟩ = false := fun i => HK4.out.frozen i
           clear b2))
      obtain ⟨wf, hwf⟩ : ∃ wf, set5 w2 w.heap.size (.int .i64 0) (.int .u32 0) (.int .u32 0) (.int .u32 0) (.int .u32 0) = wf := ⟨_, rfl⟩
      have HXF := Lib.hid (HK4.out.set5 (.int .i64 0) (.int .u32 0) (.int .u32 0) (.int .u32 0) (.int .u32 0))
      have HBF := Lib.hid (below_set5 HB4.out (Nat.le_refl w.heap.size) (.int .i64 0) (.int .u32 0) (.int .u32 0) (.int .u32 0) (.int .u32 0))
      rw [hwf] at HXF HBF
      simp only [set5] at hwf
      rw [hwf]
      clear hwf d0 d1 d2 d3 d4 fr
      have e0 := HXF.out.cell 0
      have e1 := HXF.out.cell 1
      have e2 := HXF.out.cell 2
      have e3 := HXF.out.cell 3
      have e4 := HXF.out.cell 4
      exact bodyPost_ret (v := .tuple #[ptV p0, .int .i64 8]) (by simp [results, Tryd.f39, go_sem, e0, e1, e2, e3, e4]) rfl ⟨rfl, HBF.out⟩
  · rw [if_neg h16]
    have hne : ¬ (len : Int) = 16 := by omega
    have d0 : (w.alloc (.cells #[.int .i64 0, .int .u32 0, .int .u32 0, .int .u32 0, .int .u32 0] 36)).cell? ⟨w.heap.size, 0, none⟩ = some (.int .i64 0) := HK.out.cell 0
    have d1 : (w.alloc (.cells #[.int .i64 0, .int .u32 0, .int .u32 0, .int .u32 0, .int .u32 0] 36)).cell? ⟨w.heap.size, 1, none⟩ = some (.int .u32 0) := HK.out.cell 1
    have d2 : (w.alloc (.cells #[.int .i64 0, .int .u32 0, .int .u32 0, .int .u32 0, .int .u32 0] 36)).cell? ⟨w.heap.size, 2, none⟩ = some (.int .u32 0) := HK.out.cell 2
    have d3 : (w.alloc (.cells #[.int .i64 0, .int .u32 0, .int .u32 0, .int .u32 0, .int .u32 0] 36)).cell? ⟨w.heap.size, 3, none⟩ = some (.int .u32 0) := HK.out.cell 3
    have d4 : (w.alloc (.cells #[.int .i64 0, .int .u32 0, .int .u32 0, .int .u32 0, .int .u32 0] 36)).cell? ⟨w.heap.size, 4, none⟩ = some (.int .u32 0) := HK.out.cell 4
    have fr : ∀ i, (w.alloc (.cells #[.int .i64 0, .int .u32 0, .int .u32 0, .int .u32 0, .int .u32 0] 36)).frozen? ⟨w.heap.size, i, none⟩ = false := fun i => HK.out.frozen i
    go_enter Tryd.func39, Tryd.ntmps39
    go_wp2_with fail
    exact bodyPost_ret (v := .tuple #[ptV p0, .int .i64 3]) (by simp [results, Tryd.f39, go_sem, d0, d1, d2, d3, d4]) rfl ⟨rfl, HB1.out⟩
end Go.Proofs.YtldnelimemjaiaaDoor
/-
  label.Slot, isUpTo, isRoot, mayBe, bytesOf and numberAt, whatever they are handed; nothing that was there is written.
-/
namespace Go.Proofs.YtldnelimemjaiaaDoor
open Go.RowKit Go.Shelf
set_option maxRecDepth 100000

theorem lSlot_any (g : Nat) (_hg : g < 4294967296) (w : World) : Calls Tryd.prog 12 #[.int .u32 (g : Int)] w fun e w' => e = .returned (.int .i64 ((g % 4 : Nat) : Int)) ∧ w = w' := by
  have i0 : (0 : Int) ≤ (g : Int) := by omega
  have i1 : (g : Int) ≤ 4294967295 := by omega
  have e1 : ((g % 4 : Nat) : Int) = (g : Int) % 4 := by omega
  rw [e1]
  have i2 : (0 : Int) ≤ (g : Int) % 4 := by omega
  have i3 : (g : Int) % 4 ≤ 3 := by omega
  go_enter Tryd.func12, Tryd.ntmps12
  go_wp2_with fail
  go_ret
  exact ⟨rfl, rfl⟩
theorem lUpTo_any (n m : Nat) (w : World) : Calls Tryd.prog 48 #[.int .u32 (n : Int), .int .u32 (m : Int)] w fun e w' => e = .returned (.bool (decide (1 ≤ n ∧ n ≤ m))) ∧ w = w' := by
  by_cases h : 1 ≤ n
  · have i1 : (1 : Int) ≤ (n : Int) := by omega
    by_cases h2 : n ≤ m
    · rw [decide_eq_true (And.intro h h2)]
      have i2 : (n : Int) ≤ (m : Int) := by omega
      go_enter Tryd.func48, Tryd.ntmps48
      go_wp2_with fail
      go_ret
      exact ⟨rfl, rfl⟩
    · rw [decide_eq_false (fun hh : 1 ≤ n ∧ n ≤ m => h2 hh.2)]
      have i2 : ¬ (n : Int) ≤ (m : Int) := by omega
      go_enter Tryd.func48, Tryd.ntmps48
      go_wp2_with fail
      go_ret
      exact ⟨rfl, rfl⟩
  · rw [decide_eq_false (fun hh : 1 ≤ n ∧ n ≤ m => h hh.1)]
    have i1 : ¬ (1 : Int) ≤ (n : Int) := by omega
    go_enter Tryd.func48, Tryd.ntmps48
    go_wp2_with fail
    go_ret
    exact ⟨rfl, rfl⟩
/-- May a root be? -/
def rootB (p : Pt) : Bool := decide (p ≠ p0 ∧ MayP p)
theorem lRoot_any (p : Pt) (w : World) : Calls Tryd.prog 49 #[ptV p] w fun e w' => e = .returned (.bool (rootB p)) ∧ Below w.heap.size w w' := by
  have hm := Check_any p (w.alloc (.cells (ptC p).toArray 36))
  have hb1 : Below w.heap.size w (w.alloc (.cells (ptC p).toArray 36)) := (Below.refl _ w).alloc (Nat.le_refl _) _
  have HB := Lib.hid hb1; clear hb1
  obtain ⟨a, b, c, d, e⟩ := p
  have heq := eqPt_zero a b c d e
  by_cases h0 : eqP (a, b, c, d, e) p0 = true
  · have hr : rootB (a, b, c, d, e) = false := decide_eq_false fun hh => hh.1 ((eqP_iff _ _).1 h0)
    rw [hr]
    rw [h0] at heq
    clear hm h0 hr
    go_enter Tryd.func49, Tryd.ntmps49
    go_wp2_with fail
    go_ret
    exact ⟨rfl, HB.out⟩
  · have h0' : eqP (a, b, c, d, e) p0 = false := by simpa using h0
    rw [h0'] at heq
    have hne : (a, b, c, d, e) ≠ p0 := fun hh => h0 ((eqP_iff _ _).2 hh)
    rw [pcheckO] at hm
    by_cases h1 : MayP (a, b, c, d, e)
    · have hr : rootB (a, b, c, d, e) = true := decide_eq_true ⟨hne, h1⟩
      rw [hr]
      rw [if_pos h1] at hm
      have HM := Lib.hid hm
      clear hm h0 h0' hr hne h1
      go_enter Tryd.func49, Tryd.ntmps49
      go_wp2_with (go_at_call 14; refine HM.out.mono ?_; rintro ev w1 ⟨rfl, b1⟩; have HB1 := Lib.hid (HB.out.trans (b1.mono (by simp [ptC]))); clear b1)
      go_ret
      exact ⟨rfl, HB1.out⟩
    · have hr : rootB (a, b, c, d, e) = false := decide_eq_false fun hh => h1 hh.2
      rw [hr]
      rw [if_neg h1] at hm
      have HM := Lib.hid hm
      clear hm h0 h0' hr hne h1
      go_enter Tryd.func49, Tryd.ntmps49
      go_wp2_with (go_at_call 14; refine HM.out.mono ?_; rintro ev w1 ⟨rfl, b1⟩; have HB1 := Lib.hid (HB.out.trans (b1.mono (by simp [ptC]))); clear b1)
      go_ret
      exact ⟨rfl, HB1.out⟩
theorem mayL_parts (l : Lb) : decide (MayL l) = (decide (1 ≤ l.1 ∧ l.1 ≤ 16777215) && (decide (1 ≤ l.2.1 ∧ l.2.1 ≤ 65535) && rootB l.2.2)) := by
  rw [Bool.eq_iff_iff]
  simp only [rootB, Bool.and_eq_true, decide_eq_true_eq]
  exact Iff.rfl
theorem lMay_any (l : Lb) (w : World) : Calls Tryd.prog 26 #[lbV l] w fun e w' => e = .returned (.bool (decide (MayL l))) ∧ Below w.heap.size w w' := by
  obtain ⟨w0, hw0⟩ : ∃ w0, w.alloc (.cells (lbC l).toArray 38) = w0 := ⟨_, rfl⟩
  have hb1 : Below w.heap.size w w0 := by rw [← hw0]; exact (Below.refl _ w).alloc (Nat.le_refl _) _
  have hk : Blk w0 w.heap.size 38 (lbC l).toArray := by rw [← hw0]; exact Blk.new w _ _
  have HB := Lib.hid hb1; clear hb1
  rw [mayL_parts]
  have h1 := lUpTo_any l.1 16777215
  have h2 := lUpTo_any l.2.1 65535
  have h3 := lRoot_any l.2.2 w0
  obtain ⟨r1, hr1⟩ : ∃ r, decide (1 ≤ l.1 ∧ l.1 ≤ 16777215) = r := ⟨_, rfl⟩
  obtain ⟨r2, hr2⟩ : ∃ r, decide (1 ≤ l.2.1 ∧ l.2.1 ≤ 65535) = r := ⟨_, rfl⟩
  obtain ⟨r3, hr3⟩ : ∃ r, rootB l.2.2 = r := ⟨_, rfl⟩
  rw [hr1] at h1 ⊢
  rw [hr2] at h2 ⊢
  rw [hr3] at h3 ⊢
  clear hr1 hr2 hr3
  obtain ⟨g, e, a, b, c, d, f⟩ := l
  obtain ⟨c0, c1, c2, c3, c4, c5, c6⟩ := hk.seven
  simp only [lbC] at hw0
  clear hk
  have H1 := Lib.hid h1
  have H2 := Lib.hid h2
  have H3 := Lib.hid h3
  clear h1 h2 h3
  cases r1 with
  | false =>
    go_enter Tryd.func26, Tryd.ntmps26
    go_wp2_with (go_at_call 48; refine (H1.out _).mono ?_; rintro ev w1 ⟨rfl, rfl⟩)
    go_ret
    exact ⟨rfl, HB.out⟩
  | true =>
    cases r2 with
    | false =>
      go_enter Tryd.func26, Tryd.ntmps26
      go_wp2_with (first
        | (go_at_call 48; refine (H1.out _).mono ?_; rintro ev w1 ⟨rfl, rfl⟩; clear H1)
        | (go_at_call 48; refine (H2.out _).mono ?_; rintro ev w1 ⟨rfl, rfl⟩))
      go_ret
      exact ⟨rfl, HB.out⟩
    | true =>
      go_enter Tryd.func26, Tryd.ntmps26
      go_wp2_with (first
        | (go_at_call 48; refine (H1.out _).mono ?_; rintro ev w1 ⟨rfl, rfl⟩; clear H1)
        | (go_at_call 48; refine (H2.out _).mono ?_; rintro ev w1 ⟨rfl, rfl⟩; clear H2)
        | (go_at_call 49; refine H3.out.mono ?_; rintro ev w1 ⟨rfl, b1⟩; have HB1 := Lib.hid (HB.out.trans (b1.mono HB.out.size)); clear b1))
      go_ret
      exact ⟨by simp, HB1.out⟩
theorem lBytes_any (n : Nat) (hn : n < 4294967296) (w : World) : Calls Tryd.prog 52 #[.int .u32 (n : Int)] w fun e w' => ∃ g, e = .returned (.slice (some ⟨g, 0, none⟩) 4 4) ∧ w.heap.size ≤ g ∧ Bsl w' w'.heap.size (some ⟨g, 0, none⟩) 4 4 (leB 4 n) ∧ Below w.heap.size w w' := by
  have hp := put_ok n 4 (by omega) (by omega) (by omega) w
  have i0 : (0 : Int) ≤ (n : Int) := by omega
  have i1 : (n : Int) ≤ 4294967295 := by omega
  have HP := Lib.hid hp
  clear hp
  go_enter Tryd.func52, Tryd.ntmps52
  go_wp2_with (go_at_call 76; refine HP.out.mono ?_; rintro ev w1 ⟨rfl, h1, b1, z1⟩; have HH := Lib.hid h1; have HB := Lib.hid b1; have HZ := Lib.hid z1; clear h1 b1 z1)
  go_ret
  exact ⟨w.heap.size + 1, rfl, by omega, bsl_of_holds (leB_length 4 n) (Nat.le_refl _) (by unfold maxLen; omega) HZ.out HH.out, HB.out⟩
theorem lNum_any {w : World} {a : Option Addr} {len cap : Nat} {s : List UInt8} (h : Bsl w w.heap.size a len cap s) (i : Nat) (hi : i + 4 ≤ len) :
    Calls Tryd.prog 40 #[.slice a len cap, .int .i64 (i : Int)] w fun e w' => e = .returned (.int .u32 ((leN ((s.drop i).take 4) : Nat) : Int)) ∧ Below w.heap.size w w' := by
  have hg := get_bsl h i 4 (by omega) (by omega) hi
  have hl := leN_le s i 4
  obtain ⟨n, hn⟩ : ∃ n, leN ((s.drop i).take 4) = n := ⟨_, rfl⟩
  rw [hn] at hg hl ⊢
  have i0 : (0 : Int) ≤ (n : Int) := by omega
  have i1 : (n : Int) ≤ 4294967295 := by omega
  have HG := Lib.hid hg
  clear hg h hn hl
  go_enter Tryd.func40, Tryd.ntmps40
  go_wp2_with (go_at_call 61; refine HG.out.mono ?_; rintro ev w1 ⟨rfl, b1⟩; have HB := Lib.hid b1; clear b1)
  go_ret
  exact ⟨rfl, HB.out⟩
end Go.Proofs.YtldnelimemjaiaaDoor
/-
  copy of bytes over a part of a row that is known whole, into a slice that may be longer than what is copied; parts of slices.
-/
namespace Go.Proofs.YtldnelimemjaiaaDoor
open Go.RowKit Go.Shelf
set_option maxRecDepth 100000

theorem copyAt {P : Program} {ops : Array Oper} {Q : Exit → Act → World → Prop} {a : Act} {w : World} {rest : List Oper} {d : Option Tmp} {ty : TypeId} {x : Array Operand} {y : Array TypeId} {pos : String} {af : Array Edge} (h : wpList P ops Q (⟨d, .call { callee := .builtin .copy, args := x, argTypes := y }, ty, pos, af, none⟩ :: rest) a w) : wpList P ops Q (⟨d, .call { callee := .builtin .copy, args := x, argTypes := y }, ty, pos, af, none⟩ :: rest) a w := h
theorem infoB1 : (Tryd.prog.info? 5).map (·.size) = some 1 := by kernel_rfl
/-- s laid over t from o on. -/
def ovrL (t : List UInt8) (o : Nat) (s : List UInt8) : List UInt8 := t.take o ++ (s ++ t.drop (o + s.length))
theorem ovrL_length {t : List UInt8} {o : Nat} {s : List UInt8} (h : o + s.length ≤ t.length) : (ovrL t o s).length = t.length := by simp [ovrL]; omega
/-- copy(dst, src), where what is copied fits. -/
theorem wpList_copy_part {w : World} {ops : Array Oper} {rest : List Oper} {o : Oper} {a : Act} {Q : Exit → Act → World → Prop} (hgd : o.guard = none) (d s : Operand)
    (ho : o.op = .call { callee := .builtin .copy, args := #[d, s], argTypes := #[44, 44] })
    (g off m n cap : Nat) (hd : a.eval d = .slice (some ⟨g, off, none⟩) m cap) (t : List UInt8) (hg : Blk w g 5 (ar t))
    (B : Nat) (A : Option Addr) (c : Nat) (news : List UInt8) (hs : a.eval s = .slice A n c) (hb : Bsl w B A n c news) (hn : 0 < n) (hnm : n ≤ m) (hfit : off + n ≤ t.length)
    (h : ∀ w', Blk w' g 5 (ar (ovrL t off news)) → w.grownBy w' (some g) → w'.heap.size = w.heap.size → wpList Tryd.prog ops Q rest (a.put o.dst (.int .i64 n)) w') : wpList Tryd.prog ops Q (o :: rest) a w := by
  obtain ⟨h1, h2, h3, h4, h5⟩ := hb
  obtain ⟨b, of, rfl, _, hc⟩ := h5 hn
  have hl : (vals news).length = n := by simp [vals, h1]
  refine wpList_copy_own hgd d s 44 44 ho 5 Tryd.underlying44 infoB1 g off m cap ⟨b, of, none⟩ n c hd hs (ar t) 5 hg (vals news) (by rw [hl]; exact (Nat.min_eq_left hnm).symm) (fun j v hv => ?_) (by rw [hl, ar_size]; exact hfit) (fun v hv => ?_) ?_
  · obtain ⟨hj, rfl⟩ := vals_get hv
    have : (⟨b, of, none⟩ : Addr).add j = ⟨b, of + j, none⟩ := by unfold Addr.add; split <;> simp_all
    rw [this]
    exact hc j hj
  · obtain ⟨y, _, rfl⟩ := List.mem_map.1 hv
    rfl
  · have e : ((ar t).toList.take off ++ (vals news ++ (ar t).toList.drop (off + (vals news).length))).toArray = ar (ovrL t off news) := by
      rw [hl]
      simp [ar, ovrL, vals, h1]
    rw [e]
    have hx : (goInt (vals news).length) = .int .i64 n := by rw [hl]; rfl
    rw [hx]
    exact h _ (Blk.setRow hg) ⟨rfl, rfl, rfl, by simp [World.setRow], fun i hi hne => setRow_other w g i _ (fun e => hne (by rw [e]))⟩ (by simp [World.setRow])
/-- s[l:], where it is not empty. -/
theorem slice_from_l (W : World) (g off len cap l : Nat) (hl : l < len) (hc : len ≤ cap) : (Instr.slice 44 (.slice (some ⟨g, off, none⟩) len cap) (some (.int .i64 (l : Int))) none none).run Tryd.prog W = .ok (.slice (some ⟨g, off + l, none⟩) (len - l) (cap - l)) W := by
  rw [run_slice_l W 44 _ _ _ (by kernel_rfl) .i64 _ (by omega) (by omega)]
  have hz : (Go.sizeOf (Tryd.prog.elem 44)).run Tryd.prog W = .ok 1 W := by kernel_rfl
  rw [hz]
  simp [Result.andThen, sliced, Addr.add]
  rw [if_neg (by omega)]
  by_cases h0 : l = 0
  · subst h0; simp
  · rw [if_neg h0]
/-- make([]byte, n). -/
theorem mkBytes (n : Nat) (hn : n ≤ 1000000000000) (W : World) : (Instr.makeSlice 44 (.int .i64 n) (.int .i64 n)).run Tryd.prog W = .ok (.slice (some ⟨W.heap.size, 0, none⟩) n n) (W.alloc (.cells (ar (List.replicate n 0)) 5)) := by
  obtain ⟨i0, hi, hz0, hz1, hz2⟩ := info_parts infoU8
  have hr := run_make (P := Tryd.prog) W 44 5 i0 (.int .u8 0) Tryd.underlying44 hi hz0 .i64 .i64 n n (by omega) (Int.le_refl _) (by rw [hz2]; omega) (by omega)
  rw [hz1] at hr
  simp only [Int.toNat_natCast] at hr
  have e : madeCells (Value.int .u8 0).cells (n * 1) = ar (List.replicate n 0) := by
    apply Array.ext
    · simp [size_madeCells, ar, vals]
    · intro i h1 h2
      simp [madeCells, Value.cells, Nat.mod_one, ar, vals]
  rw [e] at hr
  exact hr
end Go.Proofs.YtldnelimemjaiaaDoor
/-
  copy of bytes into a row that is known whole, as one operation of a region that draws its order.
-/
namespace Go.Proofs.YtldnelimemjaiaaDoor
open Go.RowKit Go.Shelf
set_option maxRecDepth 100000

theorem wpI_copy_part {w : World} {ops : Array Oper} {o : Oper} {a : Act} {K : Act → World → Prop} {Q : Exit → Act → World → Prop} {E : Prop} (hgd : o.guard = none) (d s : Operand)
    (ho : o.op = .call { callee := .builtin .copy, args := #[d, s], argTypes := #[44, 44] })
    (g off m n cap : Nat) (hd : a.eval d = .slice (some ⟨g, off, none⟩) m cap) (t : List UInt8) (hg : Blk w g 5 (ar t))
    (B : Nat) (A : Option Addr) (c : Nat) (news : List UInt8) (hs : a.eval s = .slice A n c) (hb : Bsl w B A n c news) (hn : 0 < n) (hnm : n ≤ m) (hfit : off + n ≤ t.length)
    (h : ∀ w', Blk w' g 5 (ar (ovrL t off news)) → w.grownBy w' (some g) → w'.heap.size = w.heap.size → K (a.put o.dst (.int .i64 n)) w') : if Region.wanted o (yielded ops a.tmps) = true then Oper.wp Tryd.prog o a w K Q else E := by
  rw [if_pos (by simp [Region.wanted, hgd])]
  obtain ⟨h1, h2, h3, h4, h5⟩ := hb
  obtain ⟨b, of, rfl, _, hc⟩ := h5 hn
  have hl : (vals news).length = n := by simp [vals, h1]
  have hrun := run_copy_row (P := Tryd.prog) w 44 44 o.type 5 g off m cap ⟨b, of, none⟩ n c (ar t) 5 (vals news) Tryd.underlying44 infoB1 hg (by rw [hl]; exact (Nat.min_eq_left hnm).symm) (fun j v hv => by
    obtain ⟨hj, rfl⟩ := vals_get hv
    have : (⟨b, of, none⟩ : Addr).add j = ⟨b, of + j, none⟩ := by unfold Addr.add; split <;> simp_all
    rw [this]
    exact hc j hj) (by rw [hl, ar_size]; exact hfit) (fun v hv => by
    obtain ⟨y, _, rfl⟩ := List.mem_map.1 hv
    rfl)
  have e : ((ar t).toList.take off ++ vals news ++ (ar t).toList.drop (off + (vals news).length)).toArray = ar (ovrL t off news) := by
    rw [hl]
    simp [ar, ovrL, vals, h1]
  have hx : (goInt (vals news).length) = .int .i64 n := by rw [hl]; rfl
  rw [e, hx] at hrun
  unfold Oper.wp
  simp [execOp, ho, resolve, invoke, builtin, hd, hs, hrun, Result.andThen]
  exact (h _ (Blk.setRow hg) ⟨rfl, rfl, rfl, by simp [World.setRow], fun i hi hne => setRow_other w g i _ (fun e => hne (by rw [e]))⟩ (by simp [World.setRow]))
end Go.Proofs.YtldnelimemjaiaaDoor
/-
  mix.Turn and mix.Back, whatever four words they are handed, answer these words turned, there and back; nothing that was there is written.
-/
namespace Go.Proofs.YtldnelimemjaiaaDoor
open Go.RowKit Go.Shelf
set_option maxRecDepth 100000

theorem add32 (x y : BitVec 32) : ((x.toNat : Int) + (y.toNat : Int)) % 4294967296 = ((pl x y).toNat : Int) := by
  unfold pl
  rw [BitVec.toNat_add]
  show ((x.toNat : Int) + (y.toNat : Int)) % ((4294967296 : Nat) : Int) = _
  rw [Int.natCast_emod]
  rfl
theorem sub32 (x y : BitVec 32) : ((x.toNat : Int) - (y.toNat : Int)) % 4294967296 = ((mi x y).toNat : Int) := by
  unfold mi
  rw [BitVec.toNat_sub]
  have := x.isLt; have := y.isLt
  omega
theorem xor32 (x y : BitVec 32) : bits .xor .u32 (x.toNat : Int) (y.toNat : Int) = ((xo x y).toNat : Int) := by
  rw [u32_xor_nat _ _ x.isLt y.isLt]
  rfl
/-- What RotateLeft32 makes of its two shifts. -/
theorem rot32 (x : BitVec 32) (k l : Nat) (hk : 0 < k) (hl : l + k = 32) (hl0 : 0 < l) (m n : Int) (hm : m = (x.toNat : Int) * ((2 ^ k : Nat) : Int) % 4294967296) (hn : n = (x.toNat : Int) / ((2 ^ l : Nat) : Int)) : bits .or .u32 m n = ((ro k x).toNat : Int) := by
  have e1 : m = ((x.toNat * 2 ^ k % 4294967296 : Nat) : Int) := by rw [hm, Int.natCast_emod, Int.natCast_mul]; rfl
  have e2 : n = ((x.toNat / 2 ^ l : Nat) : Int) := by rw [hn, Int.natCast_ediv]
  have hx := x.isLt
  rw [e1, e2, u32_or_nat _ _ (Nat.mod_lt _ (by omega)) (Nat.lt_of_le_of_lt (Nat.div_le_self _ _) hx)]
  unfold ro
  rw [BitVec.rotateLeft_def, BitVec.toNat_or, BitVec.toNat_shiftLeft, BitVec.toNat_ushiftRight, Nat.mod_eq_of_lt (show k < 32 by omega), Nat.shiftLeft_eq, Nat.shiftRight_eq_div_pow, show 32 - k = l by omega]

theorem ret_int {k : IntKind} {a b : Int} (h : a = b) : Ending.returned (.int k a) = .returned (.int k b) := by rw [h]
theorem rot_any (x : BitVec 32) (z : Int) (k : Nat) (hk : (z = 15 ∧ k = 15) ∨ (z = 11 ∧ k = 11) ∨ (z = 9 ∧ k = 9) ∨ (z = 6 ∧ k = 6) ∨ (z = -15 ∧ k = 17) ∨ (z = -11 ∧ k = 21) ∨ (z = -9 ∧ k = 23) ∨ (z = -6 ∧ k = 26)) (w : World) :
    Calls Tryd.prog 101 #[.int .u32 (x.toNat : Int), .int .i64 z] w fun e w' => e = .returned (.int .u32 ((ro k x).toNat : Int)) ∧ w = w' := by
  have hx0 : (0 : Int) ≤ (x.toNat : Int) := by omega
  have hx1 : (x.toNat : Int) ≤ 4294967295 := by have := x.isLt; omega
  rcases hk with ⟨rfl, rfl⟩ | ⟨rfl, rfl⟩ | ⟨rfl, rfl⟩ | ⟨rfl, rfl⟩ | ⟨rfl, rfl⟩ | ⟨rfl, rfl⟩ | ⟨rfl, rfl⟩ | ⟨rfl, rfl⟩
  · have e1 : bits BinOp.and IntKind.u64 15 31 = 15 := by decide
    have e2 := rot32 x 15 17 (by omega) (by omega) (by omega) ((x.toNat : Int) * 32768 % 4294967296) ((x.toNat : Int) / 131072) (by simp) (by simp)
    go_enter Tryd.func101, Tryd.ntmps101
    go_wp2
    go_ret
    exact ⟨rfl, rfl⟩
  · have e1 : bits BinOp.and IntKind.u64 11 31 = 11 := by decide
    have e2 := rot32 x 11 21 (by omega) (by omega) (by omega) ((x.toNat : Int) * 2048 % 4294967296) ((x.toNat : Int) / 2097152) (by simp) (by simp)
    go_enter Tryd.func101, Tryd.ntmps101
    go_wp2
    go_ret
    exact ⟨rfl, rfl⟩
  · have e1 : bits BinOp.and IntKind.u64 9 31 = 9 := by decide
    have e2 := rot32 x 9 23 (by omega) (by omega) (by omega) ((x.toNat : Int) * 512 % 4294967296) ((x.toNat : Int) / 8388608) (by simp) (by simp)
    go_enter Tryd.func101, Tryd.ntmps101
    go_wp2
    go_ret
    exact ⟨rfl, rfl⟩
  · have e1 : bits BinOp.and IntKind.u64 6 31 = 6 := by decide
    have e2 := rot32 x 6 26 (by omega) (by omega) (by omega) ((x.toNat : Int) * 64 % 4294967296) ((x.toNat : Int) / 67108864) (by simp) (by simp)
    go_enter Tryd.func101, Tryd.ntmps101
    go_wp2
    go_ret
    exact ⟨rfl, rfl⟩
  · have e1 : bits BinOp.and IntKind.u64 (IntKind.u64.wrap (-15)) 31 = 17 := by decide
    have e2 := rot32 x 17 15 (by omega) (by omega) (by omega) ((x.toNat : Int) * 131072 % 4294967296) ((x.toNat : Int) / 32768) (by simp) (by simp)
    go_enter Tryd.func101, Tryd.ntmps101
    go_wp2
    go_ret
    exact ⟨rfl, rfl⟩
  · have e1 : bits BinOp.and IntKind.u64 (IntKind.u64.wrap (-11)) 31 = 21 := by decide
    have e2 := rot32 x 21 11 (by omega) (by omega) (by omega) ((x.toNat : Int) * 2097152 % 4294967296) ((x.toNat : Int) / 2048) (by simp) (by simp)
    go_enter Tryd.func101, Tryd.ntmps101
    go_wp2
    go_ret
    exact ⟨rfl, rfl⟩
  · have e1 : bits BinOp.and IntKind.u64 (IntKind.u64.wrap (-9)) 31 = 23 := by decide
    have e2 := rot32 x 23 9 (by omega) (by omega) (by omega) ((x.toNat : Int) * 8388608 % 4294967296) ((x.toNat : Int) / 512) (by simp) (by simp)
    go_enter Tryd.func101, Tryd.ntmps101
    go_wp2
    go_ret
    exact ⟨rfl, rfl⟩
  · have e1 : bits BinOp.and IntKind.u64 (IntKind.u64.wrap (-6)) 31 = 26 := by decide
    have e2 := rot32 x 26 6 (by omega) (by omega) (by omega) ((x.toNat : Int) * 67108864 % 4294967296) ((x.toNat : Int) / 64) (by simp) (by simp)
    go_enter Tryd.func101, Tryd.ntmps101
    go_wp2
    go_ret
    exact ⟨rfl, rfl⟩

/-- Four words as a value. -/
@[reducible] def ag (x : W4) : Value := .agg #[.int .u32 (x.a.toNat : Int), .int .u32 (x.b.toNat : Int), .int .u32 (x.c.toNat : Int), .int .u32 (x.d.toNat : Int)]

set_option maxHeartbeats 1000000 in
theorem turn_any (x : W4) (w : World) : Calls Tryd.prog 99 #[ag x] w fun e w' => e = .returned (ag (turnW x)) ∧ Below w.heap.size w w' := by
  have r1 := add32
  have r2 := xor32
  obtain ⟨a, b, c, d⟩ := x
  go_enter Tryd.func99, Tryd.ntmps99
  go_wp2_with (go_at_call 100; go_in)
  refine (rot_any _ 15 15 (by simp) _).mono ?_
  rintro e w' ⟨rfl, rfl⟩
  go_wp2_with (go_at_call 100; go_in)
  refine (rot_any _ 11 11 (by simp) _).mono ?_
  rintro e w' ⟨rfl, rfl⟩
  go_wp2_with fail
  go_end0
  go_wp2_with (go_at_call 100; go_in)
  refine (rot_any _ 9 9 (by simp) _).mono ?_
  rintro e w' ⟨rfl, rfl⟩
  go_wp2_with fail
  refine (rot_any _ 6 6 (by simp) _).mono ?_
  rintro e w' ⟨rfl, rfl⟩
  go_wp2_with fail
  go_end0
  go_wp2_with fail
  exact bodyPost_ret (v := ag (turnW ⟨a, b, c, d⟩)) (by simp [results, Tryd.results99, go_sem, turnW, halfT]) rfl ⟨rfl, ((Below.refl _ w).alloc (Nat.le_refl _) _).alloc (by simp) _⟩

/-- The cells of four words. -/
@[reducible] def cl (x : W4) : Array Value := #[.int .u32 (x.a.toNat : Int), .int .u32 (x.b.toNat : Int), .int .u32 (x.c.toNat : Int), .int .u32 (x.d.toNat : Int)]
end Go.Proofs.YtldnelimemjaiaaDoor
