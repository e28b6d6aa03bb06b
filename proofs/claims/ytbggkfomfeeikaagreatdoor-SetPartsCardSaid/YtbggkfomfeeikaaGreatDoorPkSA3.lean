/-
  Texts of one seat, one behind the other.
-/
import Derived.OwnWalk
import Derived.Laws.Cover3
import Derived.ChangeKeysEq
import Derived.Lib.AppendZeros
import Derived.Test.YtbggkfomfeeikaaGreatDoorPkSA2
/-
  append of pointers to a row of the call's own.
-/
namespace Go.Proofs.YtbggkfomfeeikaaGreatDoor
open Go.RowKit Go.Shelf
set_option maxRecDepth 100000

theorem ptCs_mem {L : List Pt} {u : Value} (h : u ∈ ptCs L) : u.oneCell' = true := by
  obtain ⟨p, _, hu⟩ := List.mem_flatMap.1 h
  simp only [ptC, List.mem_cons, List.not_mem_nil, or_false] at hu
  rcases hu with rfl | rfl | rfl | rfl | rfl <;> rfl
/-- The cells of a slice of pointers. -/
theorem Pts.row {w : World} {B b off len cap : Nat} {L : List Pt} (h : Pts w B (some ⟨b, off, none⟩) len cap L) (j : Nat) (u : Value) (hu : (ptCs L)[j]? = some u) : w.cell? ⟨b, off + j, none⟩ = some u := by
  have hj : j < L.length * 5 := by
    rcases Nat.lt_or_ge j (ptCs L).length with hj | hj
    · rw [ptCs_length] at hj; exact hj
    · rw [List.getElem?_eq_none hj] at hu; cases hu
  have hi : j / 5 < L.length := by omega
  obtain ⟨b', off', e, _, hc⟩ := h.2.2.2.2 (by rw [← h.1]; omega)
  cases e
  have hlen : (ptC L[j / 5]).length = 5 := rfl
  have hr : j % 5 < (ptC L[j / 5]).length := by rw [hlen]; omega
  have hg := ptCs_get L (j / 5) hi (j % 5) _ (List.getElem?_eq_getElem hr)
  have ej : j / 5 * 5 + j % 5 = j := by omega
  rw [ej, hu] at hg
  have := (hc (j / 5) hi).2 (j % 5) _ (List.getElem?_eq_getElem hr)
  rw [Nat.add_assoc, ej] at this
  rw [this, hg]
section
variable {w : World} {o : Oper} {a : Act} {K : Act → World → Prop} {Q : Exit → Act → World → Prop} {ops : Array Oper} {rest : List Oper}
theorem wp_append_prow (x y : Operand) (ho : o.op = .call { callee := .builtin .append, args := #[x, y], argTypes := #[35, 35] })
    (base : Nat) (v : Value) (L : List Pt) (hx : a.eval x = v) (hr : PRow w base v L) (B : Nat) (A : Option Addr) (m c : Nat) (M : List Pt) (hy : a.eval y = .slice A m c) (hs : Pts w B A m c M)
    (hn : L.length + m ≤ 1000000) (hbase : base ≤ w.heap.size)
    (h : ∀ v' w', PRow w' base v' (L ++ M) → w.grownBy w' v.ownBlock → K (a.put o.dst v') w') : o.wp Tryz.prog a w K Q := by
  obtain ⟨i0, hi0, hz0, hz1, hz2⟩ := info_parts infoPt
  obtain ⟨h1, h2⟩ := hr
  have hwf : ∀ p ∈ L ++ M, WfP p := fun p hp => by
    rcases List.mem_append.1 hp with hp | hp
    · exact h2 p hp
    · exact hs.wf hp
  have hml := hs.1
  cases A with
  | none =>
    have hc := hs.2.2.2.1 rfl
    have hm : m = 0 := by have := hs.2.1; omega
    subst hm; subst hc
    obtain rfl : M = [] := List.eq_nil_of_length_eq_zero hml
    have hrun := run_app_none (P := Tryz.prog) (w := w) base 35 o.type 32 i0 5 0 Tryz.underlying35 hi0 v L.length (ptCs L) h1
    unfold Oper.wp
    simp [execOp, ho, resolve, invoke, builtin, hx, hy, hrun, Result.andThen]
    refine h v w ?_ (World.grownBy.refl w _)
    rw [List.append_nil]
    exact ⟨h1, h2⟩
  | some ad =>
    refine wp_append_own w x y 35 ho base 32 i0 (.agg #[.int .i64 0, .int .u32 0, .int .u32 0, .int .u32 0, .int .u32 0]) 5 24 Tryz.underlying35 hi0 hz0 hz1 hz2 rfl (by decide) v L.length (ptCs L) hx h1 ad m c (ptCs M) hy (by rw [ptCs_length, hml]) (fun j u hu => ?_) (fun u hu => ptCs_mem hu) (by unfold maxLen; omega) (by omega) hbase fun v' w' h6 h7 _ => ?_
    · have hj : 0 < m := by
        rcases Nat.eq_zero_or_pos m with h0 | h0
        · obtain rfl : M = [] := List.eq_nil_of_length_eq_zero (by omega)
          simp [ptCs] at hu
        · exact h0
      obtain ⟨b, off, e, _, _⟩ := hs.2.2.2.2 hj
      cases e
      have e1 : (⟨b, off, none⟩ : Addr).add j = ⟨b, off + j, none⟩ := by unfold Addr.add; split <;> simp_all
      rw [e1]
      exact hs.row j u hu
    · refine h v' w' ⟨?_, hwf⟩ h7
      rw [List.length_append, hml, ptCs_append]
      exact h6
theorem wpList_append_prow (hgd : o.guard = none) (x y : Operand) (ho : o.op = .call { callee := .builtin .append, args := #[x, y], argTypes := #[35, 35] })
    (base : Nat) (v : Value) (L : List Pt) (hx : a.eval x = v) (hr : PRow w base v L) (B : Nat) (A : Option Addr) (m c : Nat) (M : List Pt) (hy : a.eval y = .slice A m c) (hs : Pts w B A m c M)
    (hn : L.length + m ≤ 1000000) (hbase : base ≤ w.heap.size)
    (h : ∀ v' w', PRow w' base v' (L ++ M) → w.grownBy w' v.ownBlock → wpList Tryz.prog ops Q rest (a.put o.dst v') w') : wpList Tryz.prog ops Q (o :: rest) a w :=
  wpList_plain hgd fun _ hK => wp_append_prow x y ho base v L hx hr B A m c M hy hs hn hbase fun v' w' h1 h2 => hK _ _ (h v' w' h1 h2)
end
/-- A slice literal of one pointer. -/
theorem one_pts (w : World) (p : Pt) (hp : WfP p) : Pts (w.alloc (.cells (ptC p).toArray 32)) (w.alloc (.cells (ptC p).toArray 32)).heap.size (some ⟨w.heap.size, 0, none⟩) 1 1 [p] :=
  ⟨rfl, Nat.le_refl _, by unfold maxLen; omega, fun e => (by cases e), fun _ => ⟨w.heap.size, 0, rfl, by simp, fun i hi => by
    have : i = 0 := by simpa using hi
    subst this
    refine ⟨hp, fun j u hu => ?_⟩
    rw [(Blk.new w 32 (ptC p).toArray).cell]
    simpa using hu⟩⟩
theorem PRow.own {w w' : World} {base g : Nat} {v : Value} {L : List Pt} (h : PRow w base v L) (hg : w.grownBy w' (some g)) (hne : ∀ k, v.ownBlock = some k → k ≠ g) : PRow w' base v L := ⟨own_other h.1 hg hne, h.2⟩
end Go.Proofs.YtbggkfomfeeikaaGreatDoor
/-
  The document's own Rows and Same of pointers.
-/
namespace Go.Proofs.YtbggkfomfeeikaaGreatDoor
open Go.RowKit Go.Shelf
set_option maxRecDepth 100000

theorem rowsL_length (s : List UInt8) : (rowsL s).length = 16 := by simp [rowsL]
theorem list_same {L M : List Pt} (hl : L.length = M.length) (h : ∀ j, j < L.length → L.getD j p0 = M.getD j p0) : L = M := by
  apply List.ext_getElem hl
  intro i h1 h2
  have := h i h1
  rwa [List.getD_eq_getElem?_getD, List.getElem?_eq_getElem h1, List.getD_eq_getElem?_getD, List.getElem?_eq_getElem h2] at this
end Go.Proofs.YtbggkfomfeeikaaGreatDoor
/-
  A row of pointers and the pointers that it has: there and back.
-/
namespace Go.Proofs.YtbggkfomfeeikaaGreatDoor
open Go.RowKit Go.Shelf
set_option maxRecDepth 100000

theorem rowsO_cases (s : List UInt8) : (∃ c : Int, rowsO s = ([], c) ∧ c ≠ 0) ∨ (s.length = 256 ∧ (∀ p ∈ rowsL s, MayP p) ∧ rowsO s = (rowsL s, 0)) := by
  unfold rowsO
  by_cases h : s.length = 256
  · rw [if_pos h]
    by_cases h2 : ∀ p ∈ rowsL s, MayP p
    · rw [if_pos h2]
      exact .inr ⟨h, h2, rfl⟩
    · rw [if_neg h2]
      exact .inl ⟨8, rfl, by decide⟩
  · rw [if_neg h]
    exact .inl ⟨3, rfl, by decide⟩
theorem win_packTo (L : List Pt) : ∀ (k i : Nat), i < k → ((packTo L k).drop (16 * i)).take 16 = bytesP (L.getD i p0)
  | k + 1, i, h => by
    rw [packTo_step]
    have hl := packTo_length L k
    by_cases e : i = k
    · subst e
      rw [← hl, List.drop_left, List.take_of_length_le (by rw [bytesP_length]; exact Nat.le_refl _)]
    · rw [List.drop_append_of_le_length (by omega), List.take_append_of_le_length (by rw [List.length_drop]; omega)]
      exact win_packTo L k i (by omega)
/-- A row's pointers, none where there is none. -/
def fillL (L : List Pt) : List Pt := (List.range 16).map fun i => L.getD i p0
theorem rowsL_row {L : List Pt} (h16 : L.length ≤ 16) (hm : ∀ p ∈ L, MayP p) (hw : ∀ p ∈ L, WfP p) : rowsL (rowTo L L.length) = fillL L := by
  rw [← packTo_row L h16, rowsL, fillL]
  apply List.map_congr_left
  intro i hi
  rw [winP, win_packTo L 16 i (List.mem_range.1 hi), getP_bytesP (getD_may hm i) (getD_wf hw i)]
theorem rowsO_row {L : List Pt} (h16 : L.length ≤ 16) (hm : ∀ p ∈ L, MayP p) (hw : ∀ p ∈ L, WfP p) : rowsO (rowTo L L.length) = (fillL L, 0) := by
  rw [rowsO, if_pos (rowTo_length L L.length (Nat.le_refl _) h16), rowsL_row h16 hm hw, if_pos]
  intro p hp
  obtain ⟨i, _, rfl⟩ := List.mem_map.1 hp
  exact getD_may hm i
end Go.Proofs.YtbggkfomfeeikaaGreatDoor
/-
  Words for what is below a root: what Ptrs, Object and Walk answer of a store, a root and a sync, as plain lists; what follows of them.
-/
namespace Go.Proofs.YtbggkfomfeeikaaGreatDoor
open Go.RowKit Go.Shelf
set_option maxRecDepth 100000

/-- The pointers of a root that may be, in a store that may be. -/
def rowSO (S : StL) (p : Pt) : List Pt × Nat :=
  if p = p0 then (List.replicate 16 p0, 0)
  else if (seenO S p).2 ≠ 0 then ([], (seenO S p).2)
  else if (rowsO (seenO S p).1).2 ≠ 0 then ([], 8) else ((rowsO (seenO S p).1).1, 0)
/-- The object of a pointer. -/
def oneSO (S : StL) (p : Pt) : ObL × Nat :=
  if (seenO S p).2 ≠ 0 then (ob0, (seenO S p).2)
  else if (oreadO (seenO S p).1).2 ≠ 0 then (ob0, 8) else ((oreadO (seenO S p).1).1, 0)
noncomputable def ptrsSO (S : StL) (p : Pt) : List Pt × Nat :=
  open Classical in if MayS S ∧ MayP p then rowSO S p else ([], 8)
noncomputable def objSO (S : StL) (p : Pt) (n : Int) : ObL × Nat :=
  open Classical in
  if MayS S ∧ MayP p then
    if 0 ≤ n ∧ n < 16 then
      if (rowSO S p).2 ≠ 0 then (ob0, (rowSO S p).2) else oneSO S ((rowSO S p).1.getD n.toNat p0)
    else (ob0, 2)
  else (ob0, 8)
/-- Born behind a sync. -/
def Yng (a : Nat) (p : Pt) : Prop := p ≠ p0 ∧ a < p.2.1
instance (a : Nat) (p : Pt) : Decidable (Yng a p) := by unfold Yng; exact inferInstance
def dataY (a : Nat) (L : List Pt) : List Pt := L.filter fun q => decide (Yng a q)
/-- What an object's pointer brings; its error. -/
def chunkS (S : StL) (a : Nat) (p : Pt) : List Pt := if Yng a p then p :: dataY a (oneSO S p).1.2.2.2 else []
def errS (S : StL) (a : Nat) (p : Pt) : Nat := if Yng a p then (oneSO S p).2 else 0
/-- The first number that is not nought. -/
def firstE : List Nat → Nat
  | [] => 0
  | e :: r => if e = 0 then firstE r else e
theorem firstE_none {l : List Nat} (h : firstE l = 0) : ∀ e ∈ l, e = 0 := by
  induction l with
  | nil => intro e h; cases h
  | cons x r ih =>
    unfold firstE at h
    split at h
    · rename_i hx
      intro e he
      rcases List.mem_cons.1 he with rfl | he
      · exact hx
      · exact ih h e he
    · exact absurd h (by assumption)
theorem firstE_zero {l : List Nat} (h : ∀ e ∈ l, e = 0) : firstE l = 0 := by
  induction l with
  | nil => rfl
  | cons x r ih =>
    unfold firstE
    rw [if_pos (h x (List.mem_cons_self ..))]
    exact ih fun e he => h e (List.mem_cons_of_mem _ he)
theorem firstE_at {l : List Nat} {k : Nat} (hk : k < l.length) (h0 : ∀ i, i < k → l.getD i 0 = 0) (h1 : l.getD k 0 ≠ 0) : firstE l = l.getD k 0 := by
  induction l generalizing k with
  | nil => simp at hk
  | cons x r ih =>
    cases k with
    | zero =>
      unfold firstE
      rw [if_neg (by simpa using h1)]
      rfl
    | succ k =>
      have hx : x = 0 := by simpa using h0 0 (by omega)
      unfold firstE
      rw [if_pos hx]
      have := ih (k := k) (by simpa using hk) (fun i hi => by simpa using h0 (i + 1) (by omega)) (by simpa using h1)
      simpa using this
/-- The young ones below a root. -/
def youngSO (S : StL) (p : Pt) (a : Nat) : List Pt × Nat :=
  if ¬ Yng a p then ([], 0)
  else if (rowSO S p).2 ≠ 0 then ([], (rowSO S p).2)
  else if firstE ((rowSO S p).1.map (errS S a)) ≠ 0 then ([], firstE ((rowSO S p).1.map (errS S a)))
  else (p :: (rowSO S p).1.flatMap (chunkS S a), 0)
noncomputable def walkSO (S : StL) (p : Pt) (a : Nat) : List Pt × Nat :=
  open Classical in if MayS S ∧ MayP p then youngSO S p a else ([], 8)
/-- Not below block B. -/
def HiA (B : Nat) (a : Option Addr) : Prop := ∀ p, a = some p → B ≤ p.block
theorem HiA.less {B B' : Nat} {a : Option Addr} (h : HiA B a) (hB : B' ≤ B) : HiA B' a := fun p e => Nat.le_trans hB (h p e)
theorem prow_hi {w : World} {base n c : Nat} {a : Option Addr} {L : List Pt} (h : PRow w base (.slice a n c) L) : HiA base a := by
  obtain ⟨_, ⟨e, _⟩ | ⟨g, cap, cur, e, q1, _⟩⟩ := h.1
  · cases e; exact fun _ e => by cases e
  · cases e; exact fun _ e => by cases e; exact q1
/-- Pointers and an error's number. -/
def OutLs (o : List Pt × Nat) (w : World) (e : Ending) (w' : World) : Prop := ∃ a c, e = .returned (.tuple #[.slice a o.1.length c, .int .i64 o.2]) ∧ Pts w' w'.heap.size a o.1.length c o.1 ∧ HiA w.heap.size a ∧ Below w.heap.size w w'
theorem outLs_no (c : Nat) {w w' : World} (hb : Below w.heap.size w w') : OutLs ([], c) w (.returned (.tuple #[.slice none 0 0, .int .i64 c])) w' := ⟨none, 0, rfl, pts_nil _ _, fun _ e => (by cases e), hb⟩
/-- An object and an error's number. -/
def OutOs (o : ObL × Nat) (w : World) (e : Ending) (w' : World) : Prop := ∃ a c, e = .returned (.tuple #[.agg #[.int .u8 (o.1.1 : Int), .int .i64 o.1.2.1, .int .i64 o.1.2.2.1, .slice a o.1.2.2.2.length c], .int .i64 o.2]) ∧ Pts w' w'.heap.size a o.1.2.2.2.length c o.1.2.2.2 ∧ HiA w.heap.size a ∧ Below w.heap.size w w'
theorem outOs_no (c : Nat) {w w' : World} (hb : Below w.heap.size w w') : OutOs (ob0, c) w (.returned (.tuple #[.agg #[.int .u8 0, .int .i64 0, .int .i64 0, .slice none 0 0], .int .i64 c])) w' := ⟨none, 0, rfl, pts_nil _ _, fun _ e => (by cases e), hb⟩
theorem Pts.cellw {w : World} {B len cap g i : Nat} {a : Option Addr} {L : List Pt} (h : Pts w B a len cap L) (ha : ∀ p, a = some p → g < p.block) (v : Value) : Pts (w.setCell ⟨g, i, none⟩ v) B a len cap L := by
  obtain ⟨h1, h2, h3, h4, h5⟩ := h
  refine ⟨h1, h2, h3, h4, fun hl => ?_⟩
  obtain ⟨b, off, e, hlt, hc⟩ := h5 hl
  have hne := ha _ e
  refine ⟨b, off, e, hlt, fun i hi => ⟨(hc i hi).1, fun j u hu => ((World.cell?_setCell_other w _ _ _ ?_).trans ((hc i hi).2 j u hu))⟩⟩
  simp only at hne
  intro e2
  injection e2 with e2
  omega
theorem Pts.box4 {w : World} {B len cap g : Nat} {a : Option Addr} {L : List Pt} (h : Pts w B a len cap L) (ha : ∀ p, a = some p → g < p.block) (v0 v1 v2 v3 : Value) : Pts ((((w.setCell ⟨g, 0, none⟩ v0).setCell ⟨g, 1, none⟩ v1).setCell ⟨g, 2, none⟩ v2).setCell ⟨g, 3, none⟩ v3) B a len cap L :=
  (((h.cellw ha v0).cellw ha v1).cellw ha v2).cellw ha v3

theorem rowSO_none (S : StL) : rowSO S p0 = (List.replicate 16 p0, 0) := if_pos rfl
theorem oneSO_none (S : StL) : oneSO S p0 = (ob0, 6) := by
  have : seenO S p0 = ([], 6) := if_pos rfl
  unfold oneSO
  rw [this, if_pos (by decide)]
theorem yng_p0 (a : Nat) : ¬ Yng a p0 := fun h => h.1 rfl
theorem rowsL_wf (s : List UInt8) : ∀ p ∈ rowsL s, WfP p := fun p hp => by
  obtain ⟨i, _, rfl⟩ := List.mem_map.1 hp
  exact wf_getP _
theorem oneSO_cases (S : StL) (p : Pt) : (∃ e, oneSO S p = (ob0, e) ∧ e ≠ 0) ∨ ∃ O, oneSO S p = (O, 0) ∧ MayOb O ∧ ∀ q ∈ O.2.2.2, WfP q := by
  unfold oneSO
  split
  · rename_i h
    exact .inl ⟨_, rfl, h⟩
  · rcases oreadO_cases (seenO S p).1 with ⟨e, h, hne⟩ | ⟨_, hm, _, h⟩
    · rw [h, if_pos hne]
      exact .inl ⟨8, rfl, by decide⟩
    · rw [h, if_neg (fun h => h rfl)]
      exact .inr ⟨_, rfl, hm, ptsOb_wf _ 15⟩
theorem rowSO_cases (S : StL) (p : Pt) : (∃ e, rowSO S p = ([], e) ∧ e ≠ 0) ∨ ∃ L, rowSO S p = (L, 0) ∧ L.length = 16 ∧ (∀ q ∈ L, WfP q) ∧ ∀ q ∈ L, MayP q := by
  unfold rowSO
  split
  · exact .inr ⟨_, rfl, List.length_replicate .., fun q h => by rw [List.eq_of_mem_replicate h]; exact wf_p0, fun q h => by rw [List.eq_of_mem_replicate h]; exact may_p0⟩
  · split
    · rename_i h
      exact .inl ⟨_, rfl, h⟩
    · rcases rowsO_cases (seenO S p).1 with ⟨c, h, hne⟩ | ⟨_, hm, h⟩
      · rw [h, if_pos hne]
        exact .inl ⟨8, rfl, by decide⟩
      · rw [h, if_neg (fun h => h rfl)]
        exact .inr ⟨_, rfl, rowsL_length _, rowsL_wf _, hm⟩
theorem ptrsSO_may {S : StL} {p : Pt} (h : MayS S) (hp : MayP p) : ptrsSO S p = rowSO S p := by unfold ptrsSO; rw [if_pos ⟨h, hp⟩]
theorem ptrsSO_no {S : StL} {p : Pt} (h : ¬ (MayS S ∧ MayP p)) : ptrsSO S p = ([], 8) := by unfold ptrsSO; rw [if_neg h]
theorem walkSO_may {S : StL} {p : Pt} {a : Nat} (h : MayS S) (hp : MayP p) : walkSO S p a = youngSO S p a := by unfold walkSO; rw [if_pos ⟨h, hp⟩]
theorem walkSO_no {S : StL} {p : Pt} {a : Nat} (h : ¬ (MayS S ∧ MayP p)) : walkSO S p a = ([], 8) := by unfold walkSO; rw [if_neg h]
theorem objSO_no {S : StL} {p : Pt} {n : Int} (h : ¬ (MayS S ∧ MayP p)) : objSO S p n = (ob0, 8) := by unfold objSO; rw [if_neg h]
theorem objSO_arg {S : StL} {p : Pt} {n : Int} (h : MayS S) (hp : MayP p) (hn : ¬ (0 ≤ n ∧ n < 16)) : objSO S p n = (ob0, 2) := by unfold objSO; rw [if_pos ⟨h, hp⟩, if_neg hn]
theorem objSO_at {S : StL} {p : Pt} {n : Nat} {L : List Pt} (h : MayS S) (hp : MayP p) (hn : n < 16) (hr : rowSO S p = (L, 0)) : objSO S p (n : Int) = oneSO S (L.getD n p0) := by
  unfold objSO
  rw [if_pos ⟨h, hp⟩, if_pos (by omega), hr, if_neg (fun h => h rfl)]
  rfl
theorem objSO_row {S : StL} {p : Pt} {n : Int} {e : Nat} (h : MayS S) (hp : MayP p) (hn : 0 ≤ n ∧ n < 16) (hr : rowSO S p = ([], e)) (he : e ≠ 0) : objSO S p n = (ob0, e) := by
  unfold objSO
  rw [if_pos ⟨h, hp⟩, if_pos hn, hr, if_pos he]
theorem chunkS_len (S : StL) (a : Nat) (p : Pt) (h : (oneSO S p).2 = 0) : (chunkS S a p).length ≤ 16 := by
  unfold chunkS
  split
  · rcases oneSO_cases S p with ⟨e, h1, h2⟩ | ⟨O, h1, h2, _⟩
    · rw [h1] at h
      exact absurd h h2
    · rw [h1]
      have := List.length_filter_le (fun q => decide (Yng a q)) O.2.2.2
      have h15 := h2.1.2.2.2
      simp only [List.length_cons, dataY]
      omega
  · simp
theorem flat_len {f : Pt → List Pt} : ∀ {L : List Pt}, (∀ p ∈ L, (f p).length ≤ 16) → (L.flatMap f).length ≤ 16 * L.length
  | [], _ => by simp
  | p :: L, h => by
    rw [List.flatMap_cons, List.length_append, List.length_cons]
    have h1 := h p (List.mem_cons_self ..)
    have h2 := flat_len (L := L) fun q hq => h q (List.mem_cons_of_mem _ hq)
    omega
theorem flat_congr {f g : Pt → List Pt} : ∀ {L : List Pt}, (∀ q ∈ L, f q = g q) → L.flatMap f = L.flatMap g
  | [], _ => rfl
  | p :: L, h => by
    rw [List.flatMap_cons, List.flatMap_cons, h p (List.mem_cons_self ..), flat_congr (L := L) fun q hq => h q (List.mem_cons_of_mem _ hq)]
/-- Walk's answer, each way. -/
theorem youngSO_cases (S : StL) (p : Pt) (a : Nat) : (¬ Yng a p ∧ youngSO S p a = ([], 0)) ∨ (∃ e, youngSO S p a = ([], e) ∧ e ≠ 0 ∧ Yng a p) ∨
    (∃ L, Yng a p ∧ rowSO S p = (L, 0) ∧ L.length = 16 ∧ (∀ q ∈ L, WfP q) ∧ (∀ q ∈ L, MayP q) ∧ (∀ q ∈ L, Yng a q → (oneSO S q).2 = 0) ∧ youngSO S p a = (p :: L.flatMap (chunkS S a), 0)) := by
  by_cases hy : Yng a p
  · rcases rowSO_cases S p with ⟨e, h1, h2⟩ | ⟨L, h1, h2, h3, h4⟩
    · refine .inr (.inl ⟨e, ?_, h2, hy⟩)
      unfold youngSO
      rw [if_neg (fun h => h hy), h1, if_pos h2]
    · by_cases hf : firstE (L.map (errS S a)) = 0
      · refine .inr (.inr ⟨L, hy, h1, h2, h3, h4, fun q hq hyq => ?_, ?_⟩)
        · have := firstE_none hf _ (List.mem_map.2 ⟨q, hq, rfl⟩)
          unfold errS at this
          rwa [if_pos hyq] at this
        · unfold youngSO
          rw [if_neg (fun h => h hy), h1, if_neg (fun h => h rfl), if_neg (fun h => h hf)]
      · refine .inr (.inl ⟨_, ?_, hf, hy⟩)
        unfold youngSO
        rw [if_neg (fun h => h hy), h1, if_neg (fun h => h rfl), if_pos hf]
  · refine .inl ⟨hy, ?_⟩
    unfold youngSO
    rw [if_pos hy]
theorem youngSO_row {S : StL} {p : Pt} {a : Nat} {L : List Pt} (hy : Yng a p) (hr : rowSO S p = (L, 0)) (he : ∀ q ∈ L, Yng a q → (oneSO S q).2 = 0) : youngSO S p a = (p :: L.flatMap (chunkS S a), 0) := by
  have hf : firstE (L.map (errS S a)) = 0 := firstE_zero fun e h => by
    obtain ⟨q, hq, rfl⟩ := List.mem_map.1 h
    unfold errS
    split
    · exact he q hq (by assumption)
    · rfl
  unfold youngSO
  rw [if_neg (fun h => h hy), hr, if_neg (fun h => h rfl), if_neg (fun h => h hf)]
theorem youngSO_len {S : StL} {p : Pt} {a : Nat} {l : List Pt} (h : youngSO S p a = (l, 0)) : l.length ≤ 257 := by
  rcases youngSO_cases S p a with ⟨_, h1⟩ | ⟨e, h1, h2, _⟩ | ⟨L, _, _, h16, _, _, he, h1⟩
  · rw [h1] at h; cases h; simp
  · rw [h1] at h; cases h; exact absurd rfl h2
  · rw [h1] at h
    cases h
    have := flat_len (f := chunkS S a) (L := L) fun q hq => by
      by_cases hy : Yng a q
      · exact chunkS_len S a q (he q hq hy)
      · unfold chunkS; rw [if_neg hy]; simp
    rw [List.length_cons]
    omega
/-- Where births fall, the young ones are those of all that are born later. -/
theorem young_falls {S : StL} {p : Pt} {L : List Pt} {a : Nat} (hp : p ≠ p0) (hpm : MayP p) (hr : rowSO S p = (L, 0)) (hm : ∀ q ∈ L, MayP q) (ho : ∀ q ∈ L, q ≠ p0 → (oneSO S q).2 = 0 ∧ q.2.1 ≤ p.2.1 ∧ ∀ r ∈ (oneSO S q).1.2.2.2, r.2.1 ≤ q.2.1) :
    ∃ l, youngSO S p 0 = (l, 0) ∧ youngSO S p a = (l.filter (fun q => decide (a < q.2.1)), 0) ∧ (a < p.2.1 ∨ l.filter (fun q => decide (a < q.2.1)) = []) := by
  have hy0 : Yng 0 p := ⟨hp, by rcases hpm with h | h; exact absurd h hp; omega⟩
  have h0 := youngSO_row hy0 hr fun q hq hy => (ho q hq hy.1).1
  refine ⟨_, h0, ?_⟩
  have hch : ∀ q ∈ L, (chunkS S 0 q).filter (fun q => decide (a < q.2.1)) = chunkS S a q := fun q hq => by
    by_cases hq0 : q = p0
    · rw [hq0]
      unfold chunkS
      rw [if_neg (yng_p0 0), if_neg (yng_p0 a)]
      rfl
    · obtain ⟨_, _, h3⟩ := ho q hq hq0
      have hyq : Yng 0 q := ⟨hq0, by rcases hm q hq with h | h; exact absurd h hq0; omega⟩
      unfold chunkS
      rw [if_pos hyq]
      by_cases ha : a < q.2.1
      · rw [if_pos ⟨hq0, ha⟩, List.filter_cons, if_pos (decide_eq_true ha)]
        congr 1
        unfold dataY
        rw [List.filter_filter]
        refine List.filter_congr fun r hr => ?_
        unfold Yng
        by_cases hr0 : r = p0
        · subst hr0
          simp
        · by_cases har : a < r.2.1
          · simp [har, hr0]
            omega
          · simp [har]
      · rw [if_neg (fun h => ha h.2), List.filter_cons, if_neg (by simpa using ha)]
        unfold dataY
        rw [List.filter_filter, List.filter_eq_nil_iff]
        intro r hr
        have := h3 r hr
        simp
        intro h
        omega
  have hfl : (L.flatMap (chunkS S 0)).filter (fun q => decide (a < q.2.1)) = L.flatMap (chunkS S a) := by
    rw [List.filter_flatMap]
    exact flat_congr hch
  by_cases ha : a < p.2.1
  · have ha' := youngSO_row (S := S) (p := p) (a := a) ⟨hp, ha⟩ hr fun q hq hy => (ho q hq hy.1).1
    rw [List.filter_cons, if_pos (decide_eq_true ha), hfl, ha']
    exact ⟨rfl, .inl ha⟩
  · have hn : youngSO S p a = ([], 0) := by
      unfold youngSO
      rw [if_pos (fun h : Yng a p => ha h.2)]
    have hall : L.flatMap (chunkS S a) = [] := by
      rw [List.flatMap_eq_nil_iff]
      intro q hq
      unfold chunkS
      rw [if_neg]
      rintro ⟨hq0, hqa⟩
      have := (ho q hq hq0).2.1
      omega
    rw [List.filter_cons, if_neg (by simpa using ha), hfl, hall, hn]
    exact ⟨rfl, .inr rfl⟩
end Go.Proofs.YtbggkfomfeeikaaGreatDoor
/-
  What follows of what is below a root: later syncs, and blocks elsewhere.
-/
namespace Go.Proofs.YtbggkfomfeeikaaGreatDoor
open Go.RowKit Go.Shelf
set_option maxRecDepth 100000

theorem flat_sub {f g : Pt → List Pt} : ∀ (L : List Pt), (∀ q ∈ L, (f q).Sublist (g q)) → (L.flatMap f).Sublist (L.flatMap g)
  | [], _ => List.Sublist.refl _
  | p :: L, h => by
    rw [List.flatMap_cons, List.flatMap_cons]
    exact (h p (List.mem_cons_self ..)).append (flat_sub L fun q hq => h q (List.mem_cons_of_mem _ hq))
theorem Yng.less {a b : Nat} {p : Pt} (h : Yng b p) (hab : a ≤ b) : Yng a p := ⟨h.1, Nat.lt_of_le_of_lt hab h.2⟩
theorem chunk_sub (S : StL) {a b : Nat} (hab : a ≤ b) (q : Pt) : (chunkS S b q).Sublist (chunkS S a q) := by
  unfold chunkS
  by_cases hb : Yng b q
  · rw [if_pos hb, if_pos (hb.less hab)]
    refine List.Sublist.cons_cons _ ?_
    unfold dataY
    have : ((oneSO S q).1.2.2.2.filter fun r => decide (Yng b r)) = ((oneSO S q).1.2.2.2.filter fun r => decide (Yng a r)).filter fun r => decide (Yng b r) := by
      rw [List.filter_filter]
      refine List.filter_congr fun r _ => ?_
      by_cases h : Yng b r
      · simp [h, h.less hab]
      · simp [h]
    rw [this]
    exact List.filter_sublist
  · rw [if_neg hb]
    exact List.nil_sublist _
/-- What is young behind a later sync. -/
theorem young_later {S : StL} {p : Pt} {a b : Nat} (hab : a ≤ b) {l : List Pt} (h : youngSO S p a = (l, 0)) : ∃ m, youngSO S p b = (m, 0) ∧ m.Sublist l := by
  by_cases hb : Yng b p
  · rcases youngSO_cases S p a with ⟨h1, _⟩ | ⟨e, h1, h2, _⟩ | ⟨L, _, hr, _, _, _, he, h1⟩
    · exact absurd (hb.less hab) h1
    · rw [h1] at h; cases h; exact absurd rfl h2
    · rw [h1] at h
      cases h
      exact ⟨_, youngSO_row hb hr fun q hq hy => he q hq (hy.less hab), List.Sublist.cons_cons _ (flat_sub L fun q _ => chunk_sub S hab q)⟩
  · refine ⟨[], ?_, List.nil_sublist _⟩
    unfold youngSO
    rw [if_pos hb]
theorem young_all {S : StL} {p : Pt} {a : Nat} {l : List Pt} (h : youngSO S p a = (l, 0)) : ∀ q ∈ l, Yng a q := by
  rcases youngSO_cases S p a with ⟨_, h1⟩ | ⟨e, h1, h2, _⟩ | ⟨L, hy, hr, _, _, _, he, h1⟩
  · rw [h1] at h; cases h; intro q hq; cases hq
  · rw [h1] at h; cases h; exact absurd rfl h2
  · rw [h1] at h
    cases h
    intro q hq
    rcases List.mem_cons.1 hq with rfl | hq
    · exact hy
    · obtain ⟨r, _, hq⟩ := List.mem_flatMap.1 hq
      unfold chunkS at hq
      split at hq
      · rename_i hyr
        rcases List.mem_cons.1 hq with rfl | hq
        · exact hyr
        · exact of_decide_eq_true (List.mem_filter.1 hq).2
      · cases hq
theorem rowSO_same {S T : StL} {p : Pt} (h : seenO T p = seenO S p) : rowSO T p = rowSO S p := by unfold rowSO; rw [h]
theorem oneSO_same {S T : StL} {p : Pt} (h : seenO T p = seenO S p) : oneSO T p = oneSO S p := by unfold oneSO; rw [h]
theorem yng_may {p : Pt} (h : MayP p) (hp : p ≠ p0) : Yng 0 p := ⟨hp, by rcases h with h | h; exact absurd h hp; omega⟩
/-- Blocks elsewhere change nothing. -/
theorem young_alone {S T : StL} {p : Pt} (hp : MayP p) {l : List Pt} (h : youngSO S p 0 = (l, 0)) (hs : ∀ q ∈ l, seenO T q = seenO S q) :
    rowSO T p = rowSO S p ∧ (∀ L e, rowSO S p = (L, e) → ∀ q ∈ L, oneSO T q = oneSO S q) ∧ ∀ a, youngSO T p a = youngSO S p a := by
  by_cases hp0 : p = p0
  · subst hp0
    refine ⟨by rw [rowSO_none, rowSO_none], fun L e hr q hq => ?_, fun a => ?_⟩
    · rw [rowSO_none] at hr
      cases hr
      rw [List.eq_of_mem_replicate hq, oneSO_none, oneSO_none]
    · unfold youngSO
      rw [if_pos (yng_p0 a), if_pos (yng_p0 a)]
  · have hy := yng_may hp hp0
    rcases youngSO_cases S p 0 with ⟨h1, _⟩ | ⟨e, h1, h2, _⟩ | ⟨L, _, hr, _, _, hm, he, h1⟩
    · exact absurd hy h1
    · rw [h1] at h; cases h; exact absurd rfl h2
    · rw [h1] at h
      cases h
      have hrow : rowSO T p = rowSO S p := rowSO_same (hs p (List.mem_cons_self ..))
      have hone : ∀ q ∈ L, oneSO T q = oneSO S q := fun q hq => by
        by_cases hq0 : q = p0
        · rw [hq0, oneSO_none, oneSO_none]
        · refine oneSO_same (hs q (List.mem_cons_of_mem _ (List.mem_flatMap.2 ⟨q, hq, ?_⟩)))
          unfold chunkS
          rw [if_pos (yng_may (hm q hq) hq0)]
          exact List.mem_cons_self ..
      refine ⟨hrow, fun L' e hr' q hq => ?_, fun a => ?_⟩
      · rw [hr] at hr'
        cases hr'
        exact hone q hq
      · have e1 : L.map (errS T a) = L.map (errS S a) := List.map_congr_left fun q hq => by unfold errS; rw [hone q hq]
        have e2 : L.flatMap (chunkS T a) = L.flatMap (chunkS S a) := flat_congr fun q hq => by unfold chunkS; rw [hone q hq]
        unfold youngSO
        rw [hrow, hr]
        simp only
        rw [e1, e2]
/-- One step of looking for a list within another one. -/
theorem sub_step {m : List Pt} {x : Pt} {r : List Pt} (h : m.Sublist (x :: r)) : (∃ m', m = x :: m' ∧ m'.Sublist r) ∨ (m.Sublist r) := by
  cases h with
  | cons _ h => exact .inr h
  | cons_cons _ h => exact .inl ⟨_, rfl, h⟩
theorem sub_go {m r : List Pt} {x : Pt} (h : m.Sublist (x :: r)) : (∀ y m', m = y :: m' → y = x → m'.Sublist r) ∧ ((∀ y m', m = y :: m' → y ≠ x) → m.Sublist r) := by
  refine ⟨fun y m' e hy => ?_, fun hn => ?_⟩
  · subst e
    subst hy
    exact List.cons_sublist_cons.1 h
  · rcases sub_step h with ⟨m', e, _⟩ | h
    · exact absurd rfl (hn _ _ e)
    · exact h
theorem Pts.len_le {w : World} {B n c : Nat} {a : Option Addr} {l : List Pt} (h : Pts w B a n c l) : (n : Int) ≤ 9223372036854775807 := by have h1 := h.2.1; have h2 := h.2.2.1; unfold maxLen at h2; omega
theorem eqP_not {p q : Pt} (h : p ≠ q) : eqP p q = false := decide_eq_false h
theorem eqP_yes (p : Pt) : eqP p p = true := (eqP_iff p p).2 rfl
theorem walk_cases (S : StL) (p : Pt) (a : Nat) : (∃ e, walkSO S p a = ([], e) ∧ e ≠ 0) ∨ ∃ l, walkSO S p a = (l, 0) ∧ MayS S ∧ MayP p ∧ youngSO S p a = (l, 0) := by
  by_cases h : MayS S ∧ MayP p
  · rw [walkSO_may h.1 h.2]
    rcases youngSO_cases S p a with ⟨_, h1⟩ | ⟨e, h1, h2, _⟩ | ⟨L, _, _, _, _, _, _, h1⟩
    · exact .inr ⟨_, h1, h.1, h.2, h1⟩
    · exact .inl ⟨e, h1, h2⟩
    · exact .inr ⟨_, h1, h.1, h.2, h1⟩
  · rw [walkSO_no h]
    exact .inl ⟨8, rfl, by decide⟩
theorem drop_at {l : List Pt} {j : Nat} (h : j < l.length) : l.drop j = l.getD j p0 :: l.drop (j + 1) := by
  rw [List.drop_eq_getElem_cons h, List.getD_eq_getElem?_getD, List.getElem?_eq_getElem h]
  rfl
theorem filter_at {al : List Pt} {f : Pt → Bool} {i : Nat} (hi : i < al.length) : (f (al.getD i p0) = false → ((al.take (i + 1)).filter f).length = ((al.take i).filter f).length) ∧
    (f (al.getD i p0) = true → ((al.take (i + 1)).filter f).length = ((al.take i).filter f).length + 1 ∧ ((al.take i).filter f).length < (al.filter f).length ∧ (al.filter f).getD ((al.take i).filter f).length p0 = al.getD i p0) := by
  have hg : al.getD i p0 = al[i] := by rw [List.getD_eq_getElem?_getD, List.getElem?_eq_getElem hi]; rfl
  have ht : (al.take (i + 1)).filter f = (al.take i).filter f ++ [al[i]].filter f := by rw [List.take_succ_eq_append_getElem hi, List.filter_append]
  rw [hg, ht, List.length_append]
  refine ⟨fun h => ?_, fun h => ?_⟩
  · simp [h]
  · have hall : al.filter f = (al.take i).filter f ++ al[i] :: (al.drop (i + 1)).filter f := by
      conv => lhs; rw [← List.take_append_drop i al, List.drop_eq_getElem_cons hi]
      rw [List.filter_append, List.filter_cons, if_pos h]
    rw [hall]
    refine ⟨by simp [h], by simp, ?_⟩
    rw [List.getD_eq_getElem?_getD, List.getElem?_append_right (Nat.le_refl _), Nat.sub_self]
    rfl
theorem young_may {S : StL} {p : Pt} {a : Nat} (hp : MayP p) {l : List Pt} (h : youngSO S p a = (l, 0)) : ∀ q ∈ l, MayP q := by
  rcases youngSO_cases S p a with ⟨_, h1⟩ | ⟨e, h1, h2, _⟩ | ⟨L, hy, hr, _, _, hm, he, h1⟩
  · rw [h1] at h; cases h; intro q hq; cases hq
  · rw [h1] at h; cases h; exact absurd rfl h2
  · rw [h1] at h
    cases h
    intro q hq
    rcases List.mem_cons.1 hq with rfl | hq
    · exact hp
    · obtain ⟨r, hr2, hq⟩ := List.mem_flatMap.1 hq
      unfold chunkS at hq
      split at hq
      · rename_i hyr
        rcases List.mem_cons.1 hq with rfl | hq
        · exact hm _ hr2
        · rcases oneSO_cases S r with ⟨e, h3, h4⟩ | ⟨O, h3, h4, _⟩
          · have := he r hr2 hyr
            rw [h3] at this
            exact absurd this h4
          · rw [h3] at hq
            exact h4.2 q (List.mem_filter.1 hq).1
      · cases hq
theorem objSO_may {S : StL} {p : Pt} {n : Int} (h : MayS S) (hp : MayP p) : objSO S p n = if 0 ≤ n ∧ n < 16 then (if (rowSO S p).2 ≠ 0 then (ob0, (rowSO S p).2) else oneSO S ((rowSO S p).1.getD n.toNat p0)) else (ob0, 2) := by
  unfold objSO
  rw [if_pos ⟨h, hp⟩]
/-- Blocks elsewhere change nothing of what is told. -/
theorem told_alone {S T : StL} {p : Pt} (hS : MayS S) (hT : MayS T) (hp : MayP p) {l : List Pt} (h : youngSO S p 0 = (l, 0)) (hs : ∀ q ∈ l, seenO T q = seenO S q) : (∀ n, objSO T p n = objSO S p n) ∧ ∀ a, walkSO T p a = walkSO S p a := by
  obtain ⟨h1, h2, h3⟩ := young_alone hp h hs
  refine ⟨fun n => ?_, fun a => by rw [walkSO_may hT hp, walkSO_may hS hp, h3]⟩
  rw [objSO_may hT hp, objSO_may hS hp, h1]
  by_cases hn : 0 ≤ n ∧ n < 16
  · rw [if_pos hn, if_pos hn]
    rcases rowSO_cases S p with ⟨e, hr, hne⟩ | ⟨L, hr, h16, _⟩
    · rw [hr, if_pos hne, if_pos hne]
    · rw [hr, if_neg (fun h => h rfl), if_neg (fun h => h rfl)]
      refine h2 L 0 hr _ ?_
      simp only
      rw [List.getD_eq_getElem?_getD, List.getElem?_eq_getElem (by omega)]
      exact List.getElem_mem _
  · rw [if_neg hn, if_neg hn]
/-- One part of a list of parts. -/
theorem all_at {L : List Pt} {f : Pt → List Pt} (p : Pt) {j k : Nat} (hj : j < L.length) (hk : k < (f (L.getD j p0)).length) :
    1 + ((L.take j).flatMap f).length + k < (p :: L.flatMap f).length ∧ (p :: L.flatMap f).getD (1 + ((L.take j).flatMap f).length + k) p0 = (f (L.getD j p0)).getD k p0 := by
  have hs : L.flatMap f = (L.take j).flatMap f ++ (f (L.getD j p0) ++ (L.drop (j + 1)).flatMap f) := by
    conv => lhs; rw [← List.take_append_drop j L, List.flatMap_append, drop_at hj, List.flatMap_cons]
  rw [hs]
  refine ⟨by simp only [List.length_cons, List.length_append]; omega, ?_⟩
  rw [show 1 + ((L.take j).flatMap f).length + k = (((L.take j).flatMap f).length + k) + 1 by omega]
  rw [List.getD_eq_getElem?_getD, List.getElem?_cons_succ, List.getElem?_append_right (by omega), Nat.add_sub_cancel_left, List.getElem?_append_left hk]
  exact (List.getD_eq_getElem?_getD ..).symm
theorem flat_take {L : List Pt} {f : Pt → List Pt} {j : Nat} (hj : j < L.length) : ((L.take (j + 1)).flatMap f).length = ((L.take j).flatMap f).length + (f (L.getD j p0)).length := by
  rw [List.take_succ_eq_append_getElem hj, List.flatMap_append, List.length_append]
  have : L.getD j p0 = L[j] := by rw [List.getD_eq_getElem?_getD, List.getElem?_eq_getElem hj]; rfl
  rw [this]
  simp
end Go.Proofs.YtbggkfomfeeikaaGreatDoor
/-
  Words for lists of whole numbers (Go's []int with no number below nought): a slice that reads as them; appends to a slice of one's own; a cell of it.
-/
namespace Go.Proofs.YtbggkfomfeeikaaGreatDoor
open Go.RowKit Go.Shelf
set_option maxRecDepth 100000

/-- A slice of numbers that lies below block B reads as s. -/
def Nsl (w : World) (B : Nat) (a : Option Addr) (len cap : Nat) (s : List Nat) : Prop :=
  s.length = len ∧ len ≤ cap ∧ cap ≤ maxLen ∧ (a = none → cap = 0) ∧
    (0 < len → ∃ b off, a = some ⟨b, off, none⟩ ∧ b < B ∧ ∀ i (h : i < s.length), w.cell? ⟨b, off + i, none⟩ = some (.int .i64 ((s[i] : Nat) : Int)))
theorem Nsl.below {w w' : World} {B : Nat} {a : Option Addr} {len cap : Nat} {s : List Nat} (h : Nsl w B a len cap s) (hb : Below B w w') : Nsl w' B a len cap s := by
  obtain ⟨h1, h2, h3, h4, h5⟩ := h
  refine ⟨h1, h2, h3, h4, fun hl => ?_⟩
  obtain ⟨b, off, e, hlt, hc⟩ := h5 hl
  exact ⟨b, off, e, hlt, fun i hi => (hb.cell (p := ⟨b, off + i, none⟩) hlt).trans (hc i hi)⟩
theorem Nsl.more {w : World} {B B' : Nat} {a : Option Addr} {len cap : Nat} {s : List Nat} (h : Nsl w B a len cap s) (hB : B ≤ B') : Nsl w B' a len cap s := by
  obtain ⟨h1, h2, h3, h4, h5⟩ := h
  refine ⟨h1, h2, h3, h4, fun hl => ?_⟩
  obtain ⟨b, off, e, hlt, hc⟩ := h5 hl
  exact ⟨b, off, e, by omega, hc⟩
theorem Nsl.step {w w' : World} {a : Option Addr} {len cap : Nat} {s : List Nat} (h : Nsl w w.heap.size a len cap s) (hb : Below w.heap.size w w') : Nsl w' w'.heap.size a len cap s := (h.below hb).more hb.size
theorem Nsl.cellD {w : World} {B g off len cap : Nat} {s : List Nat} (h : Nsl w B (some ⟨g, off, none⟩) len cap s) (i : Nat) (hi : i < len) : w.cell? ⟨g, off + i, none⟩ = some (.int .i64 ((s.getD i 0 : Nat) : Int)) := by
  obtain ⟨b, o, e, _, hc⟩ := h.2.2.2.2 (by omega)
  cases e
  have hl : i < s.length := by rw [h.1]; exact hi
  rw [hc i hl, List.getD_eq_getElem?_getD, List.getElem?_eq_getElem hl]
  rfl
end Go.Proofs.YtbggkfomfeeikaaGreatDoor
/-
  space's own: marks, slices.IndexFunc and ContainsFunc over bytes, whether a table may be, bytes.Clone, a table with another mark, the closure that tells the free blocks.
-/
namespace Go.Proofs.YtbggkfomfeeikaaGreatDoor
open Go.RowKit Go.Shelf
set_option maxRecDepth 100000

theorem Bsl.mk {w : World} {B g off len cap : Nat} {s : List UInt8} (h : Bsl w B (some ⟨g, off, none⟩) len cap s) (i : Nat) (hi : i < len) : w.cell? ⟨g, off + i, none⟩ = some (.int .u8 ((mkT s i : Nat) : Int)) := h.cellD i hi
theorem Bsl.at_ {w : World} {B len cap : Nat} {a : Option Addr} {s : List UInt8} (h : Bsl w B a len cap s) (h0 : 0 < len) : ∃ b off, a = some ⟨b, off, none⟩ ∧ b < B := by
  obtain ⟨b, off, e, hb, _⟩ := h.2.2.2.2 h0
  exact ⟨b, off, e, hb⟩

theorem isNoMark_any (x : Nat) (hx : x < 256) (w : World) : Calls Tryz.prog 126 #[.int .u8 x] w fun e w' => e = .returned (.bool (decide (2 < x))) ∧ w = w' := by
  have x0 : (0 : Int) ≤ x := by omega
  by_cases h0 : x = 0
  · subst h0
    go_enter Tryz.func126, Tryz.ntmps126
    go_wp2_with fail
    go_ret
    exact ⟨rfl, rfl⟩
  · have e0 : ((x : Int) != 0) = true := by simp; omega
    by_cases h1 : x = 1
    · subst h1
      go_enter Tryz.func126, Tryz.ntmps126
      go_wp2_with fail
      go_ret
      exact ⟨rfl, rfl⟩
    · have e1 : ((x : Int) != 1) = true := by simp; omega
      by_cases h2 : x = 2
      · subst h2
        go_enter Tryz.func126, Tryz.ntmps126
        go_wp2_with fail
        go_ret
        exact ⟨rfl, rfl⟩
      · have e2 : ((x : Int) != 2) = true := by simp; omega
        have e3 : decide (2 < x) = true := decide_eq_true (by omega)
        rw [e3]
        clear h0 h1 h2 e3
        go_enter Tryz.func126, Tryz.ntmps126
        go_wp2_with fail
        go_ret
        exact ⟨rfl, rfl⟩
theorem isNotUsed_any (x : Nat) (hx : x < 256) (w : World) : Calls Tryz.prog 127 #[.int .u8 x] w fun e w' => e = .returned (.bool (decide (x ≠ 1))) ∧ w = w' := by
  have x0 : (0 : Int) ≤ x := by omega
  by_cases h1 : x = 1
  · subst h1
    go_enter Tryz.func127, Tryz.ntmps127
    go_wp2_with fail
    go_ret
    exact ⟨rfl, rfl⟩
  · have e1 : ((x : Int) != 1) = true := by simp; omega
    have e3 : decide (x ≠ 1) = true := decide_eq_true (by omega)
    rw [e3]
    clear h1 e3
    go_enter Tryz.func127, Tryz.ntmps127
    go_wp2_with fail
    go_ret
    exact ⟨rfl, rfl⟩
/-- slices.IndexFunc over bytes: none is odd. -/
theorem spIndex_none (F : Nat) (p : Nat → Bool) (hFF : F = 126 ∨ F = 127) (hF : ∀ x : Nat, x < 256 → ∀ W : World, Calls Tryz.prog F #[.int .u8 x] W fun e w' => e = .returned (.bool (p x)) ∧ W = w') (a : Option Addr) (n c B : Nat) (s : List UInt8) (w : World) (hA : Bsl w B a n c s) (hall : ∀ i, i < n → p (mkT s i) = false) :
    Calls Tryz.prog 143 #[.slice a n c, .func (.func F) #[] #[]] w fun e w' => e = .returned (.int .i64 (-1)) ∧ w = w' := by
  have n0 : (0 : Int) ≤ n := by omega
  have n1 := hA.len_le
  have HA := Lib.hid hA
  have HL := Lib.hid hall
  have HF := Lib.hid hF
  clear hA hall hF
  rcases hFF with rfl | rfl
  all_goals
    go_enter Tryz.func143, Tryz.ntmps143
    go_wp2_with fail
    go_loop [8] (fun i => ∃ k : Nat, k ≤ n ∧ i = .int .i64 k) (fun i => n - (intOf i).toNat)
    case atStart => exact ⟨0, Nat.zero_le _, rfl⟩
    case round =>
      obtain ⟨k, hk, rfl⟩ := hrel
      have k0 : (0 : Int) ≤ k := by omega
      by_cases hlt : k < n
      · have k1 : (k : Int) < n := by omega
        obtain ⟨b, off, rfl, _⟩ := HA.out.at_ (by omega)
        have hc := HA.out.mk k hlt
        have hx := HF.out (mkT s k) (mkT_lt s k) w
        rw [HL.out k hlt] at hx
        have HX := Lib.hid hx
        clear hx
        go_wp2_with fail
        refine HX.out.mono ?_
        rintro e w1 ⟨rfl, rfl⟩
        go_wp2_with fail
        go_round
        case rel => exact ⟨k + 1, by omega, by go_num⟩
        case measure => simp [intOf]; omega
      · obtain rfl : k = n := by omega
        go_wp2_with fail
        go_ret
        exact ⟨rfl, rfl⟩
/-- One is odd. -/
theorem spIndex_some (F : Nat) (p : Nat → Bool) (hFF : F = 126 ∨ F = 127) (hF : ∀ x : Nat, x < 256 → ∀ W : World, Calls Tryz.prog F #[.int .u8 x] W fun e w' => e = .returned (.bool (p x)) ∧ W = w') (a : Option Addr) (n c B : Nat) (s : List UInt8) (w : World) (hA : Bsl w B a n c s) (j : Nat) (hj : j < n) (hat : p (mkT s j) = true) (hall : ∀ i, i < j → p (mkT s i) = false) :
    Calls Tryz.prog 143 #[.slice a n c, .func (.func F) #[] #[]] w fun e w' => e = .returned (.int .i64 j) ∧ w = w' := by
  have n0 : (0 : Int) ≤ n := by omega
  have n1 := hA.len_le
  obtain ⟨b, off, rfl, _⟩ := hA.at_ (by omega)
  have HA := Lib.hid hA
  have HL := Lib.hid hall
  have HAT := Lib.hid hat
  have HF := Lib.hid hF
  clear hA hall hF hat
  rcases hFF with rfl | rfl
  all_goals
    go_enter Tryz.func143, Tryz.ntmps143
    go_wp2_with fail
    go_loop [8] (fun i => ∃ k : Nat, k ≤ j ∧ i = .int .i64 k) (fun i => n - (intOf i).toNat)
    case atStart => exact ⟨0, Nat.zero_le _, rfl⟩
    case round =>
      obtain ⟨k, hk, rfl⟩ := hrel
      have k0 : (0 : Int) ≤ k := by omega
      have hlt : k < n := by omega
      have k1 : (k : Int) < n := by omega
      have hc := HA.out.mk k hlt
      have hx := HF.out (mkT s k) (mkT_lt s k) w
      by_cases hkj : k < j
      · rw [HL.out k hkj] at hx
        have HX := Lib.hid hx
        clear hx
        go_wp2_with fail
        refine HX.out.mono ?_
        rintro e w1 ⟨rfl, rfl⟩
        go_wp2_with fail
        go_round
        case rel => exact ⟨k + 1, by omega, by go_num⟩
        case measure => simp [intOf]; omega
      · have hkj' : k = j := by omega
        rw [hkj', HAT.out] at hx
        rw [hkj'] at hc k0 k1 ⊢
        have HX := Lib.hid hx
        clear hx hkj hkj' hk hlt
        go_wp2_with fail
        refine HX.out.mono ?_
        rintro e w1 ⟨rfl, rfl⟩
        go_wp2_with fail
        go_ret
        exact ⟨rfl, rfl⟩
theorem spContains_none (F : Nat) (p : Nat → Bool) (hFF : F = 126 ∨ F = 127) (hF : ∀ x : Nat, x < 256 → ∀ W : World, Calls Tryz.prog F #[.int .u8 x] W fun e w' => e = .returned (.bool (p x)) ∧ W = w') (a : Option Addr) (n c B : Nat) (s : List UInt8) (w : World) (hA : Bsl w B a n c s) (hall : ∀ i, i < n → p (mkT s i) = false) :
    Calls Tryz.prog 125 #[.slice a n c, .func (.func F) #[] #[]] w fun e w' => e = .returned (.bool false) ∧ w = w' := by
  have HX := Lib.hid (spIndex_none F p hFF hF a n c B s w hA hall)
  clear hF hA hall hFF
  go_enter Tryz.func125, Tryz.ntmps125
  go_wp2_with fail
  refine HX.out.mono ?_
  rintro e w1 ⟨rfl, rfl⟩
  go_wp2_with fail
  go_ret
  exact ⟨rfl, rfl⟩
theorem spContains_some (F : Nat) (p : Nat → Bool) (hFF : F = 126 ∨ F = 127) (hF : ∀ x : Nat, x < 256 → ∀ W : World, Calls Tryz.prog F #[.int .u8 x] W fun e w' => e = .returned (.bool (p x)) ∧ W = w') (a : Option Addr) (n c B : Nat) (s : List UInt8) (w : World) (hA : Bsl w B a n c s) (i : Nat) (hi : i < n) (hat : p (mkT s i) = true) :
    Calls Tryz.prog 125 #[.slice a n c, .func (.func F) #[] #[]] w fun e w' => e = .returned (.bool true) ∧ w = w' := by
  rcases first_from (fun k => p (mkT s k) = true) 0 n with ⟨j, _, hj, hpj, hall⟩ | h
  · have HX := Lib.hid (spIndex_some F p hFF hF a n c B s w hA j hj hpj fun k hk => by simpa using hall k (by omega) hk)
    clear hF hA hall hat hFF
    have j0 : (0 : Int) ≤ j := by omega
    go_enter Tryz.func125, Tryz.ntmps125
    go_wp2_with fail
    refine HX.out.mono ?_
    rintro e w1 ⟨rfl, rfl⟩
    go_wp2_with fail
    go_ret
    exact ⟨rfl, rfl⟩
  · exact absurd hat (h i (by omega) hi)
/-- A table may be. -/
theorem spMay_yes (a : Option Addr) (n c B : Nat) (s : List UInt8) (w : World) (hA : Bsl w B a n c s) (h : MayT s) :
    Calls Tryz.prog 93 #[.slice a n c] w fun e w' => e = .returned (.bool true) ∧ w = w' := by
  have hn : n = 256 := by rw [← hA.1]; exact h.1
  subst hn
  obtain ⟨b, off, rfl, _⟩ := hA.at_ (by omega)
  have hc : 256 ≤ c := hA.2.1
  have H1 := Lib.hid (spContains_none 126 (fun x => decide (2 < x)) (.inl rfl) (fun x hx W => isNoMark_any x hx W) _ 256 c B s w hA fun i hi => decide_eq_false (by have := h.2.1 i hi; omega))
  have hp := hA.pre 12 (by omega)
  have H2 := Lib.hid (spContains_none 127 (fun x => decide (x ≠ 1)) (.inr rfl) (fun x hx W => isNotUsed_any x hx W) _ 12 c B (s.take 12) w hp fun i hi => by
    have e : mkT (s.take 12) i = mkT s i := by
      unfold mkT
      rw [List.getD_eq_getElem?_getD, List.getElem?_take_of_lt hi, List.getD_eq_getElem?_getD]
    rw [e, h.2.2 i hi]; rfl)
  have HS : ∀ W : World, (Instr.slice 27 (.slice (some ⟨b, off, none⟩) 256 c) none (some (.int .i64 12)) none).run Tryz.prog W = .ok (.slice (some ⟨b, off, none⟩) 12 c) W := fun W => slice_h W b off 256 c 12 (by omega) (by omega)
  clear hA hp h
  go_enter Tryz.func93, Tryz.ntmps93
  go_wp2_with fail
  refine H1.out.mono ?_
  rintro e w1 ⟨rfl, rfl⟩
  go_wp2_with fail
  refine H2.out.mono ?_
  rintro e w1 ⟨rfl, rfl⟩
  go_wp2_with fail
  go_ret
  exact ⟨rfl, rfl⟩
theorem not_may {s : List UInt8} (h : ¬ MayT s) (hl : s.length = 256) : (∃ i, i < 256 ∧ 2 < mkT s i) ∨ ((∀ i, i < 256 → mkT s i ≤ 2) ∧ ∃ i, i < 12 ∧ mkT s i ≠ 1) := by
  rcases first_from (fun i => 2 < mkT s i) 0 256 with ⟨k, _, hk, h2, _⟩ | h1
  · exact .inl ⟨k, hk, h2⟩
  · have h1' : ∀ i, i < 256 → mkT s i ≤ 2 := fun i hi => by have := h1 i (by omega) hi; omega
    rcases first_from (fun i => mkT s i ≠ 1) 0 12 with ⟨k, _, hk, h2, _⟩ | h3
    · exact .inr ⟨h1', k, hk, h2⟩
    · exact absurd ⟨hl, h1', fun i hi => by have := h3 i (by omega) hi; omega⟩ h
theorem spMay_no (a : Option Addr) (n c B : Nat) (s : List UInt8) (w : World) (hA : Bsl w B a n c s) (h : ¬ MayT s) :
    Calls Tryz.prog 93 #[.slice a n c] w fun e w' => e = .returned (.bool false) ∧ w = w' := by
  by_cases hn : n = 256
  · subst hn
    obtain ⟨b, off, rfl, _⟩ := hA.at_ (by omega)
    have hc : 256 ≤ c := hA.2.1
    rcases not_may h hA.1 with ⟨i, hi, h2⟩ | ⟨h1, i, hi, h2⟩
    · have H1 := Lib.hid (spContains_some 126 (fun x => decide (2 < x)) (.inl rfl) (fun x hx W => isNoMark_any x hx W) _ 256 c B s w hA i hi (decide_eq_true h2))
      clear hA h h2
      go_enter Tryz.func93, Tryz.ntmps93
      go_wp2_with fail
      refine H1.out.mono ?_
      rintro e w1 ⟨rfl, rfl⟩
      go_wp2_with fail
      go_ret
      exact ⟨rfl, rfl⟩
    · have H1 := Lib.hid (spContains_none 126 (fun x => decide (2 < x)) (.inl rfl) (fun x hx W => isNoMark_any x hx W) _ 256 c B s w hA fun i hi => decide_eq_false (by have := h1 i hi; omega))
      have hp := hA.pre 12 (by omega)
      have e : mkT (s.take 12) i = mkT s i := by
        unfold mkT
        rw [List.getD_eq_getElem?_getD, List.getElem?_take_of_lt hi, List.getD_eq_getElem?_getD]
      have H2 := Lib.hid (spContains_some 127 (fun x => decide (x ≠ 1)) (.inr rfl) (fun x hx W => isNotUsed_any x hx W) _ 12 c B (s.take 12) w hp i hi (by rw [e]; exact decide_eq_true h2))
      have HS : ∀ W : World, (Instr.slice 27 (.slice (some ⟨b, off, none⟩) 256 c) none (some (.int .i64 12)) none).run Tryz.prog W = .ok (.slice (some ⟨b, off, none⟩) 12 c) W := fun W => slice_h W b off 256 c 12 (by omega) (by omega)
      clear hA hp h e h1 h2
      go_enter Tryz.func93, Tryz.ntmps93
      go_wp2_with fail
      refine H1.out.mono ?_
      rintro e w1 ⟨rfl, rfl⟩
      go_wp2_with fail
      refine H2.out.mono ?_
      rintro e w1 ⟨rfl, rfl⟩
      go_wp2_with fail
      go_ret
      exact ⟨rfl, rfl⟩
  · have n1 := hA.len_le
    have hb : ((n : Int) == 256) = false := by simp; omega
    clear hA h hn
    go_enter Tryz.func93, Tryz.ntmps93
    go_wp2_with fail
    go_ret
    exact ⟨rfl, rfl⟩
end Go.Proofs.YtbggkfomfeeikaaGreatDoor
/-
  space's own: bytes.Clone, a table with another mark, New, the closure that tells the free blocks.
-/
namespace Go.Proofs.YtbggkfomfeeikaaGreatDoor
open Go.RowKit Go.Shelf
set_option maxRecDepth 100000

set_option maxHeartbeats 1000000 in
theorem spClone_any (a : Option Addr) (n c : Nat) (s : List UInt8) (w : World) (hA : Bsl w w.heap.size a n c s) (h0 : 0 < n) (hn : n ≤ 20000) : Calls Tryz.prog 111 #[.slice a n c] w (OwnV n s w) := by
  obtain ⟨b, off, rfl, _⟩ := hA.at_ h0
  have HA := Lib.hid hA.2.2.2
  have b0 := (Below.refl w.heap.size w).alloc (Nat.le_refl _) (.cells #[] 5)
  have HB0 := Lib.hid b0
  have HS := Lib.hid (hA.step b0)
  have HO0 := Lib.hid (own_empty w)
  have HQ : (binOp .eql 27 (.slice (some ⟨b, off, none⟩) n c) (.slice none 0 0)).run Tryz.prog w = .ok (.bool false) w := by kernel_rfl
  clear hA b0
  go_enter Tryz.func111, Tryz.ntmps111
  go_wp2_with (at_builtin
               refine wpList_append_bsl rfl (.tmp 5) (.tmp 6) rfl w.heap.size _ 0 _ rfl HO0.out _ (some ⟨b, off, none⟩) n c s rfl HS.out (by omega) HB0.out.size ?_
               intro v1 W1 hown1 hg1
               rw [Nat.zero_add, List.nil_append] at hown1
               have HB1 := Lib.hid (app_below HB0.out HO0.out hg1 HB0.out.size); clear hg1
               have HO1 := Lib.hid hown1; clear hown1)
  go_ret
  exact ⟨_, rfl, HO1.out, HB1.out⟩
/-- A row of the call's own in which one byte is written. -/
theorem own_put {w : World} {B n c g : Nat} {s : List UInt8} (h : w.ownsRow B 5 1 (.slice (some ⟨g, 0, none⟩) n c) n (vals s)) (i : Nat) (_hi : i < n) (y : UInt8) : (w.setCell ⟨g, i, none⟩ (.int .u8 (y.toNat : Int))).ownsRow B 5 1 (.slice (some ⟨g, 0, none⟩) n c) n (vals (s.set i y)) := by
  obtain ⟨h1, ⟨h2, h3⟩ | ⟨g', cap', cur, h2, hb, hh, hnc, hcm, hsz, ht⟩⟩ := h
  · cases h2
  · cases h2
    refine ⟨by simpa [vals] using h1, .inr ⟨g, c, cur.setIfInBounds i (.int .u8 (y.toNat : Int)), rfl, hb, Blk.set_ (g := g) (t := 5) hh i _, hnc, hcm, by simpa using hsz, ?_⟩⟩
    rw [Array.toList_setIfInBounds, List.take_set, vals, List.map_set]
    have e : List.take (n * 1) cur.toList = vals s := by simpa using ht
    rw [show (List.take (n * 1) cur.toList) = vals s from e]
    rfl
theorem own_mk {w : World} {B n c g : Nat} {s : List UInt8} (h : w.ownsRow B 5 1 (.slice (some ⟨g, 0, none⟩) n c) n (vals s)) (i : Nat) (hi : i < n) : w.cell? ⟨g, i, none⟩ = some (.int .u8 ((mkT s i : Nat) : Int)) := by
  have := (own_bsl h).mk i hi
  rwa [Nat.zero_add] at this
theorem own_at {w : World} {B n : Nat} {v : Value} {s : List UInt8} (h : w.ownsRow B 5 1 v n (vals s)) (h0 : 0 < n) : ∃ g c, v = .slice (some ⟨g, 0, none⟩) n c := by
  obtain ⟨g, c, e, _⟩ := bsl_of_own h h0
  exact ⟨g, c, e⟩
/-- A table with another mark, in new memory. -/
theorem spWith_any (a : Option Addr) (n c : Nat) (s : List UInt8) (k : Nat) (y : UInt8) (w : World) (hA : Bsl w w.heap.size a n c s) (hk : k < n) (hn : n ≤ 20000) : Calls Tryz.prog 95 #[.slice a n c, .int .i64 k, .int .u8 (y.toNat : Int)] w (OwnV n (s.set k y) w) := by
  have HC := Lib.hid (spClone_any a n c s w hA (by omega) hn)
  clear hA
  have k0 : (0 : Int) ≤ k := by omega
  have k1 : (k : Int) < n := by omega
  obtain ⟨z, hz⟩ : ∃ z : Int, (y.toNat : Int) = z := ⟨_, rfl⟩
  have HZ := Lib.hid hz
  rw [hz]
  clear hz
  go_enter Tryz.func95, Tryz.ntmps95
  go_wp2_with fail
  refine HC.out.mono ?_
  rintro e w1 ⟨v, rfl, ho, b1⟩
  obtain ⟨g, c', rfl⟩ := own_at ho (by omega)
  have hc := own_mk ho k hk
  have hw := own_put ho k hk y
  rw [HZ.out] at hw
  have hlt := own_lt ho
  have HB := Lib.hid (b1.setCell (p := ⟨g, k, none⟩) hlt.1 (.int .u8 z))
  have HO := Lib.hid hw
  have hf : w1.frozen? ⟨g, k, none⟩ = false := by
    obtain ⟨cs, hbk⟩ := own_blk ho
    exact hbk.frozen k
  clear ho b1 hw hlt
  go_wp2_with fail
  go_ret
  exact ⟨_, rfl, HO.out, HB.out⟩
set_option maxHeartbeats 1000000 in
theorem spNew_any (w : World) : Calls Tryz.prog 45 #[] w (OwnV 256 (newTo 12) w) := by
  have hmk : ∀ W : World, (Instr.makeSlice 27 (.int .i64 256) (.int .i64 256)).run Tryz.prog W = .ok (.slice (some ⟨W.heap.size, 0, none⟩) 256 256) (W.alloc (.cells (Array.replicate 256 (.int .u8 0)) 5)) := fun W => by kernel_rfl
  obtain ⟨g, hg⟩ : ∃ g, w.heap.size = g := ⟨_, rfl⟩
  obtain ⟨w1, hw1⟩ : ∃ w1, w.alloc (.cells (Array.replicate 256 (.int .u8 0)) 5) = w1 := ⟨_, rfl⟩
  have hown : w1.ownsRow g 5 1 (.slice (some ⟨g, 0, none⟩) 256 256) 256 (vals (newTo 0)) := by
    subst hw1; subst hg
    refine ⟨by simp [vals, newTo], .inr ⟨w.heap.size, 256, Array.replicate 256 (.int .u8 0), rfl, Nat.le_refl _, heap_alloc_new w _, Nat.le_refl _, by unfold maxLen; omega, by simp, ?_⟩⟩
    simp [newTo, vals]
  have hb : Below g w w1 := by
    subst hw1; subst hg
    exact (Below.refl _ w).alloc (Nat.le_refl _) _
  have HO := Lib.hid hown
  have HB := Lib.hid hb
  have HG := Lib.hid hg
  have hmk' : (Instr.makeSlice 27 (.int .i64 256) (.int .i64 256)).run Tryz.prog w = .ok (.slice (some ⟨g, 0, none⟩) 256 256) w1 := by rw [hmk w, hg, hw1]
  clear hown hb hmk hw1 hg
  go_enter Tryz.func45, Tryz.ntmps45
  go_wp2_with fail
  go_loopw [4] (fun i wr => ∃ k : Nat, k ≤ 12 ∧ i = .int .i64 k ∧ wr.ownsRow g 5 1 (.slice (some ⟨g, 0, none⟩) 256 256) 256 (vals (newTo k)) ∧ Below g w wr) (fun i _ => 12 - (intOf i).toNat)
  case atStart => exact ⟨0, Nat.zero_le _, rfl, HO.out, HB.out⟩
  case round =>
    obtain ⟨k, hk, rfl, ho, hb⟩ := hrel
    have k0 : (0 : Int) ≤ k := by omega
    by_cases hlt : k < 12
    · have k1 : (k : Int) < 12 := by omega
      have hc := own_mk ho k (by omega)
      have hw := own_put ho k (by omega) 1
      rw [newTo_set (by omega)] at hw
      have HB2 := Lib.hid (hb.setCell (p := ⟨g, k, none⟩) (Nat.le_refl _) (.int .u8 1))
      have HO2 := Lib.hid (show (wr.setCell ⟨g, k, none⟩ (.int .u8 1)).ownsRow g 5 1 (.slice (some ⟨g, 0, none⟩) 256 256) 256 (vals (newTo (k + 1))) from hw)
      have hf : wr.frozen? ⟨g, k, none⟩ = false := by
        obtain ⟨cs, hbk⟩ := own_blk ho
        exact hbk.frozen k
      clear ho hb hw
      go_wp2_with fail
      go_roundw
      case rel => exact ⟨k + 1, by omega, by go_num, HO2.out, HB2.out⟩
      case measure => simp [intOf]; omega
    · have hkk : k = 12 := by omega
      rw [hkk] at ho ⊢
      have HO2 := Lib.hid ho
      have HB2 := Lib.hid hb
      clear ho hb hkk hlt hk k0
      go_wp2_with fail
      go_ret
      exact ⟨_, rfl, by rw [HG.out]; exact HO2.out, by rw [HG.out]; exact HB2.out⟩
/-- The closure that tells the free blocks: its place lies in block gp, the table's slice in block gs. -/
theorem spOnes_any (a : Option Addr) (n c : Nat) (w : World) : Calls Tryz.prog 94 #[.slice a n c] w fun e w' => ∃ gp gs, e = .returned (.func (.func 128) #[] #[.pointer (some ⟨gp, 0, none⟩), .pointer (some ⟨gs, 0, none⟩)]) ∧ w.heap.size ≤ gp ∧ w.heap.size ≤ gs ∧ gp ≠ gs ∧ Blk w' gp 3 #[.int .i64 0] ∧ Blk w' gs 27 #[.slice a n c] ∧ Below w.heap.size w w' := by
  have b1 := (Below.refl w.heap.size w).alloc (Nat.le_refl _) (.cells #[.slice a n c] 27)
  have b2 := b1.alloc b1.size (.cells #[.int .i64 0] 3)
  have z1 := (Blk.new w 27 #[.slice a n c]).alloc (.cells #[.int .i64 0] 3)
  have z2 := Blk.new (w.alloc (.cells #[.slice a n c] 27)) 3 #[.int .i64 0]
  have HB := Lib.hid b2
  have HZ1 := Lib.hid z1
  have HZ2 := Lib.hid z2
  clear b1 b2 z1 z2
  go_enter Tryz.func94, Tryz.ntmps94
  go_wp2_with fail
  go_ret
  refine ⟨_, _, rfl, by simp, by simp, by simp, ?_, HZ1.out, HB.out⟩
  have h := HZ2.out
  rw [World.size_alloc] at h
  exact h
end Go.Proofs.YtbggkfomfeeikaaGreatDoor
/-
  The closure that tells the free blocks, called: the next one from its place on, or none.
-/
namespace Go.Proofs.YtbggkfomfeeikaaGreatDoor
open Go.RowKit Go.Shelf
set_option maxRecDepth 100000

/-- The number that a block keeps. -/
def keptAt (w : World) (g : Nat) : Nat := (intOf ((w.cell? ⟨g, 0, none⟩).getD undef)).toNat
theorem keptAt_blk {w : World} {g t k : Nat} (h : Blk w g t #[.int .i64 (k : Int)]) : keptAt w g = k := by
  unfold keptAt
  rw [h.cell 0]
  simp [intOf]
set_option maxHeartbeats 1000000 in
theorem spNext_some (gp gs B : Nat) (a : Option Addr) (n c : Nat) (s : List UInt8) (p k : Nat) (w : World) (hp : Blk w gp 3 #[.int .i64 (p : Int)]) (hs : Blk w gs 27 #[.slice a n c]) (hne : gp ≠ gs) (hA : Bsl w B a n c s) (hB : B ≤ gp)
    (h1 : p ≤ k) (h2 : k < n) (h3 : mkT s k = 0) (h4 : ∀ i, p ≤ i → i < k → mkT s i ≠ 0) :
    Calls Tryz.prog 128 #[.pointer (some ⟨gp, 0, none⟩), .pointer (some ⟨gs, 0, none⟩)] w fun e w' => e = .returned (.tuple #[.int .i64 k, .bool true]) ∧ w.grownBy w' (some gp) ∧ Blk w' gp 3 #[.int .i64 ((k + 1 : Nat) : Int)] := by
  have n1 := hA.len_le
  obtain ⟨b, off, rfl, hbB⟩ := hA.at_ (by omega)
  have HP := Lib.hid hp
  have HS := Lib.hid hs
  have HA := Lib.hid hA
  have HB := Lib.hid hB
  have HNE := Lib.hid hne
  have H3 := Lib.hid h3
  have H4 := Lib.hid h4
  clear hp hs hA hB hne h3 h4
  go_enter Tryz.func128, Tryz.ntmps128
  go_wp2_with fail
  go_loopw [4] (fun _ wr => ∃ j : Nat, p ≤ j ∧ j ≤ k ∧ w.grownBy wr (some gp) ∧ Blk wr gp 3 #[.int .i64 (j : Int)]) (fun _ wr => n - keptAt wr gp)
  case atStart => exact ⟨p, Nat.le_refl _, h1, World.grownBy.refl _ _, HP.out⟩
  case round =>
    obtain ⟨j, hj1, hj2, hg, hb⟩ := hrel
    have j0 : (0 : Int) ≤ j := by omega
    have j1 : (j : Int) < n := by omega
    have hlt : j < n := by omega
    have hkm := keptAt_blk hb
    have HKM := Lib.hid hkm
    clear hkm
    have c0 : wr.cell? ⟨gp, 0, none⟩ = some (.int .i64 (j : Int)) := hb.cell 0
    have hsr : Blk wr gs 27 #[.slice (some ⟨b, off, none⟩) n c] := HS.out.grown hg fun e => HNE.out (Option.some.inj e).symm
    have c1 : wr.cell? ⟨gs, 0, none⟩ = some (.slice (some ⟨b, off, none⟩) n c) := hsr.cell 0
    have c1' : (wr.setCell ⟨gp, 0, none⟩ (.int .i64 ((j : Int) + 1))).cell? ⟨gs, 0, none⟩ = some (.slice (some ⟨b, off, none⟩) n c) := (hsr.far (p := ⟨gp, 0, none⟩) (fun e => HNE.out e.symm) _).cell 0
    have hbg : b ≠ gp := by have := HB.out; omega
    have hcell : (wr.setCell ⟨gp, 0, none⟩ (.int .i64 ((j : Int) + 1))).cell? ⟨b, off + j, none⟩ = some (.int .u8 ((mkT s j : Nat) : Int)) := by
      rw [← HA.out.mk j hlt]
      have hbl : b < w.heap.size := by
        have h := HA.out.mk j hlt
        obtain ⟨o, ho, _⟩ := cells_of_cell h
        exact (Array.getElem?_eq_some_iff.1 ho).1
      have e1 : (wr.setCell ⟨gp, 0, none⟩ (.int .i64 ((j : Int) + 1))).heap[b]? = w.heap[b]? := (Below.heap_setCell wr ⟨gp, 0, none⟩ _ b hbg).trans (hg.block b hbl (fun e => hbg (Option.some.inj e)))
      exact World.cell?_of_block (a := ⟨b, off + j, none⟩) e1
    have hw : IntKind.i64.wrap ((j : Int) + 1) = (j : Int) + 1 := IntWalk.i64_in _ (by omega)
    have hg2 : w.grownBy (wr.setCell ⟨gp, 0, none⟩ (.int .i64 ((j : Int) + 1))) (some gp) := only_setCell hg (.inl rfl) _
    have hb2 := hb.set_ 0 (.int .i64 ((j : Int) + 1))
    have hb2' : Blk (wr.setCell ⟨gp, 0, none⟩ (.int .i64 ((j : Int) + 1))) gp 3 #[.int .i64 ((j + 1 : Nat) : Int)] := by
      have e : ((j + 1 : Nat) : Int) = (j : Int) + 1 := by omega
      rw [e]; exact hb2
    have hf := hb.frozen 0
    have HG2 := Lib.hid hg2
    have HB2 := Lib.hid hb2'
    clear hg hb hsr hg2 hb2 hb2' hbg
    by_cases hjk : j = k
    · rw [hjk] at c0 j0 j1 hlt c1' hcell hw HG2 HB2
      rw [H3.out] at hcell
      clear HKM hj1 hj2 hjk
      go_wp2_with fail
      go_ret2
      exact ⟨rfl, HG2.out, HB2.out⟩
    · have hz := H4.out j hj1 (by omega)
      obtain ⟨x, hx⟩ : ∃ x : Nat, mkT s j = x := ⟨_, rfl⟩
      rw [hx] at hcell hz
      have hzz : ((x : Int) == 0) = false := by simp; omega
      clear hx hz
      go_wp2_with fail
      go_roundw
      case rel => exact ⟨j + 1, by omega, by omega, HG2.out, HB2.out⟩
      case measure =>
        rw [keptAt_blk HB2.out, HKM.out]
        omega
set_option maxHeartbeats 1000000 in
theorem spNext_none (gp gs B : Nat) (a : Option Addr) (n c : Nat) (s : List UInt8) (p : Nat) (w : World) (hp : Blk w gp 3 #[.int .i64 (p : Int)]) (hs : Blk w gs 27 #[.slice a n c]) (hne : gp ≠ gs) (hA : Bsl w B a n c s) (hB : B ≤ gp)
    (h1 : p ≤ n) (h4 : ∀ i, p ≤ i → i < n → mkT s i ≠ 0) :
    Calls Tryz.prog 128 #[.pointer (some ⟨gp, 0, none⟩), .pointer (some ⟨gs, 0, none⟩)] w fun e w' => e = .returned (.tuple #[.int .i64 0, .bool false]) ∧ w.grownBy w' (some gp) ∧ Blk w' gp 3 #[.int .i64 (n : Int)] := by
  have n1 := hA.len_le
  have HP := Lib.hid hp
  have HS := Lib.hid hs
  have HA := Lib.hid hA
  have HB := Lib.hid hB
  have HNE := Lib.hid hne
  have H4 := Lib.hid h4
  clear hp hs hA hB hne h4
  go_enter Tryz.func128, Tryz.ntmps128
  go_wp2_with fail
  go_loopw [4] (fun _ wr => ∃ j : Nat, p ≤ j ∧ j ≤ n ∧ w.grownBy wr (some gp) ∧ Blk wr gp 3 #[.int .i64 (j : Int)]) (fun _ wr => n - keptAt wr gp)
  case atStart => exact ⟨p, Nat.le_refl _, h1, World.grownBy.refl _ _, HP.out⟩
  case round =>
    obtain ⟨j, hj1, hj2, hg, hb⟩ := hrel
    have j0 : (0 : Int) ≤ j := by omega
    have hkm := keptAt_blk hb
    have HKM := Lib.hid hkm
    clear hkm
    have c0 : wr.cell? ⟨gp, 0, none⟩ = some (.int .i64 (j : Int)) := hb.cell 0
    have hsr : Blk wr gs 27 #[.slice a n c] := HS.out.grown hg fun e => HNE.out (Option.some.inj e).symm
    have c1 : wr.cell? ⟨gs, 0, none⟩ = some (.slice a n c) := hsr.cell 0
    by_cases hlt : j < n
    · obtain ⟨b, off, rfl, hbB⟩ := HA.out.at_ (by omega)
      have j1 : (j : Int) < n := by omega
      have c1' : (wr.setCell ⟨gp, 0, none⟩ (.int .i64 ((j : Int) + 1))).cell? ⟨gs, 0, none⟩ = some (.slice (some ⟨b, off, none⟩) n c) := (hsr.far (p := ⟨gp, 0, none⟩) (fun e => HNE.out e.symm) _).cell 0
      have hbg : b ≠ gp := by have := HB.out; omega
      have hcell : (wr.setCell ⟨gp, 0, none⟩ (.int .i64 ((j : Int) + 1))).cell? ⟨b, off + j, none⟩ = some (.int .u8 ((mkT s j : Nat) : Int)) := by
        rw [← HA.out.mk j hlt]
        have hbl : b < w.heap.size := by
          have h := HA.out.mk j hlt
          obtain ⟨o, ho, _⟩ := cells_of_cell h
          exact (Array.getElem?_eq_some_iff.1 ho).1
        have e1 : (wr.setCell ⟨gp, 0, none⟩ (.int .i64 ((j : Int) + 1))).heap[b]? = w.heap[b]? := (Below.heap_setCell wr ⟨gp, 0, none⟩ _ b hbg).trans (hg.block b hbl (fun e => hbg (Option.some.inj e)))
        exact World.cell?_of_block (a := ⟨b, off + j, none⟩) e1
      have hw : IntKind.i64.wrap ((j : Int) + 1) = (j : Int) + 1 := IntWalk.i64_in _ (by omega)
      have hg2 : w.grownBy (wr.setCell ⟨gp, 0, none⟩ (.int .i64 ((j : Int) + 1))) (some gp) := only_setCell hg (.inl rfl) _
      have hb2 := hb.set_ 0 (.int .i64 ((j : Int) + 1))
      have hb2' : Blk (wr.setCell ⟨gp, 0, none⟩ (.int .i64 ((j : Int) + 1))) gp 3 #[.int .i64 ((j + 1 : Nat) : Int)] := by
        have e : ((j + 1 : Nat) : Int) = (j : Int) + 1 := by omega
        rw [e]; exact hb2
      have hf := hb.frozen 0
      have HG2 := Lib.hid hg2
      have HB2 := Lib.hid hb2'
      clear hg hb hsr hg2 hb2 hb2' hbg
      have hz := H4.out j hj1 hlt
      obtain ⟨x, hx⟩ : ∃ x : Nat, mkT s j = x := ⟨_, rfl⟩
      rw [hx] at hcell hz
      have hzz : ((x : Int) == 0) = false := by simp; omega
      clear hx hz
      go_wp2_with fail
      go_roundw
      case rel => exact ⟨j + 1, by omega, by omega, HG2.out, HB2.out⟩
      case measure =>
        rw [keptAt_blk HB2.out, HKM.out]
        omega
    · have hjn : j = n := by omega
      rw [hjn] at c0 hb j0
      have HG2 := Lib.hid hg
      have HB2 := Lib.hid hb
      clear hg hb hsr HKM hlt hjn hj1 hj2
      go_wp2_with fail
      go_ret2
      exact ⟨rfl, HG2.out, HB2.out⟩
end Go.Proofs.YtbggkfomfeeikaaGreatDoor
/-
  What space's calls answer: Check, Free, Take, Give, Settle.
-/
namespace Go.Proofs.YtbggkfomfeeikaaGreatDoor
open Go.RowKit Go.Shelf
set_option maxRecDepth 100000

/-- A table of the call's own, a block's number, and an error's number. -/
def OutTk (c : Nat) (x : List UInt8) (k : Nat) (w : World) (e : Ending) (w' : World) : Prop := ∃ v, e = .returned (.tuple #[v, .int .i64 k, .int .i64 c]) ∧ w'.ownsRow w.heap.size 5 1 v x.length (vals x) ∧ Below w.heap.size w w'
theorem MayT.len_of {w : World} {B n c : Nat} {a : Option Addr} {s : List UInt8} (h : MayT s) (hA : Bsl w B a n c s) : n = 256 := by rw [← hA.1]; exact h.1

theorem spCheck_yes (a : Option Addr) (n c B : Nat) (s : List UInt8) (w : World) (hA : Bsl w B a n c s) (h : MayT s) : Calls Tryz.prog 64 #[.slice a n c] w fun e w' => e = .returned (.int .i64 0) ∧ w = w' := by
  have HM := Lib.hid (spMay_yes a n c B s w hA h)
  clear hA h
  go_enter Tryz.func64, Tryz.ntmps64
  go_wp2_with fail
  refine HM.out.mono ?_
  rintro e w1 ⟨rfl, rfl⟩
  go_wp2_with fail
  go_ret
  exact ⟨rfl, rfl⟩
theorem spCheck_no (a : Option Addr) (n c B : Nat) (s : List UInt8) (w : World) (hA : Bsl w B a n c s) (h : ¬ MayT s) : Calls Tryz.prog 64 #[.slice a n c] w fun e w' => e = .returned (.int .i64 8) ∧ w = w' := by
  have HM := Lib.hid (spMay_no a n c B s w hA h)
  clear hA h
  go_enter Tryz.func64, Tryz.ntmps64
  go_wp2_with fail
  refine HM.out.mono ?_
  rintro e w1 ⟨rfl, rfl⟩
  go_wp2_with fail
  go_ret
  exact ⟨rfl, rfl⟩

theorem spTake_full (a : Option Addr) (n c : Nat) (s : List UInt8) (w : World) (hA : Bsl w w.heap.size a n c s) (h : MayT s) (h0 : ∀ i, i < 256 → mkT s i ≠ 0) : Calls Tryz.prog 66 #[.slice a n c] w (OutTk 9 [] 0 w) := by
  have HM := Lib.hid (spMay_yes a n c _ s w hA h)
  have hn := h.len_of hA
  subst hn
  have HF := Lib.hid (spOnes_any a 256 c w)
  have HA := Lib.hid hA
  have H0 := Lib.hid h0
  clear hA h h0
  go_enter Tryz.func66, Tryz.ntmps66
  go_wp2_with fail
  refine HM.out.mono ?_
  rintro e w1 ⟨rfl, rfl⟩
  go_wp2_with fail
  refine HF.out.mono ?_
  rintro e w1 ⟨gp, gs, rfl, hgp, hgs, hne, hp, hs, b1⟩
  have HX := Lib.hid (spNext_none gp gs w.heap.size a 256 c s 0 w1 hp hs hne (HA.out.below b1) hgp (Nat.zero_le _) fun i _ hi => H0.out i hi)
  have HB := Lib.hid b1
  have HG := Lib.hid hgp
  clear hgs hne hp hs b1 hgp
  go_wp2_with fail
  refine HX.out.mono ?_
  rintro e w2 ⟨rfl, hg, _⟩
  have HB2 := Lib.hid (below_only HB.out HG.out hg HB.out.size)
  clear hg
  go_wp2_with fail
  go_ret3
  exact ⟨_, rfl, World.ownsRow_nil _ _ _ _, HB2.out⟩
theorem spTake_ok (a : Option Addr) (n c : Nat) (s : List UInt8) (k : Nat) (w : World) (hA : Bsl w w.heap.size a n c s) (h : MayT s) (hk : k < 256) (hz : mkT s k = 0) (h0 : ∀ i, i < k → mkT s i ≠ 0) : Calls Tryz.prog 66 #[.slice a n c] w (OutTk 0 (s.set k 1) k w) := by
  have HM := Lib.hid (spMay_yes a n c _ s w hA h)
  have hn := h.len_of hA
  subst hn
  have hl : (s.set k 1).length = 256 := by simp [h.1]
  have HL := Lib.hid hl
  have HF := Lib.hid (spOnes_any a 256 c w)
  have HA := Lib.hid hA
  have H0 := Lib.hid h0
  have HZ := Lib.hid hz
  clear hA h h0 hz hl
  go_enter Tryz.func66, Tryz.ntmps66
  go_wp2_with fail
  refine HM.out.mono ?_
  rintro e w1 ⟨rfl, rfl⟩
  go_wp2_with fail
  refine HF.out.mono ?_
  rintro e w1 ⟨gp, gs, rfl, hgp, hgs, hne, hp, hs, b1⟩
  have HX := Lib.hid (spNext_some gp gs w.heap.size a 256 c s 0 k w1 hp hs hne (HA.out.below b1) hgp (Nat.zero_le _) hk HZ.out fun i _ hi => H0.out i hi)
  have HB := Lib.hid b1
  have HG := Lib.hid hgp
  clear hgs hne hp hs b1 hgp
  go_wp2_with fail
  refine HX.out.mono ?_
  rintro e w2 ⟨rfl, hg, _⟩
  have HB2 := Lib.hid (below_only HB.out HG.out hg HB.out.size)
  clear hg
  have HW := Lib.hid (spWith_any a 256 c s k 1 w2 (HA.out.step HB2.out) hk (by omega))
  go_wp2_with fail
  refine HW.out.mono ?_
  rintro e w3 ⟨v, rfl, ho, b3⟩
  have HO := Lib.hid (own_mono ho HB2.out.size)
  have HB3 := Lib.hid (HB2.out.trans (b3.mono HB2.out.size))
  clear ho b3
  go_wp2_with fail
  go_ret3
  exact ⟨_, rfl, by rw [HL.out]; exact HO.out, HB3.out⟩

end Go.Proofs.YtbggkfomfeeikaaGreatDoor
/-
  The document's own Great for layer 9: a disk that is not great has few blocks, few writes, few bytes.
-/
namespace Go.Proofs.YtbggkfomfeeikaaGreatDoor
open Go.RowKit Go.Shelf
set_option maxRecDepth 100000

/-- No piece of a disk is longer than what memory there is. -/
def Near (D : DkL) : Prop := (∀ i, i < D.1.length → (D.1.getD i []).length ≤ 140737488351232) ∧ ∀ i, i < D.2.length → (wr_ D.2 i).2.length ≤ 140737488351232
/-- What a disk that is not great is. -/
def Small (D : DkL) : Prop := D.1.length ≤ 500 ∧ (D.2.length ≤ 500 ∨ 4096 ≤ D.2.length) ∧ D.2.length ≤ 4106 ∧ sumD D < 2000000
/-- What Great answers: if it is no, the disk is small. -/
def GreatSays (D : DkL) (w : World) (e : Ending) (w' : World) : Prop := ∃ b, e = .returned (.bool b) ∧ (b = false → Small D) ∧ Below w.heap.size w w'
theorem small_fits {D : DkL} (h : Small D) : Fits D := ⟨by have := h.1; omega, by have := h.2.2.1; omega, by have := h.2.2.2; omega⟩
theorem great_yes {D : DkL} {w w' : World} (hb : Below w.heap.size w w') : GreatSays D w (.returned (.bool true)) w' := ⟨true, rfl, fun h => (by cases h), hb⟩
set_option maxHeartbeats 4000000 in
theorem rdGreat_any (x : DAt) (D : DkL) (w : World) (h : Dsk w w.heap.size x D) (hnear : Near D) : Calls Tryz.prog 33 #[dval x D] w (GreatSays D w) := by
  obtain ⟨ba, bc, wa, wc⟩ := x
  simp only [dval]
  have l1 := h.1.len_le
  have l2 := h.2.len_le
  obtain ⟨n, hn⟩ : ∃ n, D.1.length = n := ⟨_, rfl⟩
  obtain ⟨m, hm⟩ : ∃ m, D.2.length = m := ⟨_, rfl⟩
  rw [hn] at l1
  rw [hm] at l2
  have n0 : (0 : Int) ≤ n := by omega
  have m0 : (0 : Int) ≤ m := by omega
  have b0 := (Below.refl w.heap.size w).alloc (Nat.le_refl _) (.cells #[.slice ba D.1.length bc, .slice wa D.2.length wc] 26)
  have x0 := Blk.new w 26 #[.slice ba D.1.length bc, .slice wa D.2.length wc]
  have h0 := h.step b0
  rw [hn, hm] at b0 x0 h0 ⊢
  obtain ⟨w0, hw0⟩ : ∃ w0, w.alloc (.cells #[.slice ba n bc, .slice wa m wc] 26) = w0 := ⟨_, rfl⟩
  rw [hw0] at b0 x0 h0
  have c0 := x0.cell 0
  have c1 := x0.cell 1
  obtain ⟨hB, hW⟩ := h0
  simp only [hn, hm] at hB hW
  have HB := Lib.hid hB
  have HW := Lib.hid hW
  have HBl := Lib.hid b0
  have HN := Lib.hid hn
  have HM := Lib.hid hm
  have HNEAR := Lib.hid hnear
  clear h b0 x0 hB hW hn hm hnear
  by_cases hn5 : (500 : Int) < n
  · go_enter Tryz.func33, Tryz.ntmps33
    go_wp2_with fail
    go_ret
    exact great_yes HBl.out
  · by_cases hmid : (500 : Int) < m ∧ (m : Int) < 4096
    · obtain ⟨hm5, hm4⟩ := hmid
      go_enter Tryz.func33, Tryz.ntmps33
      go_wp2_with fail
      go_ret
      exact great_yes HBl.out
    · by_cases hm6 : (4106 : Int) < m
      · have hm5 : (500 : Int) < m := by omega
        have hm4 : ¬ (m : Int) < 4096 := by omega
        clear hmid
        go_enter Tryz.func33, Tryz.ntmps33
        go_wp2_with fail
        go_ret
        exact great_yes HBl.out
      · have hdim : n ≤ 500 ∧ (m ≤ 500 ∨ 4096 ≤ m) ∧ m ≤ 4106 := by omega
        have HDIM := Lib.hid hdim
        have hmb : (500 : Int) < m → ¬ (m : Int) < 4096 := fun hh hk => hmid ⟨hh, hk⟩
        clear hmid hdim
        by_cases hm5 : (500 : Int) < m
        all_goals
          first
            | have hm4 : ¬ (m : Int) < 4096 := hmb hm5
            | have hm4 : True := trivial
          clear hmb
          go_enter Tryz.func33, Tryz.ntmps33
          go_wp2_with fail
          clear hw0 hm4 hm5 hm6 hn5
          go_loop [3, 4] (fun t i => ∃ k : Nat, k ≤ n ∧ i = .int .i64 k ∧ t = .int .i64 (sumB D.1 k : Nat) ∧ sumB D.1 k ≤ 140737490351232) (fun _ i => n - (intOf i).toNat)
          case atStart => exact ⟨0, Nat.zero_le _, rfl, rfl, by simp [sumB]⟩
          case round =>
            obtain ⟨k, hk, rfl, rfl, hts⟩ := hrel
            have k0 : (0 : Int) ≤ k := by omega
            obtain ⟨t, ht⟩ : ∃ t, sumB D.1 k = t := ⟨_, rfl⟩
            rw [ht] at hts ⊢
            have t0 : (0 : Int) ≤ t := by omega
            have t1 : (t : Int) ≤ 140737490351232 := by omega
            by_cases hlt : k < n ∧ t < 2000000
            · obtain ⟨hlt, ht2⟩ := hlt
              have k1 : (k : Int) < n := by omega
              have t2 : (t : Int) < 2000000 := by omega
              obtain ⟨b, off, A, l, c', s, rfl, _, hl, hc, hA⟩ := HB.out.at_ hlt
              have hle := HNEAR.out.1 k (by rw [HN.out]; exact hlt)
              rw [hl, hA.1] at hle
              have hs : sumB D.1 (k + 1) = t + l := by rw [sumB, hl, hA.1, ht]
              have l0 : (0 : Int) ≤ l := by omega
              have l1 : (l : Int) ≤ 140737488351232 := by omega
              have HS := Lib.hid hs
              clear hl hA hs ht
              go_wp2_with fail
              go_round
              case rel => exact ⟨k + 1, by omega, by go_num, by rw [HS.out]; go_num, by rw [HS.out]; omega⟩
              case measure => simp [intOf]; omega
            · have hend : k = n ∨ 2000000 ≤ t := by omega
              have HEND := Lib.hid hend
              have HT := Lib.hid ht
              have hgo : ((k : Int) < n → ¬ (t : Int) < 2000000) := by omega
              clear hend ht hlt
              by_cases hkn : (k : Int) < n
              all_goals
                first
                  | have t3 : ¬ (t : Int) < 2000000 := hgo hkn
                  | have t3 : True := trivial
                clear hgo
                go_wp2_with fail
                clear hkn t3
                go_loop [3, 5] (fun u i => ∃ j : Nat, j ≤ m ∧ i = .int .i64 j ∧ u = .int .i64 (t + sumW D.2 j : Nat) ∧ t + sumW D.2 j ≤ 281474980702464) (fun _ i => m - (intOf i).toNat)
                case atStart => exact ⟨0, Nat.zero_le _, rfl, rfl, by simp [sumW]; omega⟩
                case round =>
                  obtain ⟨j, hj, rfl, rfl, hus⟩ := hrel
                  have j0 : (0 : Int) ≤ j := by omega
                  obtain ⟨u, hu⟩ : ∃ u, t + sumW D.2 j = u := ⟨_, rfl⟩
                  rw [hu] at hus ⊢
                  have u0 : (0 : Int) ≤ u := by omega
                  have u1 : (u : Int) ≤ 281474980702464 := by omega
                  by_cases hlt : j < m ∧ u < 2000000
                  · obtain ⟨hlt, hu2⟩ := hlt
                    have j1 : (j : Int) < m := by omega
                    have u2 : (u : Int) < 2000000 := by omega
                    obtain ⟨b, off, p, A, l, c', s, rfl, _, hl, _, hc, hd, hA⟩ := HW.out.at_ hlt
                    have hle := HNEAR.out.2 j (by rw [HM.out]; exact hlt)
                    rw [hl, hA.1] at hle
                    have hs : t + sumW D.2 (j + 1) = u + l := by rw [sumW, hl, hA.1, ← Nat.add_assoc, hu]
                    have l0 : (0 : Int) ≤ l := by omega
                    have l1 : (l : Int) ≤ 140737488351232 := by omega
                    have HS := Lib.hid hs
                    clear hl hA hs hu
                    go_wp2_with fail
                    go_round
                    case rel => exact ⟨j + 1, by omega, by go_num, by rw [HS.out]; go_num, by rw [HS.out]; omega⟩
                    case measure => simp [intOf]; omega
                  · have hend2 : j = m ∨ 2000000 ≤ u := by omega
                    have hsay : decide ((2000000 : Int) ≤ u) = false → Small D := by
                      intro hh
                      have hu3 : ¬ (2000000 : Int) ≤ u := by simpa using hh
                      have hju : j = m := by omega
                      have e1 := HEND.out
                      have hkn : k = n := by omega
                      obtain ⟨d1, d2, d3⟩ := HDIM.out
                      refine ⟨by rw [HN.out]; exact d1, by rw [HM.out]; exact d2, by rw [HM.out]; exact d3, ?_⟩
                      unfold sumD
                      rw [HN.out, HM.out, ← hju, ← hkn, HT.out]
                      omega
                    have hgo2 : ((j : Int) < m → ¬ (u : Int) < 2000000) := by omega
                    have HSAY := Lib.hid hsay
                    clear hsay hend2 hlt hu
                    by_cases hjm : (j : Int) < m
                    all_goals
                      first
                        | have u3 : ¬ (u : Int) < 2000000 := hgo2 hjm
                        | have u3 : True := trivial
                      clear hgo2
                      go_wp2_with fail
                      go_ret
                      first | exact ⟨_, rfl, HSAY.out, HBl.out⟩ | exact great_yes HBl.out
end Go.Proofs.YtbggkfomfeeikaaGreatDoor
/-
  The document's own functions of layer 13: May, Check, Great.
-/
namespace Go.Proofs.YtbggkfomfeeikaaGreatDoor
open Go.RowKit Go.Shelf
set_option maxRecDepth 100000

theorem st_box (w : World) (x : SAt) (S : StL) : Blk (w.alloc (.cells (stC x S) 30)) w.heap.size 30 (stC x S) ∧ Below w.heap.size w (w.alloc (.cells (stC x S) 30)) := ⟨Blk.new w _ _, (Below.refl _ w).alloc (Nat.le_refl _) _⟩
section
variable {w : World} {g : Nat} {t : TypeId} {x : SAt} {S : StL}
theorem stC0 (h : Blk w g t (stC x S)) : w.cell? ⟨g, 0, none⟩ = some (.slice x.d.ba S.1.1.length x.d.bc) := h.cell 0
theorem stC1 (h : Blk w g t (stC x S)) : w.cell? ⟨g, 1, none⟩ = some (.slice x.d.wa S.1.2.length x.d.wc) := h.cell 1
theorem stC2 (h : Blk w g t (stC x S)) : w.cell? ⟨g, 2, none⟩ = some (.slice x.a S.2.1.length x.c) := h.cell 2
theorem stC3 (h : Blk w g t (stC x S)) : w.cell? ⟨g, 3, none⟩ = some (.int .u32 (S.2.2.1 : Int)) := h.cell 3
theorem stC4 (h : Blk w g t (stC x S)) : w.cell? ⟨g, 4, none⟩ = some (.int .u32 (S.2.2.2 : Int)) := h.cell 4
end
/-- What Great answers: if it is no, the store is small. -/
def GreatSt (S : StL) (w : World) (e : Ending) (w' : World) : Prop := ∃ b, e = .returned (.bool b) ∧ (b = false → Small S.1 ∧ S.2.1.length ≤ 10000) ∧ Below w.heap.size w w'
set_option maxHeartbeats 1000000 in
theorem rtGreat_any (L : Nat) (x : SAt) (S : StL) (w : World) (h : StP L w x S) (hn : Near S.1) : Calls Tryz.prog 14 #[stV x S] w (GreatSt S w) := by
  obtain ⟨xb, b0⟩ := st_box w x S
  obtain ⟨w0, hw0⟩ : ∃ w0, w.alloc (.cells (stC x S) 30) = w0 := ⟨_, rfl⟩
  rw [hw0] at xb b0
  have h0 := h.bel b0
  have c0 := stC0 xb
  have c1 := stC1 xb
  have HX := Lib.hid xb
  have HB := Lib.hid b0
  have HS := Lib.hid h0
  have hm := rdGreat_any x.d S.1 w0 h0.now.1 hn
  simp only [dval] at hm
  have HM := Lib.hid hm
  have l1 := h0.now.2.len_le
  clear hm hn
  simp only [stC] at hw0
  clear h h0 xb b0
  go_enter Tryz.func14, Tryz.ntmps14
  go_wp2_with fail
  clear c0 c1
  refine HM.out.mono ?_
  rintro e w1 ⟨r, rfl, hs, b1⟩
  have c2 := stC2 (HX.out.below b1 HX.out.lt)
  have HB1 := Lib.hid (HB.out.trans (b1.mono HB.out.size))
  clear b1
  cases r with
  | true =>
    clear hs
    go_wp2_with fail
    go_ret
    exact ⟨true, rfl, fun h => (by cases h), HB1.out⟩
  | false =>
    have HSM := Lib.hid (hs rfl)
    clear hs
    by_cases h5 : (10000 : Int) < (S.2.1.length : Int)
    · go_wp2_with fail
      go_ret
      exact ⟨true, rfl, fun h => (by cases h), HB1.out⟩
    · have h6 : S.2.1.length ≤ 10000 := by omega
      have H6 := Lib.hid h6
      have h7 : (S.2.1.length : Int) ≤ 10000 := by omega
      clear h5 h6
      go_wp2_with fail
      go_ret
      exact ⟨false, by simp; omega, fun _ => ⟨HSM.out, H6.out⟩, HB1.out⟩
end Go.Proofs.YtbggkfomfeeikaaGreatDoor
/-
  The document's own functions of layer 13: New, Twin, Same.
-/
namespace Go.Proofs.YtbggkfomfeeikaaGreatDoor
open Go.RowKit Go.Shelf
set_option maxRecDepth 100000

/-- The cells of a store that is none. -/
abbrev stZ : Array Value := #[.slice none 0 0, .slice none 0 0, .slice none 0 0, .int .u32 0, .int .u32 0]
/-- The cells of a pointer that is none. -/
abbrev ptZ : Array Value := #[.int .i64 0, .int .u32 0, .int .u32 0, .int .u32 0, .int .u32 0]
theorem two_al (w : World) (a b : Array Value) (s t : TypeId) : ∃ w0, (w.alloc (.cells a s)).alloc (.cells b t) = w0 ∧ Below w.heap.size w w0 ∧ w0.heap.size = w.heap.size + 2 ∧ Blk w0 w.heap.size s a ∧ Blk w0 (w.heap.size + 1) t b := by
  refine ⟨_, rfl, ((Below.refl _ w).alloc (Nat.le_refl _) _).alloc (by simp) _, by simp, (Blk.new w s a).alloc _, ?_⟩
  have h := Blk.new (w.alloc (.cells a s)) t b
  rw [World.size_alloc] at h
  exact h
theorem three_al (w : World) (a b c : Array Value) (s t u : TypeId) : ∃ w0, ((w.alloc (.cells a s)).alloc (.cells b t)).alloc (.cells c u) = w0 ∧ Below w.heap.size w w0 ∧ w0.heap.size = w.heap.size + 3 ∧ Blk w0 w.heap.size s a ∧ Blk w0 (w.heap.size + 1) t b ∧ Blk w0 (w.heap.size + 2) u c := by
  obtain ⟨w1, h1, b1, z1, x1, y1⟩ := two_al w a b s t
  rw [h1]
  have h := Blk.new w1 u c
  rw [z1] at h
  exact ⟨_, rfl, b1.trans (((Below.refl _ w1).alloc (Nat.le_refl _) _).mono b1.size), by simp [z1], x1.alloc _, y1.alloc _, h⟩
section
variable {w : World} {g : Nat} {t : TypeId}
theorem stZ0 (h : Blk w g t stZ) : w.cell? ⟨g, 0, none⟩ = some (.slice none 0 0) := h.cell 0
theorem stZ1 (h : Blk w g t stZ) : w.cell? ⟨g, 1, none⟩ = some (.slice none 0 0) := h.cell 1
theorem stZ2 (h : Blk w g t stZ) : w.cell? ⟨g, 2, none⟩ = some (.slice none 0 0) := h.cell 2
theorem stZ3 (h : Blk w g t stZ) : w.cell? ⟨g, 3, none⟩ = some (.int .u32 0) := h.cell 3
theorem stZ4 (h : Blk w g t stZ) : w.cell? ⟨g, 4, none⟩ = some (.int .u32 0) := h.cell 4
theorem ptZ0 (h : Blk w g t ptZ) : w.cell? ⟨g, 0, none⟩ = some (.int .i64 0) := h.cell 0
theorem ptZ1 (h : Blk w g t ptZ) : w.cell? ⟨g, 1, none⟩ = some (.int .u32 0) := h.cell 1
theorem ptZ2 (h : Blk w g t ptZ) : w.cell? ⟨g, 2, none⟩ = some (.int .u32 0) := h.cell 2
theorem ptZ3 (h : Blk w g t ptZ) : w.cell? ⟨g, 3, none⟩ = some (.int .u32 0) := h.cell 3
theorem ptZ4 (h : Blk w g t ptZ) : w.cell? ⟨g, 4, none⟩ = some (.int .u32 0) := h.cell 4
end
/-- Cells of a box are written: it stays a box, and what lasts lasts. -/
theorem box_two {L B g : Nat} {a w : World} {t : TypeId} {c0 c1 c2 c3 c4 : Value} (h : Blk w g t #[c0, c1, c2, c3, c4]) (ht : rowT t = false) (hL : L ≤ g) (hB : Below B a w) (hg : B ≤ g) (u v : Value) :
    Blk ((w.setCell ⟨g, 0, none⟩ u).setCell ⟨g, 1, none⟩ v) g t #[u, v, c2, c3, c4] ∧ Keeps L w ((w.setCell ⟨g, 0, none⟩ u).setCell ⟨g, 1, none⟩ v) ∧ Below B a ((w.setCell ⟨g, 0, none⟩ u).setCell ⟨g, 1, none⟩ v) :=
  ⟨(h.set_ 0 u).set_ 1 v, Keeps.of_box (only_two w g u v) h ht hL, (hB.setCell (p := ⟨g, 0, none⟩) hg u).setCell (p := ⟨g, 1, none⟩) hg v⟩
theorem box_at {L B g : Nat} {a w : World} {t : TypeId} {cs : Array Value} (h : Blk w g t cs) (ht : rowT t = false) (hL : L ≤ g) (hB : Below B a w) (hg : B ≤ g) (i : Nat) (u : Value) :
    Blk (w.setCell ⟨g, i, none⟩ u) g t (cs.setIfInBounds i u) ∧ Keeps L w (w.setCell ⟨g, i, none⟩ u) ∧ Below B a (w.setCell ⟨g, i, none⟩ u) :=
  ⟨h.set_ i u, Keeps.of_box (only_setCell (World.grownBy.refl w (some g)) (.inl rfl) u) h ht hL, hB.setCell (p := ⟨g, i, none⟩) hg u⟩
theorem box_five {L B g : Nat} {a w : World} {t : TypeId} {c0 c1 c2 c3 c4 : Value} (h : Blk w g t #[c0, c1, c2, c3, c4]) (ht : rowT t = false) (hL : L ≤ g) (hB : Below B a w) (hg : B ≤ g) (v0 v1 v2 v3 v4 : Value) :
    Blk (set5 w g v0 v1 v2 v3 v4) g t #[v0, v1, v2, v3, v4] ∧ Keeps L w (set5 w g v0 v1 v2 v3 v4) ∧ Below B a (set5 w g v0 v1 v2 v3 v4) :=
  ⟨h.set5 v0 v1 v2 v3 v4, Keeps.of_box (only_set5 (World.grownBy.refl w (some g)) v0 v1 v2 v3 v4) h ht hL, below_set5 hB hg v0 v1 v2 v3 v4⟩
section
variable {w : World} {g : Nat} {t : TypeId} {c0 c1 c2 c3 c4 : Value}
theorem bx0 (h : Blk w g t #[c0, c1, c2, c3, c4]) : w.cell? ⟨g, 0, none⟩ = some c0 := h.cell 0
theorem bx1 (h : Blk w g t #[c0, c1, c2, c3, c4]) : w.cell? ⟨g, 1, none⟩ = some c1 := h.cell 1
theorem bx2 (h : Blk w g t #[c0, c1, c2, c3, c4]) : w.cell? ⟨g, 2, none⟩ = some c2 := h.cell 2
theorem bx3 (h : Blk w g t #[c0, c1, c2, c3, c4]) : w.cell? ⟨g, 3, none⟩ = some c3 := h.cell 3
theorem bx4 (h : Blk w g t #[c0, c1, c2, c3, c4]) : w.cell? ⟨g, 4, none⟩ = some c4 := h.cell 4
end
end Go.Proofs.YtbggkfomfeeikaaGreatDoor
/-
  Stores of one's own whose bytes are turned: what is written, and what goes on; law 13's spoil.
-/
namespace Go.Proofs.YtbggkfomfeeikaaGreatDoor
open Go.RowKit Go.Shelf
set_option maxRecDepth 100000

/-- Bytes of blocks from B on are turned, and nothing else. -/
structure Spoils (B : Nat) (w w' : World) : Prop where
  below : Below B w w'
  box : ∀ b t cs, Blk w b t cs → t ≠ 5 → Blk w' b t cs
  row : ∀ b cs, Blk w b 5 cs → ∃ cs', Blk w' b 5 cs' ∧ ∀ (j : Nat) (z : Int), cs[j]? = some (Value.int .u8 z) → ∃ z', cs'[j]? = some (Value.int .u8 z')
theorem Spoils.refl (B : Nat) (w : World) : Spoils B w w := ⟨Below.refl _ _, fun _ _ _ h _ => h, fun _ cs h => ⟨cs, h, fun _ z hz => ⟨z, hz⟩⟩⟩
theorem Spoils.trans {B : Nat} {a b c : World} (h : Spoils B a b) (k : Spoils B b c) : Spoils B a c :=
  ⟨h.below.trans k.below, fun i t cs hi ht => k.box i t cs (h.box i t cs hi ht) ht, fun i cs hi => by
    obtain ⟨cs1, h1, h2⟩ := h.row i cs hi
    obtain ⟨cs2, h3, h4⟩ := k.row i cs1 h1
    exact ⟨cs2, h3, fun j z hz => by obtain ⟨z1, hz1⟩ := h2 j z hz; exact h4 j z1 hz1⟩⟩
theorem Spoils.of_below {B : Nat} {w w' : World} (h : Below w.heap.size w w') (hB : B ≤ w.heap.size) : Spoils B w w' :=
  ⟨h.mono hB, fun _ _ _ hb _ => hb.below h hb.lt, fun _ cs hb => ⟨cs, hb.below h hb.lt, fun _ z hz => ⟨z, hz⟩⟩⟩
theorem Spoils.less {B B' : Nat} {w w' : World} (h : Spoils B w w') (hB : B' ≤ B) : Spoils B' w w' := ⟨h.below.mono hB, h.box, h.row⟩
/-- Bytes of one's own. -/
def Piece (w : World) (B : Nat) (A : Option Addr) (l : Nat) : Prop := l = 0 ∨ ∃ b off cs, A = some ⟨b, off, none⟩ ∧ B ≤ b ∧ Blk w b 5 cs ∧ ∀ j, j < l → ∃ z, cs[off + j]? = some (.int .u8 z)
theorem Piece.at_ {w : World} {B : Nat} {A : Option Addr} {l : Nat} (h : Piece w B A l) {j : Nat} (hj : j < l) : ∃ b off cs z, A = some ⟨b, off, none⟩ ∧ B ≤ b ∧ Blk w b 5 cs ∧ w.cell? ⟨b, off + j, none⟩ = some (.int .u8 z) := by
  rcases h with h | ⟨b, off, cs, e, hB, hb, hc⟩
  · omega
  · obtain ⟨z, hz⟩ := hc j hj
    exact ⟨b, off, cs, z, e, hB, hb, by rw [hb.cell]; exact hz⟩
/-- A row of slices of bytes of one's own: the row is in a block of its own, and so are all the bytes; st: how far a slice lies from the next one, at: where in it. -/
def Rows9 (w : World) (B : Nat) (a : Option Addr) (n : Nat) (t : TypeId) (st at_ : Nat) (L : Nat → Nat) : Prop :=
  n = 0 ∨ ∃ b off cs, a = some ⟨b, off, none⟩ ∧ Blk w b t cs ∧ ∀ i, i < n → ∃ A c, cs[off + i * st + at_]? = some (.slice A (L i) c) ∧ Piece w B A (L i)
theorem Rows9.at_ {w : World} {B : Nat} {a : Option Addr} {n : Nat} {t : TypeId} {st q : Nat} {L : Nat → Nat} (h : Rows9 w B a n t st q L) {i : Nat} (hi : i < n) : ∃ b off A c, a = some ⟨b, off, none⟩ ∧ w.cell? ⟨b, off + i * st + q, none⟩ = some (.slice A (L i) c) ∧ Piece w B A (L i) := by
  rcases h with h | ⟨b, off, cs, e, hb, hc⟩
  · omega
  · obtain ⟨A, c, h1, h2⟩ := hc i hi
    exact ⟨b, off, A, c, e, by rw [hb.cell]; exact h1, h2⟩
/-- A store of one's own: all its bytes lie from block B on. -/
def HiS (w : World) (B : Nat) (x : SAt) (S : StL) : Prop :=
  Rows9 w B x.d.ba S.1.1.length 27 1 0 (fun i => (S.1.1.getD i []).length) ∧ Rows9 w B x.d.wa S.1.2.length 91 2 1 (fun i => (wr_ S.1.2 i).2.length) ∧ Piece w B x.a S.2.1.length
end Go.Proofs.YtbggkfomfeeikaaGreatDoor
/-
  Disks that are laid in one new piece, and rows of one's own, are one's own: all their bytes may be turned.
-/
namespace Go.Proofs.YtbggkfomfeeikaaGreatDoor
open Go.RowKit Go.Shelf
set_option maxRecDepth 100000

theorem piece_own {w : World} {B n c : Nat} {a : Option Addr} {s : List UInt8} (h : w.ownsRow B 5 1 (.slice a n c) n (vals s)) : Piece w B a n := by
  rcases Nat.eq_zero_or_pos n with h0 | h0
  · exact .inl h0
  · obtain ⟨g, c', e⟩ := own_at h h0
    cases e
    obtain ⟨cs, hcs⟩ := own_blk h
    refine .inr ⟨g, 0, cs, rfl, (own_lt h).1, hcs, fun j hj => ⟨(mkT s j : Nat), ?_⟩⟩
    rw [Nat.zero_add, ← hcs.cell]
    exact own_mk h j hj
theorem laid_hi {w : World} {lo : Nat} {x : DAt} {D : DkL} (h : Laid w lo x D) :
    Rows9 w lo x.ba D.1.length 27 1 0 (fun i => (D.1.getD i []).length) ∧ Rows9 w lo x.wa D.2.length 91 2 1 (fun i => (wr_ D.2 i).2.length) := by
  obtain ⟨g, hb, hw, rfl, k1, k2, k3, h1, h2, h3, h4, h5, ⟨cb, h6, h7, h8⟩, cw, h9, h10, h11⟩ := h
  have hst : startP (pieces D) (D.1.length + D.2.length) = sumD D := startP_sumD D
  have hpc : ∀ i v, i < D.1.length + D.2.length → PieceV g (pieces D) i v → ∃ A c, v = .slice A ((pieces D).getD i []).length c ∧ Piece w lo A ((pieces D).getD i []).length := by
    rintro i v hi ⟨o, e, ho⟩
    refine ⟨_, _, e, ?_⟩
    rcases Nat.eq_zero_or_pos ((pieces D).getD i []).length with h0 | h0
    · exact .inl h0
    · have hs := startP_succ (P := pieces D) (k := i) (by rw [pieces_length]; exact hi)
      have hm := startP_mono (P := pieces D) (show i + 1 ≤ D.1.length + D.2.length by omega)
      have ho' := ho h0
      refine .inr ⟨g, o, _, rfl, k1, h5, fun j hj => ?_⟩
      have hlt : o + j < (roomP (pieces D) (sumD D) (D.1.length + D.2.length)).length := by
        rw [roomP_length (by rw [hst]; exact Nat.le_refl _)]
        omega
      exact ⟨_, ar_get _ _ hlt⟩
  refine ⟨.inr ⟨hb, 0, cb, rfl, h6, fun i hi => ?_⟩, .inr ⟨hw, 0, cw, rfl, h9, fun i hi => ?_⟩⟩
  · obtain ⟨v, e1, e2⟩ := h8 i hi
    obtain ⟨A, c, rfl, hp⟩ := hpc i v (by omega) e2
    rw [pieces_left hi] at e1 hp
    exact ⟨A, c, by simpa using e1, hp⟩
  · obtain ⟨_, v, e1, e2⟩ := h11 i hi
    obtain ⟨A, c, rfl, hp⟩ := hpc (D.1.length + i) v (by omega) e2
    rw [pieces_right hi] at e1 hp
    exact ⟨A, c, by simpa using e1, hp⟩
theorem outD_hi {w : World} {lo : Nat} {x : DAt} {D : DkL} (h : OutD w lo x D) :
    Rows9 w lo x.ba D.1.length 27 1 0 (fun i => (D.1.getD i []).length) ∧ Rows9 w lo x.wa D.2.length 91 2 1 (fun i => (wr_ D.2 i).2.length) := by
  rcases h with ⟨rfl, rfl⟩ | h
  · exact ⟨.inl rfl, .inl rfl⟩
  · exact laid_hi h
end Go.Proofs.YtbggkfomfeeikaaGreatDoor
/-
  What the program's own calls on stores answer: a store of one's own (all its bytes in new blocks), which lasts; with a pointer, with an error's number.
-/
namespace Go.Proofs.YtbggkfomfeeikaaGreatDoor
open Go.RowKit Go.Shelf
set_option maxRecDepth 100000

/-- What is asked of a store that the program is handed: it is not great. -/
def OkS (S : StL) : Prop := Fits S.1 ∧ S.2.1.length ≤ 20000 ∧ WfS S
theorem MayS.ok {S : StL} (h : MayS S) : OkS S := ⟨may_fits h.1, by rw [h.2.1.1]; omega, by have := h.2.2.1.2; omega, by have := h.2.2.2; omega⟩
/-- A store of one's own. -/
def NewS (S : StL) (w : World) (e : Ending) (w' : World) : Prop := ∃ y, e = .returned (stV y S) ∧ StP 0 w' y S ∧ HiS w' w.heap.size y S ∧ Below w.heap.size w w'
/-- A store of one's own, a pointer, an error's number. -/
def NewSP (o : StL × Pt × Nat) (w : World) (e : Ending) (w' : World) : Prop := ∃ y, e = .returned (.tuple #[stV y o.1, ptV o.2.1, .int .i64 o.2.2]) ∧ StP 0 w' y o.1 ∧ HiS w' w.heap.size y o.1 ∧ Below w.heap.size w w'
theorem StP.any {L : Nat} {w : World} {x : SAt} {S : StL} (h : StP 0 w x S) : StP L w x S := h.less (Nat.zero_le _)
/-- The new store. -/
abbrev newS : StL := (newD, newTo 12, 1, 0)
theorem newS_may : MayS newS := ⟨newD_may, new_may, ⟨Nat.le_refl _, by show 1 ≤ 65535; omega⟩, Nat.zero_le _⟩
theorem laid_keeps {L lo : Nat} {w w' : World} {x : DAt} {D : DkL} (h : Laid w lo x D) (k : Keeps L w w') : Laid w' lo x D := by
  obtain ⟨g, hb, hw, rfl, h0, h1, h2, h3, h4, h5, h6, h7, ⟨cb, h8, h9, h10⟩, cw, h11, h12, h13⟩ := h
  exact ⟨g, hb, hw, rfl, h0, h1, h2, h3, h4, h5, h6, k.row _ _ _ h7 (by decide), ⟨cb, k.row _ _ _ h8 (by decide), h9, h10⟩, cw, k.row _ _ _ h11 (by decide), h12, h13⟩
theorem outD_keeps {L lo : Nat} {w w' : World} {x : DAt} {D : DkL} (h : OutD w lo x D) (k : Keeps L w w') : OutD w' lo x D := h.imp id fun h => laid_keeps h k
end Go.Proofs.YtbggkfomfeeikaaGreatDoor
/-
  The chapter's dataset as plain lists: what is laid, what its root's row and its object are, what is young in it.
-/
namespace Go.Proofs.YtbggkfomfeeikaaGreatDoor
open Go.RowKit Go.Shelf
set_option maxRecDepth 100000

/-- All blocks from number k on are free, and none below it. -/
def Fill (S : StL) (k : Nat) : Prop := MayS S ∧ (∀ i, i < 256 → (mkT S.2.1 i = 0 ↔ k ≤ i)) ∧ S.1.2.length ≤ k
theorem fill_new : Fill newS 12 := ⟨newS_may, fun i hi => by
  show mkT (newTo 12) i = 0 ↔ _
  rw [newTo_mk i hi]
  split <;> omega, Nat.zero_le _⟩
theorem fill_lay {S : StL} {k : Nat} (h : Fill S k) (hk : 12 ≤ k ∧ k < 256) {birth : Nat} (hb : 1 ≤ birth ∧ birth ≤ 16777215) {b : List UInt8} (hl : b.length = 256) :
    rawO S birth 0 0 b = (putAt S k b, ((k : Int), birth, 0, 0, sumOf b), 0) ∧ Fill (putAt S k b) (k + 1) := by
  obtain ⟨hm, hi, hw⟩ := h
  refine ⟨?_, putAt_may hm hk hl (by omega), fun i hi2 => ?_, ?_⟩
  · unfold rawO
    rw [if_pos hm, if_pos hb, if_pos hl, putS_some (k := k) hk.2 ((hi k hk.2).2 (Nat.le_refl _)) (fun i hik h0 => by have := (hi i (by omega)).1 h0; omega) (by omega)]
    rfl
  · rw [put_mark hm.2.1.1 hk.2]
    split
    · omega
    · rw [hi i hi2]; omega
  · show (S.1.2 ++ [((k : Int), b)]).length ≤ k + 1
    rw [List.length_append, List.length_singleton]
    omega
def madeP (k birth : Nat) (b : List UInt8) : Pt := ((k : Int), birth, 0, 0, sumOf b)
def madeO (Z : List UInt8) : ObL := (1, 0, 0, ((List.replicate 15 p0).set 0 (madeP 12 3 Z)).set 4 (madeP 13 5 Z))
def madeT (Z : List UInt8) : Pt := madeP 14 5 (blockOb (madeO Z))
def madeL (Z : List UInt8) : List Pt := [p0, p0, madeT Z]
def madeW (Z : List UInt8) : List UInt8 := rowTo (madeL Z) 3
def madeR (Z : List UInt8) : Pt := madeP 15 5 (madeW Z)
@[reducible] def madeS1 (Z : List UInt8) : StL := putAt newS 12 Z
@[reducible] def madeS2 (Z : List UInt8) : StL := putAt (madeS1 Z) 13 Z
@[reducible] def madeS3 (Z : List UInt8) : StL := putAt (madeS2 Z) 14 (blockOb (madeO Z))
@[reducible] def madeS (Z : List UInt8) : StL := putAt (madeS3 Z) 15 (madeW Z)
theorem madeP_may {k birth : Nat} (hk : 12 ≤ k ∧ k < 256) (hb : 1 ≤ birth ∧ birth ≤ 16777215) (b : List UInt8) : MayP (madeP k birth b) := ptr_may hk hb 0 0 _
theorem madeP_not {k birth : Nat} (hb : 1 ≤ birth) (b : List UInt8) : madeP k birth b ≠ p0 := ptr_not hb 0 0 _
theorem madeP_wf {k birth : Nat} (hk : k < 256) (hb : birth ≤ 16777215) (b : List UInt8) : WfP (madeP k birth b) :=
  ⟨⟨by show -9223372036854775808 ≤ (k : Int); omega, by show (k : Int) ≤ 9223372036854775807; omega⟩, by show birth < _; omega, by show 0 < _; omega, by show 0 < _; omega, sumOf_lt _⟩
theorem madeO_mem {Z : List UInt8} {q : Pt} (h : q ∈ (madeO Z).2.2.2) : q = p0 ∨ q = madeP 12 3 Z ∨ q = madeP 13 5 Z := by
  rcases List.mem_or_eq_of_mem_set h with h | h
  · rcases List.mem_or_eq_of_mem_set h with h | h
    · exact .inl (List.eq_of_mem_replicate h)
    · exact .inr (.inl h)
  · exact .inr (.inr h)
theorem madeO_may (Z : List UInt8) : MayOb (madeO Z) := ⟨⟨by show 1 ≤ 1 ∧ 1 ≤ 7; omega, by show (0 : Int) ≤ 0 ∧ (0 : Int) ≤ 255; omega, by show (0 : Int) ≤ 0 ∧ (0 : Int) ≤ 3840; omega, rfl⟩, fun q h => by
  rcases madeO_mem h with rfl | rfl | rfl
  · exact may_p0
  · exact madeP_may (by omega) (by omega) _
  · exact madeP_may (by omega) (by omega) _⟩
theorem madeO_wf (Z : List UInt8) : WfOb (madeO Z) := ⟨by show 1 < 256; omega, by show (-9223372036854775808 : Int) ≤ 0 ∧ (0 : Int) ≤ 9223372036854775807; omega, by show (-9223372036854775808 : Int) ≤ 0 ∧ (0 : Int) ≤ 9223372036854775807; omega⟩
theorem madeO_pts (Z : List UInt8) : ∀ q ∈ (madeO Z).2.2.2, WfP q := fun q h => by
  rcases madeO_mem h with rfl | rfl | rfl
  · exact wf_p0
  · exact madeP_wf (by omega) (by omega) _
  · exact madeP_wf (by omega) (by omega) _
theorem madeL_may (Z : List UInt8) : ∀ q ∈ madeL Z, MayP q := fun q h => by
  simp only [madeL, List.mem_cons, List.not_mem_nil, or_false] at h
  rcases h with rfl | rfl | rfl
  · exact may_p0
  · exact may_p0
  · exact madeP_may (by omega) (by omega) _
theorem madeL_wf (Z : List UInt8) : ∀ q ∈ madeL Z, WfP q := fun q h => by
  simp only [madeL, List.mem_cons, List.not_mem_nil, or_false] at h
  rcases h with rfl | rfl | rfl
  · exact wf_p0
  · exact wf_p0
  · exact madeP_wf (by omega) (by omega) _
theorem madeL_row (Z : List UInt8) : rowO (madeL Z) = (madeW Z, 0) := by
  unfold rowO
  rw [if_neg (by show ¬ 16 < 3; omega), if_pos (madeL_may Z)]
  rfl
theorem madeW_len (Z : List UInt8) : (madeW Z).length = 256 := rowTo_length (madeL Z) 3 (Nat.le_refl _) (by omega)
section
variable {Z : List UInt8} (hZ : Z.length = 256)
include hZ
theorem made_lay1 : rawO newS 3 0 0 Z = (madeS1 Z, madeP 12 3 Z, 0) ∧ Fill (madeS1 Z) 13 := fill_lay fill_new (by omega) (by omega) hZ
theorem made_lay2 : rawO (madeS1 Z) 5 0 0 Z = (madeS2 Z, madeP 13 5 Z, 0) ∧ Fill (madeS2 Z) 14 := fill_lay (made_lay1 hZ).2 (by omega) (by omega) hZ
theorem made_lay3 : rawO (madeS2 Z) 5 0 0 (blockOb (madeO Z)) = (madeS3 Z, madeT Z, 0) ∧ Fill (madeS3 Z) 15 := fill_lay (made_lay2 hZ).2 (by omega) (by omega) (blockOb_length _)
theorem made_lay4 : rawO (madeS3 Z) 5 0 0 (madeW Z) = (madeS Z, madeR Z, 0) ∧ Fill (madeS Z) 16 := fill_lay (made_lay3 hZ).2 (by omega) (by omega) (madeW_len Z)
theorem made_may : MayS (madeS Z) := (made_lay4 hZ).2.1
end
theorem made_row (Z : List UInt8) : rowSO (madeS Z) (madeR Z) = (fillL (madeL Z), 0) := by
  have h1 : seenO (madeS Z) (madeR Z) = (madeW Z, 0) := seenO_put (madeS3 Z) (by omega) 0 0 (madeW Z)
  have h2 : rowsO (madeW Z) = (fillL (madeL Z), 0) := rowsO_row (by show 3 ≤ 16; omega) (madeL_may Z) (madeL_wf Z)
  have hne : madeR Z ≠ p0 := madeP_not (by omega) _
  unfold rowSO
  rw [if_neg hne, h1, if_neg (fun h => h rfl), h2, if_neg (fun h => h rfl)]
theorem madeS_one (Z : List UInt8) : oneSO (madeS Z) (madeT Z) = (madeO Z, 0) := by
  have h1 : seenO (madeS Z) (madeT Z) = (blockOb (madeO Z), 0) := by
    have hf : seenO (madeS Z) (madeT Z) = seenO (madeS3 Z) (madeT Z) := seenO_far (madeS3 Z) (k := 15) (b := madeW Z) (p := madeT Z) (madeP_may (by omega) (by omega) _) (by show ((14 : Nat) : Int) ≠ ((15 : Nat) : Int); omega)
    rw [hf]
    exact seenO_put (madeS2 Z) (by omega) 0 0 (blockOb (madeO Z))
  unfold oneSO
  rw [h1, if_neg (fun h => h rfl), read_block (madeO_may Z) (madeO_pts Z), if_neg (fun h => h rfl)]
theorem yng_made {k birth a : Nat} (hb : 1 ≤ birth) (b : List UInt8) : Yng a (madeP k birth b) ↔ a < birth := ⟨fun h => h.2, fun h => ⟨madeP_not hb b, h⟩⟩
theorem made_data (Z : List UInt8) (a : Nat) : dataY a (madeO Z).2.2.2 = (if a < 3 then [madeP 12 3 Z] else []) ++ (if a < 5 then [madeP 13 5 Z] else []) := by
  have e : (madeO Z).2.2.2 = [madeP 12 3 Z, p0, p0, p0, madeP 13 5 Z, p0, p0, p0, p0, p0, p0, p0, p0, p0, p0] := rfl
  have hn : decide (Yng a p0) = false := decide_eq_false (yng_p0 a)
  have h1 : decide (Yng a (madeP 12 3 Z)) = decide (a < 3) := by rw [decide_eq_decide]; exact yng_made (by omega) Z
  have h2 : decide (Yng a (madeP 13 5 Z)) = decide (a < 5) := by rw [decide_eq_decide]; exact yng_made (by omega) Z
  unfold dataY
  rw [e]
  simp only [List.filter_cons, hn, h1, h2, List.filter_nil, Bool.false_eq_true, if_false, decide_eq_true_eq]
  by_cases h3 : a < 3
  · simp [h3, show a < 5 by omega]
  · by_cases h5 : a < 5 <;> simp [h3, h5]
theorem made_flat (Z : List UInt8) (a : Nat) : (fillL (madeL Z)).flatMap (chunkS (madeS Z) a) = chunkS (madeS Z) a (madeT Z) := by
  have e : fillL (madeL Z) = [p0, p0, madeT Z, p0, p0, p0, p0, p0, p0, p0, p0, p0, p0, p0, p0, p0] := rfl
  have hn : chunkS (madeS Z) a p0 = [] := by unfold chunkS; rw [if_neg (yng_p0 a)]
  rw [e]
  simp only [List.flatMap_cons, List.flatMap_nil, hn, List.nil_append, List.append_nil]
theorem made_errs (Z : List UInt8) (a : Nat) : ∀ q ∈ fillL (madeL Z), Yng a q → (oneSO (madeS Z) q).2 = 0 := by
  have e : fillL (madeL Z) = [p0, p0, madeT Z, p0, p0, p0, p0, p0, p0, p0, p0, p0, p0, p0, p0, p0] := rfl
  rw [e]
  intro q hq hy
  simp only [List.mem_cons, List.not_mem_nil, or_false] at hq
  have : q = p0 ∨ q = madeT Z := by rcases hq with h | h | h | h | h | h | h | h | h | h | h | h | h | h | h | h <;> first | exact .inl h | exact .inr h
  rcases this with rfl | rfl
  · exact absurd hy (yng_p0 a)
  · rw [madeS_one]
/-- What is young in the chapter's dataset. -/
theorem made_young (Z : List UInt8) {a : Nat} (ha : a < 5) : youngSO (madeS Z) (madeR Z) a = (madeR Z :: madeT Z :: ((if a < 3 then [madeP 12 3 Z] else []) ++ [madeP 13 5 Z]), 0) := by
  have hy : Yng a (madeR Z) := (yng_made (by omega) _).2 ha
  have ht : Yng a (madeT Z) := (yng_made (by omega) _).2 ha
  rw [youngSO_row hy (made_row Z) (made_errs Z a), made_flat]
  unfold chunkS
  rw [if_pos ht, madeS_one, made_data, if_pos ha]
theorem made_old (Z : List UInt8) : youngSO (madeS Z) (madeR Z) 5 = ([], 0) := by
  have hn : ¬ Yng 5 (madeR Z) := fun h => absurd ((yng_made (by omega) _).1 h) (by omega)
  unfold youngSO
  rw [if_pos hn]
end Go.Proofs.YtbggkfomfeeikaaGreatDoor
/-
  The document's own Seen, Look, Opened and Open of layer 13.
-/
namespace Go.Proofs.YtbggkfomfeeikaaGreatDoor
open Go.RowKit Go.Shelf
set_option maxRecDepth 100000

/-- The cells of a pointer. -/
abbrev ptA (p : Pt) : Array Value := #[.int .i64 p.1, .int .u32 (p.2.1 : Int), .int .u32 (p.2.2.1 : Int), .int .u32 (p.2.2.2.1 : Int), .int .u32 (p.2.2.2.2 : Int)]
theorem outBE_no (c : Nat) {w w' : World} (hb : Below w.heap.size w w') : OutBE ([], c) w (.returned (.tuple #[.slice none 0 0, .int .i64 c])) w' := ⟨_, rfl, World.ownsRow_nil _ _ _ _, hb⟩
theorem seenO_len {S : StL} {p : Pt} (hm : MayS S) (hp : MayP p) {B : List UInt8} (h : seenO S p = (B, 0)) : B.length = 256 := by
  unfold seenO at h
  split at h
  · cases h
  · rename_i hp0
    obtain ⟨k, h1, _, h2⟩ := mayP_at hp hp0
    split at h
    · cases h
      rw [show p.1.toNat = k by omega]
      exact leftD_length hm.1 _ h2
    · cases h
end Go.Proofs.YtbggkfomfeeikaaGreatDoor
/-
  The document's own May, Check and Same of layer 14.
-/
namespace Go.Proofs.YtbggkfomfeeikaaGreatDoor
open Go.RowKit Go.Shelf
set_option maxRecDepth 100000

section
variable {w : World} {g : Nat} {t : TypeId} {c0 c1 c2 c3 : Value}
theorem ox0 (h : Blk w g t #[c0, c1, c2, c3]) : w.cell? ⟨g, 0, none⟩ = some c0 := h.cell 0
theorem ox1 (h : Blk w g t #[c0, c1, c2, c3]) : w.cell? ⟨g, 1, none⟩ = some c1 := h.cell 1
theorem ox2 (h : Blk w g t #[c0, c1, c2, c3]) : w.cell? ⟨g, 2, none⟩ = some c2 := h.cell 2
theorem ox3 (h : Blk w g t #[c0, c1, c2, c3]) : w.cell? ⟨g, 3, none⟩ = some c3 := h.cell 3
end
end Go.Proofs.YtbggkfomfeeikaaGreatDoor
/-
  obj's own: whether an object may be (closures over its parts, slices.ContainsFunc over its pointers), Check, and Same with slices.Equal.
-/
namespace Go.Proofs.YtbggkfomfeeikaaGreatDoor
open Go.RowKit Go.Shelf
set_option maxRecDepth 100000

theorem obWithin_any (n lo hi : Int) (w : World) (R : Bool) (hR : R = true ↔ lo ≤ n ∧ n ≤ hi) : Calls Tryz.prog 72 #[.int .i64 n, .int .i64 lo, .int .i64 hi] w fun e w' => e = .returned (.bool R) ∧ w = w' := by
  by_cases h1 : lo ≤ n
  · by_cases h2 : n ≤ hi
    · obtain rfl : R = true := hR.2 ⟨h1, h2⟩
      clear hR
      go_enter Tryz.func72, Tryz.ntmps72
      go_wp2_with fail
      go_ret
      exact ⟨rfl, rfl⟩
    · obtain rfl : R = false := by cases R with | false => rfl | true => exact absurd (hR.1 rfl).2 h2
      clear hR
      have h3 : decide (n ≤ hi) = false := decide_eq_false h2
      go_enter Tryz.func72, Tryz.ntmps72
      go_wp2_with fail
      go_ret
      exact ⟨rfl, rfl⟩
  · obtain rfl : R = false := by cases R with | false => rfl | true => exact absurd (hR.1 rfl).1 h1
    clear hR
    have h3 : decide (lo ≤ n) = false := decide_eq_false h1
    go_enter Tryz.func72, Tryz.ntmps72
    go_wp2_with fail
    go_ret
    exact ⟨rfl, rfl⟩
theorem obWrong_any (p : Pt) (w : World) (R : Bool) (hR : R = true ↔ ¬ MayP p) : Calls Tryz.prog 73 #[ptV p] w fun e w' => e = .returned (.bool R) ∧ Below w.heap.size w w' := by
  have hb1 : Below w.heap.size w (w.alloc (.cells (ptC p).toArray 32)) := (Below.refl _ w).alloc (Nat.le_refl _) _
  have HB := Lib.hid hb1; clear hb1
  have hc := Check_any p (w.alloc (.cells (ptC p).toArray 32))
  rw [pcheckO] at hc
  by_cases h : MayP p
  · rw [if_pos h] at hc
    obtain rfl : R = false := by cases R with | false => rfl | true => exact absurd h (hR.1 rfl)
    clear hR h
    obtain ⟨a, b, c, d, e⟩ := p
    have HM := Lib.hid hc; clear hc
    go_enter Tryz.func73, Tryz.ntmps73
    go_wp2_with (go_at_call 50; refine HM.out.mono ?_; rintro ev w1 ⟨rfl, b1⟩; have HB1 := Lib.hid (HB.out.trans (b1.mono (by simp [ptC]))); clear b1)
    go_ret
    exact ⟨rfl, HB1.out⟩
  · rw [if_neg h] at hc
    obtain rfl : R = true := hR.2 h
    clear hR h
    obtain ⟨a, b, c, d, e⟩ := p
    have HM := Lib.hid hc; clear hc
    go_enter Tryz.func73, Tryz.ntmps73
    go_wp2_with (go_at_call 50; refine HM.out.mono ?_; rintro ev w1 ⟨rfl, b1⟩; have HB1 := Lib.hid (HB.out.trans (b1.mono (by simp [ptC]))); clear b1)
    go_ret
    exact ⟨rfl, HB1.out⟩
def IxP (R : Bool) (z : Int) : Prop := (R = true → z = -1) ∧ (R = false → 0 ≤ z)
set_option maxHeartbeats 2000000 in
theorem obIndex_any (a : Option Addr) (n c : Nat) (L : List Pt) (w : World) (hL : Pts w w.heap.size a n c L) (R : Bool) (hR : R = true ↔ ∀ p ∈ L, MayP p) : Calls Tryz.prog 103 #[.slice a n c, .func (.func 73) #[] #[]] w fun e w' => ∃ z : Int, e = .returned (.int .i64 z) ∧ IxP R z ∧ Below w.heap.size w w' := by
  have n0 : (0 : Int) ≤ n := by omega
  have n1 : (n : Int) ≤ 9223372036854775807 := by have h1 := hL.2.1; have h2 := hL.2.2.1; unfold maxLen at h2; omega
  have HN := Lib.hid hL.1
  have HP := Lib.hid hL
  have HR := Lib.hid hR
  clear hL hR
  go_enter Tryz.func103, Tryz.ntmps103
  go_wp2_with fail
  go_loopw [8] (fun i wr => ∃ j : Nat, j ≤ n ∧ i = .int .i64 j ∧ (∀ t, t < j → MayP (L.getD t p0)) ∧ Below w.heap.size w wr) (fun i _ => n - (intOf i).toNat)
  case atStart => exact ⟨0, Nat.zero_le _, rfl, fun j hj => absurd hj (Nat.not_lt_zero _), Below.refl _ _⟩
  case round =>
    obtain ⟨j, hj, rfl, hmay, hb⟩ := hrel
    have j0 : (0 : Int) ≤ j := by omega
    have HBR := Lib.hid hb
    have HM := Lib.hid hmay
    clear hb hmay
    by_cases hlt : j < n
    · have j1 : (j : Int) < n := by omega
      obtain ⟨bp, op_, ea, hblt, hwf, p0_, p1_, p2_, p3_, p4_⟩ := (HP.out.below HBR.out).cells j hlt
      obtain ⟨P, hP⟩ : ∃ P, L.getD j p0 = P := ⟨_, rfl⟩
      rw [hP] at hwf p0_ p1_ p2_ p3_ p4_
      subst ea
      have HPE := Lib.hid hP
      clear hP hblt hwf
      by_cases h : MayP P
      · have HW := Lib.hid (obWrong_any P wr false ⟨fun x => (by cases x), fun x => absurd h x⟩)
        have HH1 := Lib.hid h
        obtain ⟨a', b', c', d', e'⟩ := P
        clear h
        go_wp2_with fail
        refine HW.out.mono ?_
        rintro ev w1 ⟨rfl, b1⟩
        have HB1 := Lib.hid (HBR.out.trans (b1.mono HBR.out.size))
        clear b1
        go_wp2_with fail
        go_roundw
        case rel =>
          refine ⟨j + 1, by omega, by go_num, fun t ht => ?_, HB1.out⟩
          by_cases e : t = j
          · subst e
            rw [HPE.out]
            exact HH1.out
          · exact HM.out t (by omega)
        case measure => simp [intOf]; omega
      · have HW := Lib.hid (obWrong_any P wr true ⟨fun _ => h, fun _ => rfl⟩)
        obtain rfl : R = false := by
          cases R with
          | false => rfl
          | true =>
            have hi : j < L.length := by rw [HN.out]; exact hlt
            have hg : L[j] = P := by
              rw [← HPE.out, List.getD_eq_getElem?_getD, List.getElem?_eq_getElem hi]
              rfl
            exact absurd (hg ▸ HR.out.1 rfl L[j] (List.getElem_mem hi)) h
        obtain ⟨a', b', c', d', e'⟩ := P
        clear h
        go_wp2_with fail
        refine HW.out.mono ?_
        rintro ev w1 ⟨rfl, b1⟩
        have HB1 := Lib.hid (HBR.out.trans (b1.mono HBR.out.size))
        clear b1
        go_wp2_with fail
        go_ret
        exact ⟨_, rfl, ⟨fun x => (by cases x), fun _ => by omega⟩, HB1.out⟩
    · obtain rfl : j = n := by omega
      have hall : ∀ p ∈ L, MayP p := fun p hp => by
        obtain ⟨i, hi, rfl⟩ := List.getElem_of_mem hp
        have := HM.out i (by rw [HN.out] at hi; omega)
        rwa [List.getD_eq_getElem?_getD, List.getElem?_eq_getElem hi] at this
      obtain rfl : R = true := HR.out.2 hall
      clear hlt hj hall
      go_wp2_with fail
      go_ret
      exact ⟨_, rfl, ⟨fun _ => rfl, fun x => (by cases x)⟩, HBR.out⟩
theorem obContains_any (a : Option Addr) (n c : Nat) (L : List Pt) (w : World) (hL : Pts w w.heap.size a n c L) (R : Bool) (hR : R = true ↔ ∀ p ∈ L, MayP p) : Calls Tryz.prog 74 #[.slice a n c, .func (.func 73) #[] #[]] w fun e w' => e = .returned (.bool (!R)) ∧ Below w.heap.size w w' := by
  have HX := Lib.hid (obIndex_any a n c L w hL R hR)
  clear hL hR
  cases R with
  | true =>
    go_enter Tryz.func74, Tryz.ntmps74
    go_wp2_with fail
    refine HX.out.mono ?_
    rintro e w1 ⟨z, rfl, hz, b1⟩
    obtain rfl : z = -1 := hz.1 rfl
    have HB1 := Lib.hid b1
    clear b1 hz
    go_wp2_with fail
    go_ret
    exact ⟨rfl, HB1.out⟩
  | false =>
    go_enter Tryz.func74, Tryz.ntmps74
    go_wp2_with fail
    refine HX.out.mono ?_
    rintro e w1 ⟨z, rfl, hz, b1⟩
    have hz0 : 0 ≤ z := hz.2 rfl
    have HB1 := Lib.hid b1
    clear b1 hz
    go_wp2_with fail
    go_ret
    exact ⟨rfl, HB1.out⟩
set_option maxHeartbeats 2000000 in
theorem obMay_any (a : Option Addr) (c : Nat) (O : ObL) (w : World) (h : Pts w w.heap.size a O.2.2.2.length c O.2.2.2) (hw : WfOb O) (R : Bool) (hR : R = true ↔ MayOb O) : Calls Tryz.prog 46 #[obV a c O] w fun e w' => e = .returned (.bool R) ∧ Below w.heap.size w w' := by
  obtain ⟨k, l, s, Lp⟩ := O
  simp only at hR h
  obtain ⟨n, hn⟩ : ∃ n, Lp.length = n := ⟨_, rfl⟩
  have HN := Lib.hid hn
  have HR := Lib.hid hR
  have hk8 := hw.1
  simp only at hk8
  simp only [obV]
  rw [hn] at h ⊢
  obtain ⟨kz, hkz⟩ : ∃ z : Int, (k : Int) = z := ⟨_, rfl⟩
  have HK := Lib.hid hkz
  rw [hkz]
  have kz0 : 0 ≤ kz := by omega
  have kz1 : kz ≤ 255 := by omega
  have hnc := h.2.1
  have hcm := h.2.2.1
  have n0 : (0 : Int) ≤ n := by omega
  have n9 : (n : Int) ≤ 9223372036854775807 := by unfold maxLen at hcm; omega
  have xb := Blk.new w 40 #[.int .u8 kz, .int .i64 l, .int .i64 s, .slice a n c]
  have b0 := (Below.refl w.heap.size w).alloc (Nat.le_refl _) (.cells #[.int .u8 kz, .int .i64 l, .int .i64 s, .slice a n c] 40)
  obtain ⟨w0, hw0⟩ : ∃ w0, w.alloc (.cells #[.int .u8 kz, .int .i64 l, .int .i64 s, .slice a n c] 40) = w0 := ⟨_, rfl⟩
  rw [hw0] at xb b0
  have c0 := ox0 xb
  have c1 := ox1 xb
  have c2 := ox2 xb
  have c3 := ox3 xb
  have HB := Lib.hid b0
  have HP := Lib.hid (h.step b0)
  clear h hn hR hkz xb b0 hnc hcm hw hk8
  by_cases q1 : 1 ≤ kz ∧ kz ≤ 7
  · by_cases q2 : 0 ≤ l ∧ l ≤ 255
    · by_cases q3 : 0 ≤ s ∧ s ≤ 3840
      · by_cases q4 : n = 15
        · subst q4
          have hall : R = true ↔ ∀ p ∈ Lp, MayP p := by
            rw [HR.out]
            refine ⟨fun h => h.2, fun h => ⟨?_, h⟩⟩
            have hk := HK.out
            have hn := HN.out
            unfold HeadOb
            simp only
            omega
          have HC := Lib.hid (obContains_any a 15 c Lp w0 HP.out R hall)
          clear HR HK HN HP hall
          go_enter Tryz.func46, Tryz.ntmps46
          go_wp2_with fail
          clear hw0
          refine (obWithin_any kz 1 7 w0 true ⟨fun _ => q1, fun _ => rfl⟩).mono ?_
          rintro e w1 ⟨rfl, rfl⟩
          go_wp2_with fail
          refine (obWithin_any l 0 255 w0 true ⟨fun _ => q2, fun _ => rfl⟩).mono ?_
          rintro e w1 ⟨rfl, rfl⟩
          go_wp2_with fail
          refine (obWithin_any s 0 3840 w0 true ⟨fun _ => q3, fun _ => rfl⟩).mono ?_
          rintro e w1 ⟨rfl, rfl⟩
          go_wp2_with fail
          refine HC.out.mono ?_
          rintro e w1 ⟨rfl, b1⟩
          have HB1 := Lib.hid (HB.out.trans (b1.mono HB.out.size))
          clear b1
          go_wp2_with fail
          go_ret
          exact ⟨by simp, HB1.out⟩
        · have q4' : ((n : Int) == 15) = false := by simp; omega
          obtain rfl : R = false := by
            cases R with
            | false => rfl
            | true =>
              have := (HR.out.1 rfl).1
              unfold HeadOb at this
              have hk := HK.out
              have hn := HN.out
              simp only at this
              omega
          clear HR HK HN HP
          go_enter Tryz.func46, Tryz.ntmps46
          go_wp2_with fail
          clear hw0
          refine (obWithin_any kz 1 7 w0 true ⟨fun _ => q1, fun _ => rfl⟩).mono ?_
          rintro e w1 ⟨rfl, rfl⟩
          go_wp2_with fail
          refine (obWithin_any l 0 255 w0 true ⟨fun _ => q2, fun _ => rfl⟩).mono ?_
          rintro e w1 ⟨rfl, rfl⟩
          go_wp2_with fail
          refine (obWithin_any s 0 3840 w0 true ⟨fun _ => q3, fun _ => rfl⟩).mono ?_
          rintro e w1 ⟨rfl, rfl⟩
          go_wp2_with fail
          go_ret
          exact ⟨rfl, HB.out⟩
      · obtain rfl : R = false := by
          cases R with
          | false => rfl
          | true =>
            have := (HR.out.1 rfl).1
            unfold HeadOb at this
            have hk := HK.out
            have hn := HN.out
            simp only at this
            omega
        clear HR HK HN HP
        go_enter Tryz.func46, Tryz.ntmps46
        go_wp2_with fail
        clear hw0
        refine (obWithin_any kz 1 7 w0 true ⟨fun _ => q1, fun _ => rfl⟩).mono ?_
        rintro e w1 ⟨rfl, rfl⟩
        go_wp2_with fail
        refine (obWithin_any l 0 255 w0 true ⟨fun _ => q2, fun _ => rfl⟩).mono ?_
        rintro e w1 ⟨rfl, rfl⟩
        go_wp2_with fail
        refine (obWithin_any s 0 3840 w0 false ⟨fun x => (by cases x), fun x => absurd x q3⟩).mono ?_
        rintro e w1 ⟨rfl, rfl⟩
        go_wp2_with fail
        go_ret
        exact ⟨rfl, HB.out⟩
    · obtain rfl : R = false := by
        cases R with
        | false => rfl
        | true =>
          have := (HR.out.1 rfl).1
          unfold HeadOb at this
          have hk := HK.out
          have hn := HN.out
          simp only at this
          omega
      clear HR HK HN HP
      go_enter Tryz.func46, Tryz.ntmps46
      go_wp2_with fail
      clear hw0
      refine (obWithin_any kz 1 7 w0 true ⟨fun _ => q1, fun _ => rfl⟩).mono ?_
      rintro e w1 ⟨rfl, rfl⟩
      go_wp2_with fail
      refine (obWithin_any l 0 255 w0 false ⟨fun x => (by cases x), fun x => absurd x q2⟩).mono ?_
      rintro e w1 ⟨rfl, rfl⟩
      go_wp2_with fail
      go_ret
      exact ⟨rfl, HB.out⟩
  · obtain rfl : R = false := by
      cases R with
      | false => rfl
      | true =>
        have := (HR.out.1 rfl).1
        unfold HeadOb at this
        have hk := HK.out
        have hn := HN.out
        simp only at this
        omega
    clear HR HK HN HP
    go_enter Tryz.func46, Tryz.ntmps46
    go_wp2_with fail
    clear hw0
    refine (obWithin_any kz 1 7 w0 false ⟨fun x => (by cases x), fun x => absurd x q1⟩).mono ?_
    rintro e w1 ⟨rfl, rfl⟩
    go_wp2_with fail
    go_ret
    exact ⟨rfl, HB.out⟩
set_option maxHeartbeats 2000000 in
theorem obEqual_any (a : Option Addr) (n ca : Nat) (L : List Pt) (b : Option Addr) (m cb : Nat) (M : List Pt) (w : World) (hL : Pts w w.heap.size a n ca L) (hM : Pts w w.heap.size b m cb M) :
    Calls Tryz.prog 43 #[.slice a n ca, .slice b m cb] w fun e w' => e = .returned (.bool (decide (L = M))) ∧ Below w.heap.size w w' := by
  have hl := hL.1
  have hm := hM.1
  have i0 : (0 : Int) ≤ (n : Int) := by omega
  have i1 : (n : Int) ≤ 9223372036854775807 := by have h1 := hL.2.1; have h2 := hL.2.2.1; unfold maxLen at h2; omega
  have hmx : Tryz.prog.follows Departure.mixedOrders = true := by kernel_rfl
  obtain ⟨R, hR⟩ : ∃ R, decide (L = M) = R := ⟨_, rfl⟩
  rw [hR]
  by_cases hnm : n = m
  · subst hnm
    have HLL := Lib.hid hL; clear hL
    have HMM := Lib.hid hM; clear hM
    have HR := Lib.hid hR; clear hR
    have HLN := Lib.hid hl; clear hl
    have HMN := Lib.hid hm; clear hm
    go_enter Tryz.func43, Tryz.ntmps43
    go_wp2_with fail
    go_loopw [13] (fun i wr => ∃ k : Nat, k ≤ n ∧ i = .int .i64 k ∧ (∀ j, j < k → L.getD j p0 = M.getD j p0) ∧ Below w.heap.size w wr) (fun i _ => n - (intOf i).toNat)
    case atStart => exact ⟨0, Nat.zero_le _, rfl, fun j hj => absurd hj (Nat.not_lt_zero _), Below.refl _ _⟩
    case round =>
      obtain ⟨k, hk, rfl, hsame, hb⟩ := hrel
      have k0 : (0 : Int) ≤ k := by omega
      have HB := Lib.hid hb; clear hb
      have HSM := Lib.hid hsame; clear hsame
      by_cases hlt : k < n
      · have k1 : (k : Int) < n := by omega
        obtain ⟨b1, o1, ea, hblt, _, c0, c1, c2, c3, c4⟩ := (HLL.out.below HB.out).cells k hlt
        obtain ⟨b2, o2, eb, hblt2, _, d0, d1, d2, d3, d4⟩ := (HMM.out.below HB.out).cells k hlt
        subst ea
        subst eb
        obtain ⟨P, hP⟩ : ∃ P, L.getD k p0 = P := ⟨_, rfl⟩
        obtain ⟨Q, hQ⟩ : ∃ Q, M.getD k p0 = Q := ⟨_, rfl⟩
        rw [hP] at c0 c1 c2 c3 c4
        rw [hQ] at d0 d1 d2 d3 d4
        have HP := Lib.hid hP
        have HQ := Lib.hid hQ
        clear hP hQ hblt hblt2
        have heq : eqP P Q = decide (P = Q) := rfl
        by_cases hpq : P = Q
        · rw [decide_eq_true hpq] at heq
          obtain ⟨x, y, z, t, u⟩ := P
          obtain ⟨x', y', z', t', u'⟩ := Q
          have hlit := eqPt_lit x y z t u x' y' z' t' u'
          rw [heq] at hlit
          have HPQ := Lib.hid hpq
          clear hpq heq
          go_wp2_with fail
          go_quiet (fail)
          go_wp2_with fail
          go_roundw
          case rel =>
            refine ⟨k + 1, by omega, by go_num, fun j hj => ?_, below_drewN HB.out _⟩
            by_cases e : j = k
            · subst e
              rw [HP.out, HQ.out]
              exact HPQ.out
            · exact HSM.out j (by omega)
          case measure => simp [intOf]; omega
        · rw [decide_eq_false hpq] at heq
          have hno : ¬ L = M := fun e => hpq (by rw [← HP.out, ← HQ.out, e])
          have hR := HR.out
          rw [decide_eq_false hno] at hR
          subst hR
          obtain ⟨x, y, z, t, u⟩ := P
          obtain ⟨x', y', z', t', u'⟩ := Q
          have hlit := eqPt_lit x y z t u x' y' z' t' u'
          rw [heq] at hlit
          clear hpq heq hno
          go_wp2_with fail
          go_quiet (fail)
          go_wp2_with fail
          go_ret
          exact ⟨rfl, below_drewN HB.out _⟩
      · obtain rfl : k = n := by omega
        have hyes : L = M := list_same (by rw [HLN.out, HMN.out]) fun j hj => HSM.out j (by rw [← HLN.out]; exact hj)
        have hR := HR.out
        rw [decide_eq_true hyes] at hR
        subst hR
        clear hyes
        go_wp2_with fail
        go_ret
        exact ⟨rfl, HB.out⟩
  · have hno : ¬ L = M := fun e => hnm (by rw [← hl, ← hm, e])
    rw [decide_eq_false hno] at hR
    subst hR
    have hne : ¬ (n : Int) = (m : Int) := by omega
    clear hno hl hm hL hM hnm
    go_enter Tryz.func43, Tryz.ntmps43
    go_wp2_with fail
    go_ret
    exact ⟨rfl, Below.refl _ _⟩
set_option maxHeartbeats 2000000 in
theorem obSame_any (a : Option Addr) (c : Nat) (O : ObL) (b : Option Addr) (d : Nat) (M : ObL) (w : World) (h : Pts w w.heap.size a O.2.2.2.length c O.2.2.2) (h' : Pts w w.heap.size b M.2.2.2.length d M.2.2.2) (R : Bool) (hR : R = true ↔ O = M) : Calls Tryz.prog 25 #[obV a c O, obV b d M] w fun e w' => e = .returned (.bool R) ∧ Below w.heap.size w w' := by
  obtain ⟨k, l, s, Lp⟩ := O
  obtain ⟨k', l', s', Mp⟩ := M
  simp only at h h'
  simp only [obV]
  have b0 : Below w.heap.size w ((w.alloc (.cells #[.int .u8 (k : Int), .int .i64 l, .int .i64 s, .slice a Lp.length c] 40)).alloc (.cells #[.int .u8 (k' : Int), .int .i64 l', .int .i64 s', .slice b Mp.length d] 40)) := ((Below.refl w.heap.size w).alloc (Nat.le_refl _) _).alloc (by rw [World.size_alloc]; omega) _
  have xa := (Blk.new w 40 #[.int .u8 (k : Int), .int .i64 l, .int .i64 s, .slice a Lp.length c]).alloc (.cells #[.int .u8 (k' : Int), .int .i64 l', .int .i64 s', .slice b Mp.length d] 40)
  have xb := Blk.new (w.alloc (.cells #[.int .u8 (k : Int), .int .i64 l, .int .i64 s, .slice a Lp.length c] 40)) 40 #[.int .u8 (k' : Int), .int .i64 l', .int .i64 s', .slice b Mp.length d]
  rw [World.size_alloc] at xb
  obtain ⟨w0, hw0⟩ : ∃ w0, (w.alloc (.cells #[.int .u8 (k : Int), .int .i64 l, .int .i64 s, .slice a Lp.length c] 40)).alloc (.cells #[.int .u8 (k' : Int), .int .i64 l', .int .i64 s', .slice b Mp.length d] 40) = w0 := ⟨_, rfl⟩
  rw [hw0] at b0 xa xb
  have c0 := ox0 xa
  have c1 := ox1 xa
  have c2 := ox2 xa
  have c3 := ox3 xa
  have d0 := ox0 xb
  have d1 := ox1 xb
  have d2 := ox2 xb
  have d3 := ox3 xb
  have HB := Lib.hid b0
  have HS := Lib.hid (obEqual_any a Lp.length c Lp b Mp.length d Mp w0 (h.step b0) (h'.step b0))
  have HR := Lib.hid hR
  clear b0 xa xb h h' hR
  by_cases e : k = k'
  · have f1 : ((k : Int) == k') = true := by simp [e]
    have E1 := Lib.hid e
    clear e
    by_cases e : l = l'
    · have f2 : (l == l') = true := by simp [e]
      have E2 := Lib.hid e
      clear e
      by_cases e : s = s'
      · have f3 : (s == s') = true := by simp [e]
        have hs := HS.out
        have hRd : decide (Lp = Mp) = R := by
          cases R with
          | true =>
            have := HR.out.1 rfl
            simp only [Prod.mk.injEq] at this
            exact decide_eq_true this.2.2.2
          | false => exact decide_eq_false (fun hh => by have := HR.out.2 (by rw [E1.out, E2.out, e, hh]); cases this)
        rw [hRd] at hs
        have HS2 := Lib.hid hs
        clear hs hRd HS HR E1 E2 e
        go_enter Tryz.func25, Tryz.ntmps25
        go_wp2_with fail
        clear c0 c1 c2 c3 d0 d1 d2 d3 hw0
        refine HS2.out.mono ?_
        rintro e w1 ⟨rfl, b1⟩
        have HB1 := Lib.hid (HB.out.trans (b1.mono HB.out.size))
        clear b1
        go_wp2_with fail
        go_ret
        exact ⟨rfl, HB1.out⟩
      · have f3 : (s == s') = false := by simp [e]
        obtain rfl : R = false := by
          cases R with
          | false => rfl
          | true =>
            have := HR.out.1 rfl
            simp only [Prod.mk.injEq] at this
            exact absurd this.2.2.1 e
        clear HR e
        go_enter Tryz.func25, Tryz.ntmps25
        go_wp2_with fail
        go_ret
        exact ⟨rfl, HB.out⟩
    · have f2 : (l == l') = false := by simp [e]
      obtain rfl : R = false := by
        cases R with
        | false => rfl
        | true =>
          have := HR.out.1 rfl
          simp only [Prod.mk.injEq] at this
          exact absurd this.2.1 e
      clear HR e
      go_enter Tryz.func25, Tryz.ntmps25
      go_wp2_with fail
      go_ret
      exact ⟨rfl, HB.out⟩
  · have f1 : ((k : Int) == k') = false := by simp; omega
    obtain rfl : R = false := by
      cases R with
      | false => rfl
      | true =>
        have := HR.out.1 rfl
        simp only [Prod.mk.injEq] at this
        exact absurd this.1 e
    clear HR e
    go_enter Tryz.func25, Tryz.ntmps25
    go_wp2_with fail
    go_ret
    exact ⟨rfl, HB.out⟩
end Go.Proofs.YtbggkfomfeeikaaGreatDoor
/-
  obj's heads, arrays of sixteen bytes: loads and stores of them whole, two compared as one; headOf and objectOf.
-/
namespace Go.Proofs.YtbggkfomfeeikaaGreatDoor
open Go.RowKit Go.Shelf
set_option maxRecDepth 100000

theorem ar_one16 (s : List UInt8) : (ar s).all (·.oneCell') = true := by
  refine Array.all_eq_true_iff_forall_mem.2 fun v hv => ?_
  simp only [ar, vals, List.mem_toArray, List.mem_map] at hv
  obtain ⟨x, _, rfl⟩ := hv
  rfl
/-- Sixteen noughts. -/
def zs : List UInt8 := List.replicate 16 0
/-- Sixteen noughts. -/
def zs16 : List UInt8 := List.replicate 16 0
theorem zs16_length : zs16.length = 16 := rfl
theorem infoA16 : (Tryz.prog.info? 82).map (·.size) = some 16 := by kernel_rfl
theorem arrayAt16 (a : Option Addr) (n c : Nat) (h : 16 ≤ n) (w : World) : (Instr.arrayAt 82 (.slice a n c)).run Tryz.prog w = .ok (.pointer a) w :=
  run_arrayAt w 82 5 16 a n c Tryz.underlying82 h
theorem sliceAt16 (g : Nat) (w : World) : (Instr.sliceAt 82 (.pointer (some ⟨g, 0, none⟩)) none none none).run Tryz.prog w = .ok (.slice (some ⟨g, 0, none⟩) 16 16) w := by kernel_rfl
theorem sliceAt16_2 (g : Nat) (w : World) : (Instr.sliceAt 82 (.pointer (some ⟨g, 0, none⟩)) (some (.int .i64 2)) none none).run Tryz.prog w = .ok (.slice (some ⟨g, 2, none⟩) 14 14) w := by kernel_rfl

section
variable {P : Program} {ops : Array Oper} {Q : Exit → Act → World → Prop} {a : Act} {w : World} {rest : List Oper}
/-- The next operation is a load; a store. -/
theorem at_load16 {d : Option Tmp} {t ty : TypeId} {x : Operand} {pos : String} {af : Array Edge} (h : wpList P ops Q (⟨d, .load t x, ty, pos, af, none⟩ :: rest) a w) : wpList P ops Q (⟨d, .load t x, ty, pos, af, none⟩ :: rest) a w := h
theorem at_store16 {d : Option Tmp} {t ty : TypeId} {x y : Operand} {pos : String} {af : Array Edge} (h : wpList P ops Q (⟨d, .store t x y, ty, pos, af, none⟩ :: rest) a w) : wpList P ops Q (⟨d, .store t x y, ty, pos, af, none⟩ :: rest) a w := h
end
section
variable {ops : Array Oper} {Q : Exit → Act → World → Prop} {a : Act} {w : World} {rest : List Oper} {o : Oper}
theorem wpList_load16_bsl (hgd : o.guard = none) (x : Operand) (ho : o.op = .load 82 x) (g off cap B : Nat) (s : List UInt8) (hx : a.eval x = .pointer (some ⟨g, off, none⟩)) (hb : Bsl w B (some ⟨g, off, none⟩) 16 cap s)
    (h : wpList Tryz.prog ops Q rest (a.put o.dst (.agg (ar s))) w) : wpList Tryz.prog ops Q (o :: rest) a w :=
  wpList_load_mid hgd 82 x ho g off hx (vals s) _ (hb.range (by omega)) Tryz.underlying82 rfl (by rw [infoA16]; simp [vals, hb.1]) h
theorem wpList_load16 (hgd : o.guard = none) (x : Operand) (ho : o.op = .load 82 x) (g : Nat) (s : List UInt8) (hx : a.eval x = .pointer (some ⟨g, 0, none⟩)) (hb : Blk w g 82 (ar s)) (hs : s.length = 16)
    (h : wpList Tryz.prog ops Q rest (a.put o.dst (.agg (ar s))) w) : wpList Tryz.prog ops Q (o :: rest) a w :=
  wpList_load_row hgd 82 x ho g hx 82 (ar s) (0, 0) _ hb Tryz.underlying82 rfl (by rw [infoA16, ar_size, hs]) h
theorem wpList_store16 (hgd : o.guard = none) (x y : Operand) (ho : o.op = .store 82 x y) (g : Nat) (s old : List UInt8) (hx : a.eval x = .pointer (some ⟨g, 0, none⟩)) (hy : a.eval y = .agg (ar s)) (hs : s.length = 16) (hb : Blk w g 82 (ar old)) (hold : old.length = 16)
    (h : ∀ w', Blk w' g 82 (ar s) → w.grownBy w' (some g) → wpList Tryz.prog ops Q rest (a.put o.dst undef) w') : wpList Tryz.prog ops Q (o :: rest) a w :=
  wpList_store_row hgd 82 x y ho g (ar s) hx hy 82 (ar old) hb (by rw [infoA16, ar_size, hs]) (by rw [ar_size, ar_size, hs, hold]) (ar_one16 s)
    (h _ hb.setRow ⟨rfl, rfl, rfl, by simp, fun k _ hk => setRow_other w g k _ (fun e => hk (by rw [e]))⟩)
/-- copy(array[off:], src), where what is copied fits. -/
theorem wpList_copy_arr (hgd : o.guard = none) (d s : Operand)
    (ho : o.op = .call { callee := .builtin .copy, args := #[d, s], argTypes := #[27, 27] }) (ty : TypeId)
    (g off m n cap : Nat) (hd : a.eval d = .slice (some ⟨g, off, none⟩) m cap) (t : List UInt8) (hg : Blk w g ty (ar t))
    (B : Nat) (A : Option Addr) (c : Nat) (news : List UInt8) (hs : a.eval s = .slice A n c) (hb : Bsl w B A n c news) (hn : 0 < n) (hnm : n ≤ m) (hfit : off + n ≤ t.length)
    (h : ∀ w', Blk w' g ty (ar (ovrL t off news)) → w.grownBy w' (some g) → w'.heap.size = w.heap.size → wpList Tryz.prog ops Q rest (a.put o.dst (.int .i64 n)) w') : wpList Tryz.prog ops Q (o :: rest) a w := by
  obtain ⟨h1, h2, h3, h4, h5⟩ := hb
  obtain ⟨b, of, rfl, _, hc⟩ := h5 hn
  have hl : (vals news).length = n := by simp [vals, h1]
  refine wpList_copy_own hgd d s 27 27 ho 5 Tryz.underlying27 infoB1 g off m cap ⟨b, of, none⟩ n c hd hs (ar t) ty hg (vals news) (by rw [hl]; exact (Nat.min_eq_left hnm).symm) (fun j v hv => ?_) (by rw [hl, ar_size]; exact hfit) (fun v hv => ?_) ?_
  · obtain ⟨hj, rfl⟩ := vals_get hv
    have : (⟨b, of, none⟩ : Addr).add j = ⟨b, of + j, none⟩ := by unfold Addr.add; split <;> simp_all
    rw [this]
    exact hc j hj
  · obtain ⟨y, _, rfl⟩ := List.mem_map.1 hv
    rfl
  · have e : ((ar t).toList.take off ++ (vals news ++ (ar t).toList.drop (off + (vals news).length))).toArray = ar (ovrL t off news) := by
      rw [hl]
      simp [ar, ovrL, vals, h1]
    rw [e]
    have hx : (goInt (vals news).length) = .int .i64 n := by rw [hl]; rfl
    rw [hx]
    exact h _ (Blk.setRow hg) ⟨rfl, rfl, rfl, by simp [World.setRow], fun i hi hne => setRow_other w g i _ (fun e => hne (by rw [e]))⟩ (by simp [World.setRow])
end
theorem result16 {fn : Func} {p : Tmp} (h : fn.results = #[.cell p 82]) (tmps : Array Value) (w : World) (g : Nat) (s : List UInt8) (hp : tmps.getD p undef = .pointer (some ⟨g, 0, none⟩)) (hb : Blk w g 82 (ar s)) (hs : s.length = 16) :
    (results fn tmps).run Tryz.prog w = .ok (.agg (ar s)) w :=
  results_cell_row h tmps w g 82 (ar s) (0, 0) _ hp hb Tryz.underlying82 rfl (by rw [infoA16, ar_size, hs])
theorem eqItems_ar (s t : List UInt8) (w : World) : ∀ is : List Nat, (∀ i ∈ is, i < s.length ∧ i < t.length) → (Op.eqItems 9999 5 1 (ar s) (ar t) is).run Tryz.prog w = .ok (decide (∀ i ∈ is, s.getD i 0 = t.getD i 0)) w
  | [], _ => by simp [Op.eqItems]
  | i :: is, h => by
    obtain ⟨h1, h2⟩ := h i (List.mem_cons_self ..)
    have ih := eqItems_ar s t w is fun j hj => h j (List.mem_cons_of_mem _ hj)
    have g1 := ar_get s i h1
    have g2 := ar_get t i h2
    have e1 : (part 5 (ar s) (i * 1)).run Tryz.prog w = .ok (.int .u8 ((s[i]).toNat : Int)) w := run_part_plain w (by kernel_rfl) (by rw [Nat.mul_one]; exact g1)
    have e2 : (part 5 (ar t) (i * 1)).run Tryz.prog w = .ok (.int .u8 ((t[i]).toNat : Int)) w := run_part_plain w (by kernel_rfl) (by rw [Nat.mul_one]; exact g2)
    have e3 := run_equalIn_int (P := Tryz.prog) w 9998 5 .u8 .u8 ((s[i]).toNat : Int) ((t[i]).toNat : Int) Tryz.underlying5
    simp only [Op.eqItems, Sem.run_bind, e1, e2, e3, Result.andThen_ok]
    have q1 : s.getD i 0 = s[i] := by rw [List.getD_eq_getElem?_getD, List.getElem?_eq_getElem h1]; rfl
    have q2 : t.getD i 0 = t[i] := by rw [List.getD_eq_getElem?_getD, List.getElem?_eq_getElem h2]; rfl
    by_cases hq : s[i] = t[i]
    · rw [hq]
      simp only [BEq.rfl, Bool.not_true, Bool.false_eq_true, if_false, ih]
      congr 1
      rw [decide_eq_decide]
      simp only [List.mem_cons, forall_eq_or_imp, q1, q2, hq, true_and]
    · have hne : (((s[i]).toNat : Int) == ((t[i]).toNat : Int)) = false := by
        simp only [beq_eq_false_iff_ne, ne_eq]
        intro e
        exact hq (UInt8.toNat_inj.1 (by omega))
      rw [hne]
      simp only [Bool.not_false, if_true, Sem.run_pure]
      congr 1
      symm
      rw [decide_eq_false_iff_not]
      intro hall
      exact hq (by rw [← q1, ← q2]; exact hall i (List.mem_cons_self ..))
/-- Two arrays of sixteen bytes, compared as one. -/
theorem eq16 (s t : List UInt8) (hs : s.length = 16) (ht : t.length = 16) (w : World) : (Op.equalIn 10000 82 (.agg (ar s)) (.agg (ar t))).run Tryz.prog w = .ok (decide (s = t)) w := by
  obtain ⟨i0, hi, _⟩ := info_parts infoU8
  have hc : Tryz.prog.cellsOf 5 = 1 := by kernel_rfl
  rw [run_equalIn_array w 9999 (ar s) (ar t) Tryz.underlying82 hi, hc, eqItems_ar s t w (List.range 16) fun i h => by rw [hs, ht]; exact ⟨List.mem_range.1 h, List.mem_range.1 h⟩]
  congr 1
  rw [decide_eq_decide]
  constructor
  · intro h
    refine List.ext_getElem (by rw [hs, ht]) fun i h1 h2 => ?_
    have := h i (List.mem_range.2 (by omega))
    rwa [List.getD_eq_getElem?_getD, List.getD_eq_getElem?_getD, List.getElem?_eq_getElem h1, List.getElem?_eq_getElem h2] at this
  · rintro rfl _ _
    rfl
/-- code.Put of a number of two bytes. -/
theorem obPut_any (s : Nat) (hs : s < 65536) (w : World) : Calls Tryz.prog 76 #[.int .i64 (s : Int), .int .i64 2] w fun e w' => ∃ g, e = .returned (.tuple #[.slice (some ⟨g, 0, none⟩) 2 2, .int .i64 0]) ∧ Bsl w' w'.heap.size (some ⟨g, 0, none⟩) 2 2 (leB 2 s) ∧ Below w.heap.size w w' := by
  refine (put_at s 2 2 rfl (by omega) (by omega) (by omega) w).mono ?_
  rintro e w1 ⟨rfl, h2, b2, s2⟩
  exact ⟨_, rfl, bsl_of_holds (cap := 2) (leB_length 2 s) (Nat.le_refl _) (by unfold maxLen; omega) s2 h2, b2⟩
/-- The head's sixteen bytes. -/
def hd16 (k l s : Nat) : List UInt8 := [UInt8.ofNat k, UInt8.ofNat l] ++ leB 2 s ++ List.replicate 12 0
theorem hd16_length (k l s : Nat) : (hd16 k l s).length = 16 := by simp [hd16, leB_length]
theorem hd16_ovr (k l s : Nat) : ovrL ([UInt8.ofNat k, UInt8.ofNat l] ++ List.replicate 14 0) 2 (leB 2 s) = hd16 k l s := by
  unfold ovrL hd16
  rw [leB_length]
  simp
set_option maxHeartbeats 1000000 in
theorem obHead_any (a : Option Addr) (c : Nat) (k l s n : Nat) (w : World) (hk : k < 256) (hl : l < 256) (hs : s < 65536) : Calls Tryz.prog 48 #[.agg #[.int .u8 (k : Int), .int .i64 (l : Int), .int .i64 (s : Int), .slice a n c]] w fun e w' => e = .returned (.agg (ar (hd16 k l s))) ∧ Below w.heap.size w w' := by
  obtain ⟨W, hW⟩ : ∃ W, ((w.alloc (.cells #[.int .u8 (k : Int), .int .i64 (l : Int), .int .i64 (s : Int), .slice a n c] 40)).alloc (.cells (ar zs16) 82)).alloc (.cells (ar ([UInt8.ofNat k, UInt8.ofNat l] ++ List.replicate 14 0)) 82) = W := ⟨_, rfl⟩
  have hb : Below w.heap.size w W := by rw [← hW]; exact below_alloc3' _ _ _ _
  have hx : Blk W (w.heap.size + 1) 82 (ar zs16) := by
    rw [← hW]
    have := (Blk.new (w.alloc (.cells #[.int .u8 (k : Int), .int .i64 (l : Int), .int .i64 (s : Int), .slice a n c] 40)) 82 (ar zs16)).alloc (.cells (ar ([UInt8.ofNat k, UInt8.ofNat l] ++ List.replicate 14 0)) 82)
    rwa [World.size_alloc] at this
  have hy : Blk W (w.heap.size + 1 + 1) 82 (ar ([UInt8.ofNat k, UInt8.ofNat l] ++ List.replicate 14 0)) := by
    rw [← hW]
    have := Blk.new ((w.alloc (.cells #[.int .u8 (k : Int), .int .i64 (l : Int), .int .i64 (s : Int), .slice a n c] 40)).alloc (.cells (ar zs16) 82)) 82 (ar ([UInt8.ofNat k, UInt8.ofNat l] ++ List.replicate 14 0))
    rwa [World.size_alloc, World.size_alloc] at this
  have hzs : w.heap.size + 1 + 1 < W.heap.size := hy.lt
  have e1 : ar zs16 = #[.int .u8 0, .int .u8 0, .int .u8 0, .int .u8 0, .int .u8 0, .int .u8 0, .int .u8 0, .int .u8 0, .int .u8 0, .int .u8 0, .int .u8 0, .int .u8 0, .int .u8 0, .int .u8 0, .int .u8 0, .int .u8 0] := rfl
  have e2 : ar ([UInt8.ofNat k, UInt8.ofNat l] ++ List.replicate 14 0) = #[.int .u8 (k : Int), .int .u8 (l : Int), .int .u8 0, .int .u8 0, .int .u8 0, .int .u8 0, .int .u8 0, .int .u8 0, .int .u8 0, .int .u8 0, .int .u8 0, .int .u8 0, .int .u8 0, .int .u8 0, .int .u8 0, .int .u8 0] := by
    have : ar ([UInt8.ofNat k, UInt8.ofNat l] ++ List.replicate 14 0) = #[.int .u8 ((UInt8.ofNat k).toNat : Int), .int .u8 ((UInt8.ofNat l).toNat : Int), .int .u8 0, .int .u8 0, .int .u8 0, .int .u8 0, .int .u8 0, .int .u8 0, .int .u8 0, .int .u8 0, .int .u8 0, .int .u8 0, .int .u8 0, .int .u8 0, .int .u8 0, .int .u8 0] := rfl
    rw [this, ob8_of _ hk, ob8_of _ hl]
  rw [e1, e2] at hW
  have hp := obPut_any s hs W
  have HP := Lib.hid hp
  have HB := Lib.hid hb
  have HX := Lib.hid hx
  have HY := Lib.hid hy
  have HZ := Lib.hid hzs
  have HW := Lib.hid hW
  clear hp hb hx hy hzs hW e1 e2 hs
  have sl := sliceAt16_2
  go_enter Tryz.func48, Tryz.ntmps48
  go_wp2_with fail
  rw [HW.out]
  refine HP.out.mono ?_
  rintro e w1 ⟨g, rfl, hs1, b1⟩
  have HS1 := Lib.hid hs1
  have HX1 := Lib.hid (HX.out.below b1 (by have := HZ.out; omega))
  have HY1 := Lib.hid (HY.out.below b1 HZ.out)
  have HB1 := Lib.hid (HB.out.trans (b1.mono HB.out.size))
  clear hs1 b1
  go_wp2_with (first
    | (with_reducible refine copyAt ?_
       refine wpList_copy_arr rfl (.tmp 18) (.tmp 19) rfl 82 (w.heap.size + 1 + 1) 2 14 2 14 rfl ([UInt8.ofNat k, UInt8.ofNat l] ++ List.replicate 14 0) HY1.out w1.heap.size (some ⟨g, 0, none⟩) 2 (leB 2 s) rfl HS1.out (by omega) (by omega) (by simp) ?_
       intro w2 x2 g2 _
       rw [hd16_ovr] at x2
       have HY2 := Lib.hid x2
       have HX2 := Lib.hid (HX1.out.grown g2 (fun e => by injection e; omega))
       have HB2 := Lib.hid (below_only HB1.out (by omega) g2 HB1.out.size)
       clear x2 g2)
    | (with_reducible refine at_load16 ?_
       refine wpList_load16 rfl (.tmp 3) rfl (w.heap.size + 1 + 1) (hd16 k l s) rfl HY2.out (hd16_length k l s) ?_)
    | (with_reducible refine at_store16 ?_
       refine wpList_store16 rfl (.tmp 2) (.tmp 21) rfl (w.heap.size + 1) (hd16 k l s) zs16 rfl rfl (hd16_length k l s) HX2.out zs16_length ?_
       intro w3 hx3 hg3
       have HX3 := Lib.hid hx3
       have HB3 := Lib.hid (below_only HB2.out (by omega) hg3 HB2.out.size)
       clear hx3 hg3))
  exact bodyPost_ret (v := .agg (ar (hd16 k l s))) (result16 rfl _ _ (w.heap.size + 1) _ rfl HX3.out (hd16_length k l s)) rfl ⟨rfl, HB3.out⟩
/-- What objectOf answers. -/
def hdO (h : List UInt8) : Nat × Nat × Nat := ((h.getD 0 0).toNat, (h.getD 1 0).toNat, leN ((h.drop 2).take 2))
set_option maxHeartbeats 1000000 in
theorem obObject_any (h : List UInt8) (hl : h.length = 16) (a : Option Addr) (n c : Nat) (w : World) : Calls Tryz.prog 84 #[.agg (ar h), .slice a n c] w fun e w' => e = .returned (.agg #[.int .u8 ((hdO h).1 : Int), .int .i64 ((hdO h).2.1 : Int), .int .i64 ((hdO h).2.2 : Int), .slice a n c]) ∧ Below w.heap.size w w' := by
  obtain ⟨W, hW⟩ : ∃ W, (w.alloc (.cells (ar h) 82)).alloc (.cells #[.int .u8 0, .int .i64 0, .int .i64 0, .slice none 0 0] 40) = W := ⟨_, rfl⟩
  have hb : Below w.heap.size w W := by rw [← hW]; exact ((Below.refl _ w).alloc (Nat.le_refl _) _).alloc (by rw [World.size_alloc]; omega) _
  have hx : Blk W w.heap.size 82 (ar h) := by rw [← hW]; exact (Blk.new w _ _).alloc _
  have hz : Blk W (w.heap.size + 1) 40 #[.int .u8 0, .int .i64 0, .int .i64 0, .slice none 0 0] := by
    rw [← hW]
    have := Blk.new (w.alloc (.cells (ar h) 82)) 40 #[.int .u8 0, .int .i64 0, .int .i64 0, .slice none 0 0]
    rwa [World.size_alloc] at this
  have hA : Bsl W W.heap.size (some ⟨w.heap.size, 0, none⟩) 16 16 h := hx.bsl hl (by omega)
  have HG := Lib.hid (callsIn_wide.1 (get_in 3 (Nat.le_refl _) w.heap.size 0 16 16 2 2 h hl (Nat.le_refl _) (by omega) (by omega) (by omega) (by omega) W hx.lt (by obtain ⟨b, off, e, _, hc⟩ := hA.2.2.2.2 (by omega); cases e; exact hc)))
  have HB := Lib.hid hb
  have HX := Lib.hid hx
  have HZ := Lib.hid hz
  have HW := Lib.hid hW
  have hho : hdO h = ((h.getD 0 0).toNat, (h.getD 1 0).toNat, leN ((h.drop 2).take 2)) := rfl
  obtain ⟨x0, hx0⟩ : ∃ n, (h.getD 0 0).toNat = n := ⟨_, rfl⟩
  obtain ⟨x1, hx1⟩ : ∃ n, (h.getD 1 0).toNat = n := ⟨_, rfl⟩
  obtain ⟨x2, hx2⟩ : ∃ n, leN ((h.drop 2).take 2) = n := ⟨_, rfl⟩
  have y0 := (h.getD 0 0).toNat_lt
  have y1 := (h.getD 1 0).toNat_lt
  rw [hx0] at y0
  rw [hx1] at y1
  rw [hx0, hx1, hx2] at hho
  rw [hho]
  simp only
  rw [hx2] at HG
  have HX0 := Lib.hid hx0
  have HX1 := Lib.hid hx1
  clear hb hx hz hA hW hho hx0 hx1 hx2
  go_enter Tryz.func84, Tryz.ntmps84
  go_wp2_with fail
  rw [HW.out]
  refine HG.out.mono ?_
  rintro e w1 ⟨rfl, b1⟩
  have hx1 := HX.out.below b1 HX.out.lt
  have hA1 := hx1.bsl hl (by omega)
  have k0 := hA1.cellD 0 (by omega)
  have k1 := hA1.cellD 1 (by omega)
  rw [HX0.out] at k0
  rw [HX1.out] at k1
  have hz1 := HZ.out.below b1 HZ.out.lt
  have m0 := ox0 hz1
  have m1 := ox1 hz1
  have m2 := ox2 hz1
  have m3 := ox3 hz1
  have hfz := fun i => hz1.frozen i
  have xz := hz1.set4 (.int .u8 (x0 : Int)) (.int .i64 (x1 : Int)) (.int .i64 (x2 : Int)) (.slice a n c)
  have bz := below_set4 (HB.out.trans (b1.mono HB.out.size)) (show w.heap.size ≤ w.heap.size + 1 by omega) (.int .u8 (x0 : Int)) (.int .i64 (x1 : Int)) (.int .i64 (x2 : Int)) (.slice a n c)
  obtain ⟨wz, hwz⟩ : ∃ X, (((w1.setCell ⟨w.heap.size + 1, 0, none⟩ (.int .u8 (x0 : Int))).setCell ⟨w.heap.size + 1, 1, none⟩ (.int .i64 (x1 : Int))).setCell ⟨w.heap.size + 1, 2, none⟩ (.int .i64 (x2 : Int))).setCell ⟨w.heap.size + 1, 3, none⟩ (.slice a n c) = X := ⟨_, rfl⟩
  rw [hwz] at xz bz
  have HXZ := Lib.hid xz
  have HBZ := Lib.hid bz
  clear xz bz hz1 hA1 hx1 b1
  rw [Nat.zero_add] at k0 k1
  go_wp2_with fail
  clear m0 m1 m2 m3 hfz hwz k0 k1
  have e0 := ox0 HXZ.out
  have e1 := ox1 HXZ.out
  have e2 := ox2 HXZ.out
  have e3 := ox3 HXZ.out
  refine bodyPost_ret (v := .agg #[.int .u8 (x0 : Int), .int .i64 (x1 : Int), .int .i64 (x2 : Int), .slice a n c]) (by simp [results, Tryz.f84, go_sem, e0, e1, e2, e3]) rfl ?_
  exact ⟨rfl, HBZ.out⟩
end Go.Proofs.YtbggkfomfeeikaaGreatDoor
/-
  slices.Grow of nil, and slices.Concat of slices of pointers: a row of the call's own that holds them all, one behind the other.
-/
namespace Go.Proofs.YtbggkfomfeeikaaGreatDoor
open Go.RowKit Go.Shelf
set_option maxRecDepth 100000

set_option maxHeartbeats 1000000 in
theorem pGrow_any (n : Nat) (h0 : 0 < n) (hn : n ≤ 1000000) (w : World) : Calls Tryz.prog 75 #[.slice none 0 0, .int .i64 n] w fun e w' => ∃ v, e = .returned v ∧ PRow w' w.heap.size v [] ∧ Below w.heap.size w w' := by
  obtain ⟨i0, hi, hz0, hz1, hz2⟩ := info_parts infoPt
  have hr : ∀ ty, (Builtin.append_ #[35, 3] ty #[.slice none 0 0, .int .i64 n]).run Tryz.prog w =
      .ok (.slice (some ⟨w.heap.size, 0, none⟩) n (grownCap w n 0 32)) (w.drew.alloc (.cells (Builtin.zeroCells (Value.agg #[.int .i64 0, .int .u32 0, .int .u32 0, .int .u32 0, .int .u32 0]).cells n ++ Builtin.zeroCells (Value.agg #[.int .i64 0, .int .u32 0, .int .u32 0, .int .u32 0, .int .u32 0]).cells (grownCap w n 0 32 - n)) 32)) := fun ty =>
    Lib.run_append_nil_zeros w 35 3 ty 32 i0 (.agg #[.int .i64 0, .int .u32 0, .int .u32 0, .int .u32 0, .int .u32 0]) .i64 .i64 Tryz.underlying35 Tryz.underlying3 hi hz0 n h0 (by omega) (by omega) (by rw [hz2]; omega)
  have hG1 : n ≤ grownCap w n 0 32 := grownCap_ge w _ _ _
  have hG2 : grownCap w n 0 32 ≤ maxLen := grownCap_le_maxLen w n 0 32 (by unfold maxLen; omega)
  obtain ⟨G, hG⟩ : ∃ G, grownCap w n 0 32 = G := ⟨_, rfl⟩
  rw [hG] at hr hG1 hG2
  obtain ⟨cs, hcs⟩ : ∃ cs, Builtin.zeroCells (Value.agg #[.int .i64 0, .int .u32 0, .int .u32 0, .int .u32 0, .int .u32 0]).cells n ++ Builtin.zeroCells (Value.agg #[.int .i64 0, .int .u32 0, .int .u32 0, .int .u32 0, .int .u32 0]).cells (G - n) = cs := ⟨_, rfl⟩
  have hsz : cs.size = G * 5 := by
    rw [← hcs]
    simp [Builtin.zeroCells, Value.cells]
    omega
  rw [hcs] at hr
  have z5 : ∀ w, (Go.sizeOf 32).run Tryz.prog w = .ok 5 w := fun w => by kernel_rfl
  have n1 : ¬ ((n : Int) < 0) := by omega
  have n2 : (0 : Int) < n := by omega
  have n3 : (n : Int) ≤ 1000000 := by omega
  have g0 : (G : Int) ≤ 9223372036854775807 := by unfold maxLen at hG2; omega
  have hown : (w.drew.alloc (.cells cs 32)).ownsRow w.heap.size 32 5 (.slice (some ⟨w.heap.size, 0, none⟩) 0 G) 0 [] :=
    ⟨rfl, .inr ⟨w.heap.size, G, cs, rfl, Nat.le_refl _, by have := heap_alloc_new w.drew (.cells cs 32); simpa using this, Nat.zero_le _, hG2, by omega, by simp⟩⟩
  have hrow : PRow (w.drew.alloc (.cells cs 32)) w.heap.size (.slice (some ⟨w.heap.size, 0, none⟩) 0 G) [] := ⟨hown, fun p hp => by cases hp⟩
  have hbel : Below w.heap.size w (w.drew.alloc (.cells cs 32)) := (Below.refl _ w).drew.alloc (by simp) _
  have HO := Lib.hid hrow; clear hown hrow
  have HB := Lib.hid hbel; clear hbel
  have HG2 := Lib.hid hG2; clear hG2
  clear hG hcs hsz hi hz0 hz1 hz2
  go_enter Tryz.func75, Tryz.ntmps75
  go_wp2_with (at_builtin; refine Lib.wpList_append_run _ rfl _ _ _ _ rfl _ _ rfl rfl _ _ (hr _) ?_)
  go_ret
  exact ⟨_, rfl, HO.out, HB.out⟩

/-- A slice of writes as it is handed in. -/
structure PPart where
  a : Option Addr
  len : Nat
  cap : Nat
  ws : List Pt
def flatPt (ps : List PPart) : List Pt := ps.flatMap (·.ws)
theorem flatPt_take_succ (ps : List PPart) (k : Nat) (h : k < ps.length) : flatPt (ps.take (k + 1)) = flatPt (ps.take k) ++ (ps[k]).ws := by
  unfold flatPt
  rw [List.take_succ_eq_append_getElem h, List.flatMap_append]
  simp
theorem flatPt_take_le (ps : List PPart) (k : Nat) : (flatPt (ps.take k)).length ≤ (flatPt ps).length := by
  have : flatPt ps = flatPt (ps.take k) ++ flatPt (ps.drop k) := by
    unfold flatPt
    rw [← List.flatMap_append, List.take_append_drop]
  rw [this, List.length_append]
  omega
/-- A row of the call's own that holds ws. -/
def POwn (ws : List Pt) (w : World) (e : Ending) (w' : World) : Prop := ∃ v, e = .returned v ∧ PRow w' w.heap.size v ws ∧ Below w.heap.size w w'
set_option maxHeartbeats 2000000 in
theorem pConcat_any (r c : Nat) (ps : List PPart) (w : World) (hr : r < w.heap.size) (hl : ps.length ≤ 1000)
    (hcell : ∀ i (h : i < ps.length), w.cell? ⟨r, i, none⟩ = some (.slice (ps[i]).a (ps[i]).len (ps[i]).cap)) (hb : ∀ i (h : i < ps.length), Pts w w.heap.size (ps[i]).a (ps[i]).len (ps[i]).cap (ps[i]).ws)
    (h0 : 0 < (flatPt ps).length) (hm : (flatPt ps).length ≤ 1000000) :
    Calls Tryz.prog 47 #[.slice (some ⟨r, 0, none⟩) ps.length c] w (POwn (flatPt ps) w) := by
  obtain ⟨n, hn⟩ : ∃ n, ps.length = n := ⟨_, rfl⟩
  have HN := Lib.hid hn
  rw [hn] at hl ⊢
  clear hn
  have n0 : (0 : Int) ≤ n := by omega
  have n1 : (n : Int) ≤ 1000 := by omega
  have HC := Lib.hid hcell; clear hcell
  have HB := Lib.hid hb; clear hb
  have HM := Lib.hid hm; clear hm
  have H0 := Lib.hid h0; clear h0
  go_enter Tryz.func47, Tryz.ntmps47
  go_wp2_with fail
  go_loop [3, 11] (fun z i => ∃ k : Nat, k ≤ n ∧ i = .int .i64 k ∧ z = .int .i64 ((flatPt (ps.take k)).length : Nat)) (fun _ i => n - (intOf i).toNat)
  case atStart => exact ⟨0, Nat.zero_le _, rfl, rfl⟩
  case round =>
    obtain ⟨k, hk, rfl, rfl⟩ := hrel
    by_cases hlt : k < n
    · have hkp : k < ps.length := by rw [HN.out]; exact hlt
      have hce := HC.out k hkp
      have hbe := (HB.out k hkp).1
      have hsu := flatPt_take_succ ps k hkp
      have hle := flatPt_take_le ps (k + 1)
      rw [hsu, List.length_append, hbe] at hle
      have hsl : (flatPt (ps.take (k + 1))).length = (flatPt (ps.take k)).length + (ps[k]).len := by rw [hsu, List.length_append, hbe]
      obtain ⟨p, hp⟩ : ∃ p, ps[k] = p := ⟨_, rfl⟩
      rw [hp] at hce hle hsl
      obtain ⟨m, hm⟩ : ∃ m, (flatPt (ps.take k)).length = m := ⟨_, rfl⟩
      rw [hm] at hle hsl ⊢
      obtain ⟨pa, pl, pc, pss⟩ := p
      dsimp only at hce hle hsl
      have hmm := HM.out
      have m0 : (0 : Int) ≤ (m : Int) := by omega
      have m1 : (m : Int) + (pl : Int) ≤ 1000000 := by omega
      have m2 : (0 : Int) ≤ (pl : Int) := by omega
      have m3 : ¬ ((m : Int) + (pl : Int) < 0) := by omega
      have k0 : (k : Int) < n := by omega
      have HSL := Lib.hid hsl; clear hsl
      clear hp hm hsu hbe hle hmm
      go_wp2_with fail
      go_round
      case rel => exact ⟨k + 1, by omega, by go_num, by rw [HSL.out]; go_num⟩
      case measure => simp [intOf]; omega
    · obtain rfl : k = n := by omega
      have ht : ps.take k = ps := List.take_of_length_le (by rw [HN.out]; exact Nat.le_refl _)
      rw [ht]
      obtain ⟨m, hm⟩ : ∃ m, (flatPt ps).length = m := ⟨_, rfl⟩
      have gr := pGrow_any m (by rw [← hm]; exact H0.out) (by rw [← hm]; exact HM.out) w
      rw [hm]
      have GR := Lib.hid gr; clear gr
      clear hm ht
      go_wp2_with fail
      refine GR.out.mono ?_
      rintro e w1 ⟨v, rfl, ho, b1⟩
      have HO := Lib.hid ho; clear ho
      have HB1 := Lib.hid b1; clear b1
      go_wp2_with fail
      go_loopw [6, 27] (fun v i wr => ∃ j : Nat, j ≤ k ∧ i = .int .i64 j ∧ PRow wr w.heap.size v (flatPt (ps.take j)) ∧ Below w.heap.size w wr) (fun _ i _ => k - (intOf i).toNat)
      case atStart => exact ⟨0, Nat.zero_le _, rfl, HO.out, HB1.out⟩
      case round =>
        obtain ⟨j, hj, rfl, ho2, hb2⟩ := hrel
        by_cases hlt2 : j < k
        · have hkp : j < ps.length := by rw [HN.out]; exact hlt2
          have hce := (hb2.cell (p := ⟨r, j, none⟩) hr).trans (HC.out j hkp)
          have hbs := (HB.out j hkp).below hb2
          have hbe := (HB.out j hkp).1
          have hsu := flatPt_take_succ ps j hkp
          have hle := flatPt_take_le ps (j + 1)
          rw [hsu, List.length_append, hbe] at hle
          obtain ⟨p, hp⟩ : ∃ p, ps[j] = p := ⟨_, rfl⟩
          rw [hp] at hce hle hsu hbs hbe
          obtain ⟨t, ht⟩ : ∃ t, flatPt (ps.take j) = t := ⟨_, rfl⟩
          rw [ht] at hle hsu ho2
          obtain ⟨pa, pl, pc, pss⟩ := p
          dsimp only at hce hle hsu hbs hbe
          have hmm := HM.out
          have k0 : (j : Int) < k := by omega
          have hnm : t.length + pl ≤ 1000000 := by omega
          have HSU := Lib.hid hsu; clear hsu
          have HO2 := Lib.hid ho2; clear ho2
          have HB2 := Lib.hid hb2; clear hb2
          have HBS := Lib.hid hbs; clear hbs
          clear hp ht hle hmm hbe
          go_wp2_with (at_builtin; refine wpList_append_prow rfl (.tmp 31) (.tmp 32) rfl w.heap.size u6 t rfl HO2.out w.heap.size pa pl pc pss rfl HBS.out hnm HB2.out.size ?_; intro v' W3 hown' hg')
          have hb3 : Below w.heap.size w W3 := app_below HB2.out HO2.out.1 hg' HB2.out.size
          have HO3 := Lib.hid hown'; clear hown'
          have HB3 := Lib.hid hb3; clear hb3 hg'
          go_wp2_with fail
          go_roundw
          case rel => exact ⟨j + 1, by omega, by go_num, by rw [HSU.out]; exact HO3.out, HB3.out⟩
          case measure => simp [intOf]; omega
        · obtain rfl : j = k := by omega
          have ht : ps.take j = ps := List.take_of_length_le (by rw [HN.out]; exact Nat.le_refl _)
          rw [ht] at ho2
          have HO2 := Lib.hid ho2
          have HB2 := Lib.hid hb2; clear hb2
          clear ho2 ht
          go_wp2_with fail
          go_ret
          exact ⟨_, rfl, HO2.out, HB2.out⟩
/-- One pointer and a list, one behind the other. -/
theorem concatP2 (w : World) (a : Option Addr) (la ca : Nat) (s : List Pt) (b : Option Addr) (lb cb : Nat) (t : List Pt) (hA : Pts w w.heap.size a la ca s) (hB : Pts w w.heap.size b lb cb t) (h0 : 0 < la + lb) (hm : la + lb ≤ 1000000) :
    Calls Tryz.prog 47 #[.slice (some ⟨w.heap.size, 0, none⟩) 2 2] (w.alloc (.cells #[.slice a la ca, .slice b lb cb] 35)) (POwn (s ++ t) (w.alloc (.cells #[.slice a la ca, .slice b lb cb] 35))) := by
  have hb : Below w.heap.size w (w.alloc (.cells #[.slice a la ca, .slice b lb cb] 35)) := (Below.refl _ w).alloc (Nat.le_refl _) _
  have hk := Blk.new w 35 #[.slice a la ca, .slice b lb cb]
  have e : flatPt [⟨a, la, ca, s⟩, ⟨b, lb, cb, t⟩] = s ++ t := by simp [flatPt]
  have el : (flatPt [⟨a, la, ca, s⟩, ⟨b, lb, cb, t⟩]).length = la + lb := by rw [e, List.length_append, hA.1, hB.1]
  have := pConcat_any w.heap.size 2 [⟨a, la, ca, s⟩, ⟨b, lb, cb, t⟩] (w.alloc (.cells #[.slice a la ca, .slice b lb cb] 35)) hk.lt (by simp)
    (fun i h => by
      rw [hk.cell i]
      match i, h with
      | 0, _ => rfl
      | 1, _ => rfl)
    (fun i h => by
      match i, h with
      | 0, _ => exact hA.step hb
      | 1, _ => exact hB.step hb)
    (by rw [el]; exact h0) (by rw [el]; exact hm)
  rw [e] at this
  exact this
end Go.Proofs.YtbggkfomfeeikaaGreatDoor
/-
  obj.Write, whatever object it is handed; nothing that was there is written.
-/
namespace Go.Proofs.YtbggkfomfeeikaaGreatDoor
open Go.RowKit Go.Shelf
set_option maxRecDepth 100000

section
variable {ops : Array Oper} {Q : Exit → Act → World → Prop} {a : Act} {w : World} {rest : List Oper} {o : Oper}
/-- copy(row, src) into a row of one's own, where src is not longer. -/
theorem wpList_copy_into (hgd : o.guard = none) (d s : Operand)
    (ho : o.op = .call { callee := .builtin .copy, args := #[d, s], argTypes := #[27, 27] })
    (base n : Nat) (v : Value) (t : List UInt8) (hd : a.eval d = v) (hr : w.ownsRow base 5 1 v n (vals t))
    (B : Nat) (A : Option Addr) (m c : Nat) (news : List UInt8) (hs : a.eval s = .slice A m c) (hb : Bsl w B A m c news) (hm : 0 < m) (hmn : m ≤ n)
    (h : ∀ w', w'.ownsRow base 5 1 v n (vals (ovrL t 0 news)) → w.grownBy w' v.ownBlock → w'.heap.size = w.heap.size → wpList Tryz.prog ops Q rest (a.put o.dst (.int .i64 m)) w') : wpList Tryz.prog ops Q (o :: rest) a w := by
  obtain ⟨h1, h2, h3, h4, h5⟩ := hb
  obtain ⟨b, of, rfl, _, hc⟩ := h5 hm
  have hl : (vals news).length = m := by simp [vals, h1]
  obtain ⟨hl0, ⟨rfl, h0⟩ | ⟨g, cap, cur, rfl, q1, q2, q3, q4, q5, q6⟩⟩ := hr
  · omega
  have hcl : cur.toList.length = cap := by rw [Array.length_toList, q5]; omega
  refine wpList_copy_own hgd d s 27 27 ho 5 Tryz.underlying27 infoB1 g 0 n cap ⟨b, of, none⟩ m c hd hs cur 5 q2 (vals news) (by rw [hl]; exact (Nat.min_eq_left hmn).symm) (fun j v hv => ?_) (by rw [hl]; omega) (fun v hv => ?_) ?_
  · obtain ⟨hj, rfl⟩ := vals_get hv
    have : (⟨b, of, none⟩ : Addr).add j = ⟨b, of + j, none⟩ := by unfold Addr.add; split <;> simp_all
    rw [this]
    exact hc j hj
  · obtain ⟨y, _, rfl⟩ := List.mem_map.1 hv
    rfl
  · have hx : (goInt (vals news).length) = .int .i64 m := by rw [hl]; rfl
    rw [hx]
    have ht : t.length = n := by simpa [vals] using hl0
    refine h _ ⟨?_, .inr ⟨g, cap, _, rfl, q1, Blk.setRow (t := 5) q2, q3, q4, ?_, ?_⟩⟩ ⟨rfl, rfl, rfl, by simp [World.setRow], fun i hi hne => setRow_other w g i _ (fun e => hne (by rw [e]; rfl))⟩ (by simp [World.setRow])
    · simp only [vals, List.length_map]
      rw [ovrL_length (by omega), ht, Nat.mul_one]
    · simp only [List.size_toArray, List.take_zero, List.nil_append, List.length_append, List.length_drop, hl, hcl]
      omega
    · rw [Nat.mul_one]
      show (cur.toList.take 0 ++ (vals news ++ cur.toList.drop (0 + (vals news).length))).take n = _
      rw [List.take_zero, List.nil_append, hl, Nat.zero_add, List.take_append, hl, List.take_of_length_le (by omega), List.take_drop, Nat.add_sub_cancel' hmn]
      rw [Nat.mul_one] at q6
      rw [q6]
      simp [ovrL, vals, h1]
end
theorem head_bytes (k l s : Nat) (Lp : List Pt) (hs : s < 65536) : hd16 k l s = headB (k, (l : Int), (s : Int), Lp) ++ List.replicate 12 0 := by
  have e0 : byteAt s 0 = UInt8.ofNat (s % 256) := UInt8.toNat_inj.1 (by rw [byteAt_toNat, ob8_of _ (by omega)]; simp)
  have e1 : byteAt s 1 = UInt8.ofNat (s / 256) := UInt8.toNat_inj.1 (by rw [byteAt_toNat, ob8_of _ (by omega)]; omega)
  show [UInt8.ofNat k, UInt8.ofNat l] ++ [byteAt s 0, byteAt s 1] ++ List.replicate 12 0 = _
  rw [e0, e1]
  rfl
theorem flat_data (Lp : List Pt) : Lp.flatMap bytesP = dataTo Lp Lp.length := by
  have e : Lp = (List.range Lp.length).map fun i => Lp.getD i p0 := by
    refine List.ext_getElem (by simp) fun i h1 h2 => ?_
    simp [List.getD_eq_getElem?_getD, h1]
  conv => lhs; rw [e]
  rw [List.flatMap_map]
  rfl
/-- What Write lays. -/
theorem block_row (k l s : Nat) (Lp : List Pt) (hs : s < 65536) (hn : Lp.length = 15) : ovrL (rowTo (p0 :: Lp) 16) 0 (hd16 k l s) = blockOb (k, (l : Int), (s : Int), Lp) := by
  have e : rowTo (p0 :: Lp) 16 = bytesP p0 ++ dataTo Lp 15 := by
    unfold rowTo
    rw [List.take_of_length_le (by simp [hn]), List.flatMap_cons, flat_data, hn]
    simp
  have hb := bytesP_length p0
  rw [e, ovrL, List.take_zero, List.nil_append, hd16_length, Nat.zero_add, List.drop_append, hb, List.drop_of_length_le (by rw [hb]; exact Nat.le_refl _), List.nil_append, Nat.sub_self, List.drop_zero, head_bytes k l s Lp hs]
  rfl
set_option maxHeartbeats 2000000 in
theorem obWrite_any (a : Option Addr) (c : Nat) (O : ObL) (w : World) (h : Pts w w.heap.size a O.2.2.2.length c O.2.2.2) (hw : WfOb O) (hz : Szs w) : Calls Tryz.prog 27 #[obV a c O] w (OutB (owriteO O).1 (owriteO O).2 w) := by
  have hwf : ∀ p ∈ O.2.2.2, WfP p := fun p hp => h.wf hp
  obtain ⟨k, l, s, Lp⟩ := O
  obtain ⟨n, hn⟩ : ∃ n, Lp.length = n := ⟨_, rfl⟩
  simp only at h hwf
  have HMY := Lib.hid (fun W (hW : Pts W W.heap.size a Lp.length c Lp) => obMay_any a c (k, l, s, Lp) W hW hw)
  simp only [obV] at HMY ⊢
  rw [hn] at h HMY ⊢
  have xb := Blk.new w 40 #[.int .u8 (k : Int), .int .i64 l, .int .i64 s, .slice a n c]
  have b0 := (Below.refl w.heap.size w).alloc (Nat.le_refl _) (.cells #[.int .u8 (k : Int), .int .i64 l, .int .i64 s, .slice a n c] 40)
  obtain ⟨w0, hw0⟩ : ∃ w0, w.alloc (.cells #[.int .u8 (k : Int), .int .i64 l, .int .i64 s, .slice a n c] 40) = w0 := ⟨_, rfl⟩
  rw [hw0] at xb b0
  have c0 := ox0 xb
  have c1 := ox1 xb
  have c2 := ox2 xb
  have c3 := ox3 xb
  have HB := Lib.hid b0
  have HP := Lib.hid (h.step b0)
  have HZ := Lib.hid (hz.step b0)
  have HX := Lib.hid xb
  have HN := Lib.hid hn
  clear xb b0 h hz hn
  by_cases hm : MayOb (k, l, s, Lp)
  · have HO := Lib.hid (show owriteO (k, l, s, Lp) = (blockOb (k, l, s, Lp), 0) by unfold owriteO; rw [if_pos hm])
    rw [HO.out]
    have HC := Lib.hid (HMY.out w0 HP.out true ⟨fun _ => hm, fun _ => rfl⟩)
    obtain ⟨⟨hk, hl, hs, hn⟩, hall⟩ := hm
    simp only at hk hl hs hn hall
    obtain ⟨l, rfl⟩ : ∃ n : Nat, l = (n : Int) := ⟨l.toNat, by omega⟩
    obtain ⟨s, rfl⟩ : ∃ n : Nat, s = (n : Int) := ⟨s.toNat, by omega⟩
    obtain rfl : n = 15 := by rw [← HN.out]; exact hn
    have HK := Lib.hid hk
    have HL := Lib.hid hl
    have HS := Lib.hid hs
    have HA := Lib.hid hall
    have HWF := Lib.hid hwf
    clear HMY hw HO hk hl hs hn hall hwf
    go_enter Tryz.func27, Tryz.ntmps27
    go_wp2_with fail
    clear c0 c1 c2 c3 hw0
    refine HC.out.mono ?_
    rintro e w1 ⟨rfl, b1⟩
    have HX1 := Lib.hid (HX.out.below b1 HX.out.lt)
    have HP1 := Lib.hid (HP.out.step b1)
    have HZ1 := Lib.hid (HZ.out.step b1)
    have HB1 := Lib.hid (HB.out.trans (b1.mono HB.out.size))
    have c3 : ∀ o, (w1.alloc o).cell? ⟨w.heap.size, 3, none⟩ = some (.slice a 15 c) := fun o => ox3 (HX1.out.alloc o)
    clear b1 HC HX HP HZ HB
    go_wp2_with fail
    have hbz : Below w1.heap.size w1 (w1.alloc (.cells #[.int .i64 0, .int .u32 0, .int .u32 0, .int .u32 0, .int .u32 0] 32)) := (Below.refl _ w1).alloc (Nat.le_refl _) _
    have hcc := concatP2 (w1.alloc (.cells #[.int .i64 0, .int .u32 0, .int .u32 0, .int .u32 0, .int .u32 0] 32)) (some ⟨w1.heap.size, 0, none⟩) 1 1 [p0] a 15 c Lp (one_pts w1 p0 wf_p0) (HP1.out.step hbz) (by omega) (by omega)
    rw [World.size_alloc] at hcc
    have hb2 := HB1.out.trans ((hbz.alloc (by rw [World.size_alloc]; omega) (.cells #[.slice (some ⟨w1.heap.size, 0, none⟩) 1 1, .slice a 15 c] 35)).mono HB1.out.size)
    obtain ⟨W2, hW2⟩ : ∃ W2, (w1.alloc (.cells #[.int .i64 0, .int .u32 0, .int .u32 0, .int .u32 0, .int .u32 0] 32)).alloc (.cells #[.slice (some ⟨w1.heap.size, 0, none⟩) 1 1, .slice a 15 c] 35) = W2 := ⟨_, rfl⟩
    rw [hW2] at hcc hb2 ⊢
    have hb12 : Below w1.heap.size w1 W2 := by rw [← hW2]; exact hbz.alloc (by rw [World.size_alloc]; omega) _
    have HX2 := Lib.hid (HX1.out.below hb12 HX1.out.lt)
    have HZ2 := Lib.hid (HZ1.out.step hb12)
    have HB2 := Lib.hid hb2
    clear hbz hb2 hW2 hb12 c3
    refine hcc.mono ?_
    rintro e w2 ⟨v2, rfl, o2, b2⟩
    obtain ⟨A2, C2, hv, hp2⟩ := o2.pts
    have e16 : ([p0] ++ Lp).length = 16 := by rw [List.length_append, HN.out]; rfl
    rw [e16] at hv hp2
    subst hv
    have hro : rowO ([p0] ++ Lp) = (rowTo (p0 :: Lp) 16, 0) := by
      unfold rowO
      rw [if_neg (by rw [e16]; omega), if_pos, e16]
      · rfl
      · intro p hp
        rcases List.mem_append.1 hp with hp | hp
        · rw [List.mem_singleton.1 hp]; exact may_p0
        · exact HA.out p hp
    have hrw := Row_any A2 16 C2 ([p0] ++ Lp) w2 hp2 (HZ2.out.step b2)
    rw [hro] at hrw
    have HRW := Lib.hid hrw
    have HX3 := Lib.hid (HX2.out.below b2 HX2.out.lt)
    have HB3 := Lib.hid (HB2.out.trans (b2.mono HB2.out.size))
    clear hcc hrw hro e16 hp2 o2 b2
    go_wp2_with fail
    refine HRW.out.mono ?_
    rintro e w3 ⟨v3, rfl, o3, b3⟩
    have hx3 := HX3.out.below b3 HX3.out.lt
    have c0 := ox0 hx3
    have c1 := ox1 hx3
    have c2 := ox2 hx3
    have c3 := ox3 hx3
    have HB4 := Lib.hid (HB3.out.trans (b3.mono HB3.out.size))
    have hr16 := rowTo_length (p0 :: Lp) 16 (by simp [HN.out]) (Nat.le_refl _)
    simp only [hr16] at o3
    have HO3 := Lib.hid o3
    have HH := Lib.hid (obHead_any a c k l s 15 w3 (by have := HK.out; omega) (by have := HL.out; omega) (by have := HS.out; omega))
    clear hx3 o3 b3 hr16
    go_wp2_with fail
    clear c0 c1 c2 c3
    refine HH.out.mono ?_
    rintro e w4 ⟨rfl, b4⟩
    have HB5 := Lib.hid (HB4.out.trans (b4.mono HB4.out.size))
    have HB6 := Lib.hid (HB5.out.alloc HB5.out.size (.cells (ar zs16) 82))
    have HO4 := Lib.hid (own_below HO3.out (b4.alloc b4.size (.cells (ar zs16) 82)))
    have HY4 := Lib.hid (Blk.new w4 82 (ar zs16))
    have sl := sliceAt16
    have HLT := Lib.hid (show ∀ k, v3.ownBlock = some k → k < w4.heap.size from fun k e => Nat.lt_of_lt_of_le (HO3.out.lt k e).2 b4.size)
    clear b4
    go_wp2_with (first
      | (with_reducible refine copyAt ?_
         refine wpList_copy_into rfl (.tmp 22) (.tmp 23) rfl w2.heap.size 256 v3 (rowTo (p0 :: Lp) 16) rfl HO5.out w5.heap.size (some ⟨w4.heap.size, 0, none⟩) 16 16 (hd16 k l s) rfl HY5.out (by omega) (by omega) ?_
         intro w6 o6 g6 _
         have HO6 := Lib.hid o6
         have HB8 := Lib.hid (app_below HB7.out (own_mono HO5.out HB3.out.size) g6 HB7.out.size)
         clear o6 g6)
      | (with_reducible refine at_store16 ?_
         refine wpList_store16 rfl (.tmp 6) (.tmp 21) rfl w4.heap.size (hd16 k l s) zs16 rfl rfl (hd16_length k l s) HY4.out zs16_length ?_
         intro w5 hx5 hg5
         have HY5 := Lib.hid (hx5.bsl (hd16_length k l s) (by omega))
         have HO5 := Lib.hid (own_other HO4.out hg5 (fun k e => by have := HLT.out k e; omega))
         have HB7 := Lib.hid (below_only HB6.out HB5.out.size hg5 HB6.out.size)
         clear hx5 hg5))
    go_ret2
    refine ⟨v3, rfl, ?_, HB8.out⟩
    have ho := own_mono HO6.out HB3.out.size
    rw [block_row k l s Lp (by have := HS.out; omega) HN.out] at ho
    rw [blockOb_length]
    exact ho
  · have HO := Lib.hid (show owriteO (k, l, s, Lp) = ([], 8) by unfold owriteO; rw [if_neg hm])
    rw [HO.out]
    have HC := Lib.hid (HMY.out w0 HP.out false ⟨fun x => (by cases x), fun x => absurd x hm⟩)
    clear HMY hw HO hm hwf
    go_enter Tryz.func27, Tryz.ntmps27
    go_wp2_with fail
    clear c0 c1 c2 c3 hw0
    refine HC.out.mono ?_
    rintro e w1 ⟨rfl, b1⟩
    have HB1 := Lib.hid (HB.out.trans (b1.mono HB.out.size))
    clear b1
    go_wp2_with fail
    go_ret2
    exact outB_no rfl HB1.out
end Go.Proofs.YtbggkfomfeeikaaGreatDoor
/-
  The document's own Read of layer 14.
-/
namespace Go.Proofs.YtbggkfomfeeikaaGreatDoor
open Go.RowKit Go.Shelf
set_option maxRecDepth 100000

theorem far4 {w : World} {g g' : Nat} {t : TypeId} {cs : Array Value} (h : Blk w g' t cs) (hne : g' ≠ g) (v0 v1 v2 v3 : Value) : Blk ((((w.setCell ⟨g, 0, none⟩ v0).setCell ⟨g, 1, none⟩ v1).setCell ⟨g, 2, none⟩ v2).setCell ⟨g, 3, none⟩ v3) g' t cs :=
  (((h.far (p := ⟨g, 0, none⟩) hne v0).far (p := ⟨g, 1, none⟩) hne v1).far (p := ⟨g, 2, none⟩) hne v2).far (p := ⟨g, 3, none⟩) hne v3
end Go.Proofs.YtbggkfomfeeikaaGreatDoor
/-
  obj.Read, whatever bytes it is handed; nothing that was there is written.
-/
namespace Go.Proofs.YtbggkfomfeeikaaGreatDoor
open Go.RowKit Go.Shelf
set_option maxRecDepth 100000

/-- Where a slice of pointers lies that the call made: in a block of its own. -/
def HiP (w : World) (base : Nat) (a : Option Addr) : Prop := ∀ p, a = some p → base ≤ p.block ∧ ∃ cs, Blk w p.block 32 cs
theorem HiP.none (w : World) (base : Nat) : HiP w base none := fun _ h => (by cases h)
theorem HiP.below {w w' : World} {base : Nat} {a : Option Addr} (h : HiP w base a) (hb : Below w.heap.size w w') : HiP w' base a := fun p e => by
  obtain ⟨h1, cs, h3⟩ := h p e
  exact ⟨h1, cs, h3.below hb h3.lt⟩
theorem HiP.less {w : World} {B B' : Nat} {a : Option Addr} (h : HiP w B a) (hB : B' ≤ B) : HiP w B' a := fun p e => by
  obtain ⟨h1, h2⟩ := h p e
  exact ⟨Nat.le_trans hB h1, h2⟩
/-- An object and an error's number; its pointers are new memory. -/
def OutOp (o : ObL × Nat) (w : World) (e : Ending) (w' : World) : Prop := ∃ a c, e = .returned (.tuple #[.agg #[.int .u8 (o.1.1 : Int), .int .i64 o.1.2.1, .int .i64 o.1.2.2.1, .slice a o.1.2.2.2.length c], .int .i64 o.2]) ∧ Pts w' w'.heap.size a o.1.2.2.2.length c o.1.2.2.2 ∧ HiP w' w.heap.size a ∧ Below w.heap.size w w'
theorem outOp_no (c : Nat) {w w' : World} (hb : Below w.heap.size w w') : OutOp (ob0, c) w (.returned (.tuple #[.agg #[.int .u8 0, .int .i64 0, .int .i64 0, .slice none 0 0], .int .i64 c])) w' := ⟨none, 0, rfl, pts_nil _ _, HiP.none _ _, hb⟩
/-- Two lists of bytes in a row that has just been made. -/
theorem concatB2 (w : World) (a : Option Addr) (la ca : Nat) (s : List UInt8) (b : Option Addr) (lb cb : Nat) (t : List UInt8) (hA : Bsl w w.heap.size a la ca s) (hB : Bsl w w.heap.size b lb cb t) (h0 : 0 < la + lb) (hm : la + lb ≤ 100000) :
    Calls Tryz.prog 83 #[.slice (some ⟨w.heap.size, 0, none⟩) 2 2] (w.alloc (.cells #[.slice a la ca, .slice b lb cb] 27)) (OwnPost (s ++ t) (w.alloc (.cells #[.slice a la ca, .slice b lb cb] 27))) := by
  have hb : Below w.heap.size w (w.alloc (.cells #[.slice a la ca, .slice b lb cb] 27)) := (Below.refl _ w).alloc (Nat.le_refl _) _
  have hk := Blk.new w 27 #[.slice a la ca, .slice b lb cb]
  have e : flat [⟨a, la, ca, s⟩, ⟨b, lb, cb, t⟩] = s ++ t := by simp [flat]
  have el : (flat [⟨a, la, ca, s⟩, ⟨b, lb, cb, t⟩]).length = la + lb := by rw [e, List.length_append, hA.1, hB.1]
  have := concat_own w.heap.size 2 [⟨a, la, ca, s⟩, ⟨b, lb, cb, t⟩] (w.alloc (.cells #[.slice a la ca, .slice b lb cb] 27)) hk.lt (by simp) (by simp)
    (fun i h => by
      rw [hk.cell i]
      match i, h with
      | 0, _ => rfl
      | 1, _ => rfl)
    (fun i h => by
      match i, h with
      | 0, _ => exact hA.step hb
      | 1, _ => exact hB.step hb)
    (by rw [el]; exact h0) (by rw [el]; exact hm)
  rw [e] at this
  exact this
theorem rows_of (b : List UInt8) : rowsL (zs16 ++ b.drop 16) = p0 :: ptsOb b 15 := by
  unfold rowsL ptsOb
  rw [List.range_succ_eq_map, List.map_cons, List.map_map]
  congr 1
  refine List.map_congr_left fun i _ => ?_
  show getP (winP _ (i + 1)) = _
  unfold winP winOb
  rw [List.drop_append, List.drop_of_length_le (by rw [zs16_length]; omega), List.nil_append, zs16_length, List.drop_drop]
  congr 3
theorem rowsO_of (b : List UInt8) (hb : b.length = 256) : rowsO (zs16 ++ b.drop 16) = if ∀ p ∈ ptsOb b 15, MayP p then (p0 :: ptsOb b 15, 0) else ([], 8) := by
  unfold rowsO
  rw [if_pos (by rw [List.length_append, zs16_length, List.length_drop, hb]), rows_of]
  by_cases h : ∀ p ∈ ptsOb b 15, MayP p
  · rw [if_pos h, if_pos]
    intro p hp
    rcases List.mem_cons.1 hp with rfl | hp
    · exact may_p0
    · exact h p hp
  · rw [if_neg h, if_neg]
    exact fun hh => h fun p hp => hh p (List.mem_cons_of_mem _ hp)
theorem prow_tail {w : World} {base : Nat} {v : Value} {p : Pt} {L : List Pt} (h : PRow w base v (p :: L)) : ∃ g c, v = .slice (some ⟨g, 0, none⟩) (L.length + 1) c ∧ base ≤ g ∧ L.length + 1 ≤ c ∧ (∃ cs, Blk w g 32 cs) ∧ Pts w w.heap.size (some ⟨g, 5, none⟩) L.length (c - 1) L := by
  obtain ⟨a, c, e, hp⟩ := h.pts
  obtain ⟨h1, h2, h3, h4, h5⟩ := hp
  obtain ⟨b, off, ea, hlt, hc⟩ := h5 (by simp)
  obtain ⟨⟨hl, ⟨rfl, h0⟩ | ⟨g, cap, cur, rfl, q1, q2, q3, q4, q5, q6⟩⟩, hw⟩ := h
  · simp at h0
  · cases e
    cases ea
    simp only [List.length_cons] at h2 h3
    refine ⟨_, _, rfl, q1, h2, ⟨_, q2⟩, rfl, by omega, by omega, fun e => (by cases e), fun _ => ⟨_, 5, rfl, hlt, fun i hi => ?_⟩⟩
    have := hc (i + 1) (by simpa using hi)
    refine ⟨this.1, fun j u hu => ?_⟩
    have := this.2 j u hu
    rwa [show 0 + (i + 1) * 5 + j = 5 + i * 5 + j by omega] at this
theorem slice_ptr1 (W : World) (g c : Nat) (hc : 16 ≤ c) : (Instr.slice 35 (.slice (some ⟨g, 0, none⟩) 16 c) (some (.int .i64 1)) none none).run Tryz.prog W = .ok (.slice (some ⟨g, 5, none⟩) 15 (c - 1)) W := by
  rw [run_slice_l W 35 _ _ _ (by kernel_rfl) .i64 _ (by omega) (by omega)]
  have hz : (Go.sizeOf (Tryz.prog.elem 35)).run Tryz.prog W = .ok 5 W := by kernel_rfl
  rw [hz]
  simp [Result.andThen, sliced, Addr.add]
  omega
theorem load16_run (W : World) (g : Nat) (s : List UInt8) (hb : Blk W g 82 (ar s)) (hs : s.length = 16) : (loadVar 82 ⟨g, 0, none⟩).run Tryz.prog W = .ok (.agg (ar s)) W :=
  run_loadVar_row W g 82 82 (ar s) (0, 0) _ hb Tryz.underlying82 rfl (by rw [infoA16, ar_size, hs])
theorem exec_load16 {ev : Operand → Value} {o : Oper} {x : Operand} {X : World} {g : Nat} {s : List UInt8} (ho : o.op = .load 82 x) (hx : ev x = .pointer (some ⟨g, 0, none⟩)) (hb : Blk X g 82 (ar s)) (hs : s.length = 16) : (execOp ev o).run Tryz.prog X = .ok (.value (.agg (ar s))) X := by
  unfold execOp
  simp only [ho, hx, Instr.loadAt, Instr.sureAddr, Sem.run_bind, Sem.run_pure, Result.andThen_ok, load16_run X g s hb hs]
theorem hd_take (b : List UInt8) (h : b.length = 256) : hdO (b.take 16) = ((b.getD 0 0).toNat, (b.getD 1 0).toNat, (b.getD 2 0).toNat + 256 * (b.getD 3 0).toNat) := by
  match b, h with
  | x0 :: x1 :: x2 :: x3 :: r, _ =>
    show (x0.toNat, x1.toNat, leN [x2, x3]) = _
    simp [leN]
theorem bytes_win (b : List UInt8) (h : b.length = 256) : dataTo (ptsOb b 15) 15 = b.drop 16 := by
  have e : ∀ k, k ≤ 15 → (List.range k).flatMap (fun i => bytesP ((ptsOb b 15).getD i p0)) = (b.drop 16).take (16 * k) := by
    intro k
    induction k with
    | zero => intro _; simp
    | succ k ih =>
      intro hk
      rw [List.range_succ, List.flatMap_append, ih (by omega)]
      have hg : (ptsOb b 15).getD k p0 = getP (winOb b k) := by
        unfold ptsOb
        rw [List.getD_eq_getElem?_getD, List.getElem?_map, List.getElem?_range (by omega)]
        rfl
      simp only [List.flatMap_cons, List.flatMap_nil, List.append_nil, hg]
      rw [bytesP_getP (by unfold winOb; rw [List.length_take, List.length_drop]; omega)]
      unfold winOb
      rw [← List.drop_drop]
      rw [show 16 * (k + 1) = 16 * k + 16 by omega, List.take_add]
  have := e 15 (Nat.le_refl _)
  rw [List.take_of_length_le (by rw [List.length_drop]; omega)] at this
  exact this
theorem Pts.same {w w' : World} {g off len cap B B' : Nat} {L : List Pt} {t : TypeId} {cs : Array Value} (h : Pts w B (some ⟨g, off, none⟩) len cap L) (h1 : Blk w g t cs) (h2 : Blk w' g t cs) (hB : g < B') : Pts w' B' (some ⟨g, off, none⟩) len cap L := by
  obtain ⟨q1, q2, q3, q4, q5⟩ := h
  refine ⟨q1, q2, q3, q4, fun hl => ?_⟩
  obtain ⟨b, o, e, _, hc⟩ := q5 hl
  cases e
  exact ⟨_, _, rfl, hB, fun i hi => ⟨(hc i hi).1, fun j u hu => ((h2.cell _).trans (h1.cell _).symm).trans ((hc i hi).2 j u hu)⟩⟩
theorem Pts.at_blk {w : World} {g off len cap : Nat} {f : _} {L : List Pt} {B g7 : Nat} (h : Pts w B (some ⟨g, off, f⟩) len cap L) (hg : g < g7) : True ∧ ∀ {w' : World} {B' : Nat}, Below g7 w w' → g < B' → Pts w' B' (some ⟨g, off, f⟩) len cap L :=
  ⟨trivial, fun {w' B'} hb hB => by
    obtain ⟨h1, h2, h3, h4, h5⟩ := h
    refine ⟨h1, h2, h3, h4, fun hl => ?_⟩
    obtain ⟨b, o, e, _, hc⟩ := h5 hl
    cases e
    exact ⟨_, _, rfl, hB, fun i hi => ⟨(hc i hi).1, fun j u hu => (hb.cell (p := ⟨g, off + i * 5 + j, none⟩) hg).trans ((hc i hi).2 j u hu)⟩⟩⟩
set_option linter.unusedSimpArgs false in
set_option maxHeartbeats 8000000 in
theorem obRead_any (a : Option Addr) (c : Nat) (b : List UInt8) (w : World) (hA : Bsl w w.heap.size a b.length c b) (hz : Szs w) : Calls Tryz.prog 56 #[.slice a b.length c] w (OutOp (oreadO b) w) := by
  have hmx : Tryz.prog.follows Departure.mixedOrders = true := by kernel_rfl
  have hl9 := hA.len_le
  have l0 : (0 : Int) ≤ b.length := by omega
  have xb := Blk.new w 40 #[.int .u8 0, .int .i64 0, .int .i64 0, .slice none 0 0]
  have b0 := (Below.refl w.heap.size w).alloc (Nat.le_refl _) (.cells #[.int .u8 0, .int .i64 0, .int .i64 0, .slice none 0 0] 40)
  obtain ⟨w0, hw0⟩ : ∃ w0, w.alloc (.cells #[.int .u8 0, .int .i64 0, .int .i64 0, .slice none 0 0] 40) = w0 := ⟨_, rfl⟩
  have hz0 : w0.heap.size = w.heap.size + 1 := by rw [← hw0, World.size_alloc]
  rw [hw0] at xb b0
  obtain ⟨g, hg⟩ : ∃ g, w.heap.size = g := ⟨_, rfl⟩
  have HGE := Lib.hid (show w.heap.size ≤ g by omega)
  have HG0 := Lib.hid (show g < w0.heap.size by omega)
  rw [hg] at xb
  have HZ := Lib.hid xb
  have HB := Lib.hid b0
  have HA := Lib.hid (hA.step b0)
  have HS := Lib.hid (hz.step b0)
  clear xb b0 hA hz0 hz
  by_cases h : b.length = 256
  · have HL := Lib.hid h
    rw [h] at HA ⊢
    obtain ⟨bb, off, rfl, _, _⟩ := HA.out.2.2.2.2 (by omega)
    have hcap := HA.out.2.1
    have e1 : (((256 : Nat) : Int) != 256) = false := rfl
    clear h
    go_enter Tryz.func56, Tryz.ntmps56
    go_wp2_with fail
    try rw [hw0]
    try rw [hg]
    obtain ⟨wd, hwd⟩ : ∃ wd, w0.drew = wd := ⟨_, rfl⟩
    have bb0 : Below w0.heap.size w0 wd := by rw [← hwd]; exact (Below.refl _ w0).drew
    replace HZ := Lib.hid (HZ.out.below bb0 HZ.out.lt)
    replace HB := Lib.hid (HB.out.trans (bb0.mono HB.out.size))
    replace HA := Lib.hid (HA.out.step bb0)
    replace HS := Lib.hid (HS.out.step bb0)
    have hsl : ∀ W : World, (Instr.slice 27 (.slice (some ⟨bb, off, none⟩) 256 c) (some (.int .i64 16)) none none).run Tryz.prog W = .ok (.slice (some ⟨bb, off + 16, none⟩) 240 (c - 16)) W := fun W => slice_from_l W bb off 256 c 16 (by omega) hcap
    have hmk : ∀ W : World, (Instr.makeSlice 27 (.int .i64 16) (.int .i64 16)).run Tryz.prog W = .ok (.slice (some ⟨W.heap.size, 0, none⟩) 16 16) (W.alloc (.cells (ar zs16) 5)) := fun W => mkBytes 16 (by omega) W
    have hwd0 := Below.refl wd.heap.size wd
    refine wpI_start (Below wd.heap.size wd) [1, 2, 0, 3, 4, 5, 6, 7, 8, 9, 10] hmx rfl hwd ?_
    clear hwd bb0 hw0 hg e1
    iterate 2 (
      refine wpI_read (v := ?_) hwd0 rfl (by kernel_rfl) (by kernel_rfl) (by kernel_rfl) (fun _ _ _ h => h) (.inl ⟨by rfl, ?_⟩) ?_
      rotate_left
      · intro X hX
        clear hX
        go_simp
        with_reducible rfl
      try simp only [Act.put, List.setIfInBounds_toArray, List.set_cons_zero, List.set_cons_succ])
    clear hsl
    refine wpI_lone rfl (by kernel_rfl) (fun K hK => ?_)
    go_simp
    have bq := (Below.refl wd.heap.size wd).alloc (Nat.le_refl _) (.cells (ar zs16) 5)
    have hx := (Blk.new wd 5 (ar zs16)).bsl zs16_length (by omega)
    obtain ⟨w1, hn⟩ : ∃ X, wd.alloc (.cells (ar zs16) 5) = X := ⟨_, rfl⟩
    obtain ⟨g1, hg1⟩ : ∃ X, wd.heap.size = X := ⟨_, rfl⟩
    rw [hn] at bq hx ⊢
    have hsb := bq
    rw [hg1] at hx ⊢
    have HX1 := Lib.hid hx
    replace HZ := Lib.hid (HZ.out.below bq HZ.out.lt)
    replace HB := Lib.hid (HB.out.trans (bq.mono HB.out.size))
    replace HA := Lib.hid (HA.out.step bq)
    replace HS := Lib.hid (HS.out.step bq)
    refine hK _ _ hsb ?_
    clear hK K hn hg1 bq hx hmk
    try simp only [Act.put, List.setIfInBounds_toArray, List.set_cons_zero, List.set_cons_succ]
    refine wpI_lone rfl (by kernel_rfl) (fun K hK => ?_)
    go_simp
    have bq := (Below.refl w1.heap.size w1).alloc (Nat.le_refl _) (.cells #[.slice (some ⟨g1, 0, none⟩) 16 16, .slice (some ⟨bb, off + 16, none⟩) 240 (c - 16)] 27)
    have hwin : Bsl w1 w1.heap.size (some ⟨bb, off + 16, none⟩) 240 (c - 16) (b.drop 16) := by
      have := HA.out.win 16 240 (by omega)
      rwa [List.take_of_length_le (by rw [List.length_drop, HL.out]; omega)] at this
    have hcc := concatB2 w1 (some ⟨g1, 0, none⟩) 16 16 zs16 (some ⟨bb, off + 16, none⟩) 240 (c - 16) (b.drop 16) HX1.out hwin (by omega) (by omega)
    obtain ⟨w2, hn⟩ : ∃ X, w1.alloc (.cells #[.slice (some ⟨g1, 0, none⟩) 16 16, .slice (some ⟨bb, off + 16, none⟩) 240 (c - 16)] 27) = X := ⟨_, rfl⟩
    obtain ⟨g2, hg2⟩ : ∃ X, w1.heap.size = X := ⟨_, rfl⟩
    rw [hn] at bq hcc ⊢
    rw [hg2] at hcc ⊢
    have hsb2 := hsb.trans (bq.mono hsb.size)
    have HCC := Lib.hid hcc
    replace HZ := Lib.hid (HZ.out.below bq HZ.out.lt)
    replace HB := Lib.hid (HB.out.trans (bq.mono HB.out.size))
    replace HA := Lib.hid (HA.out.step bq)
    replace HS := Lib.hid (HS.out.step bq)
    refine hK _ _ hsb2 ?_
    clear hK K hn hg2 bq hwin hcc HX1 hsb
    try simp only [Act.put, List.setIfInBounds_toArray, List.set_cons_zero, List.set_cons_succ]
    refine wpI_lone rfl (by kernel_rfl) (fun K hK => ?_)
    go_simp
    refine HCC.out.mono ?_
    rintro ev w3 ⟨v3, rfl, ho3, bq⟩
    have hlen : (zs16 ++ b.drop 16).length = 256 := by rw [List.length_append, zs16_length, List.length_drop, HL.out]
    rw [hlen] at ho3
    obtain ⟨A3, C3, rfl, hb3⟩ := own_to ho3
    have hsb3 := hsb2.trans (bq.mono hsb2.size)
    replace HZ := Lib.hid (HZ.out.below bq HZ.out.lt)
    replace HB := Lib.hid (HB.out.trans (bq.mono HB.out.size))
    replace HA := Lib.hid (HA.out.step bq)
    replace HS := Lib.hid (HS.out.step bq)
    have hrw := Rows_any A3 256 C3 _ w3 hb3 HS.out
    rw [rowsO_of b HL.out] at hrw
    refine hK _ _ hsb3 ?_
    clear hK K bq hlen ho3 hb3 hsb2 HCC
    try simp only [Act.put, List.setIfInBounds_toArray, List.set_cons_zero, List.set_cons_succ]
    by_cases hall : ∀ p ∈ ptsOb b 15, MayP p
    · rw [if_pos hall] at hrw
      have HRW := Lib.hid hrw
      have HAL := Lib.hid hall
      clear hrw hall
      refine wpI_lone rfl (by kernel_rfl) (fun K hK => ?_)
      go_simp
      refine HRW.out.mono ?_
      rintro ev w4 ⟨v4, rfl, hp4, bq⟩
      have HB3 := Lib.hid (show w.heap.size ≤ w3.heap.size from HB.out.size)
      have HZ0 := Lib.hid (show g < w3.heap.size from HZ.out.lt)
      have hsb4 := hsb3.trans (bq.mono hsb3.size)
      replace HZ := Lib.hid (HZ.out.below bq HZ.out.lt)
      replace HB := Lib.hid (HB.out.trans (bq.mono HB.out.size))
      replace HA := Lib.hid (HA.out.step bq)
      replace HS := Lib.hid (HS.out.step bq)
      obtain ⟨g4, c4, rfl, hg4, hc4, ⟨cs4, hk4⟩, ht4⟩ := prow_tail hp4
      have hl15 : (ptsOb b 15).length = 15 := ptsOb_length b 15
      rw [hl15] at ht4 hc4 ⊢
      have HP := Lib.hid ht4
      have HQ := Lib.hid hk4
      have HG4 := Lib.hid (show w.heap.size ≤ g4 from Nat.le_trans HB3.out hg4)
      have HZ3 := Lib.hid (show g < g4 from Nat.lt_of_lt_of_le HZ0.out hg4)
      refine hK _ _ hsb4 ?_
      clear hK K bq hsb3 HRW hp4 hg4 hk4 ht4 HB3
      try simp only [Act.put, List.setIfInBounds_toArray, List.set_cons_zero, List.set_cons_succ]
      iterate 5 (
        refine wpI_read (v := ?_) hsb4 rfl (by kernel_rfl) (by kernel_rfl) (by kernel_rfl) (fun _ _ _ h => h) (.inl ⟨by rfl, ?_⟩) ?_
        rotate_left
        · intro X hX
          clear hX
          go_simp
          with_reducible rfl
        try simp only [Act.put, List.setIfInBounds_toArray, List.set_cons_zero, List.set_cons_succ])
      refine wpI_done (by kernel_rfl) ?_
      clear hsb4 hwd0
      have hap : ∀ W : World, (Instr.arrayAt 82 (.slice (some ⟨bb, off, none⟩) 256 c)).run Tryz.prog W = .ok (.pointer (some ⟨bb, off, none⟩)) W := fun W => arrayAt16 _ 256 c (by omega) W
      have HH := Lib.hid (HA.out.pre 16 (by omega))
      have HHL := Lib.hid (show (b.take 16).length = 16 by rw [List.length_take, HL.out]; rfl)
      have HHD := Lib.hid (hd_take b HL.out)
      obtain ⟨hh, hhe⟩ : ∃ X, b.take 16 = X := ⟨_, rfl⟩
      rw [hhe] at HH HHL HHD
      have HHE := Lib.hid hhe
      clear hhe
      have bq := (Below.refl w4.heap.size w4).alloc (Nat.le_refl _) (.cells (ar zs16) 82)
      have HY4 := Lib.hid (Blk.new w4 82 (ar zs16))
      have HBA := Lib.hid bq
      clear bq
      go_wp2_with (first
        | (with_reducible refine at_load16 ?_
           refine wpList_load16_bsl rfl (.tmp 26) rfl bb off c _ hh rfl HH.out ?_)
        | (with_reducible refine at_store16 ?_
           refine wpList_store16 rfl (.tmp 6) (.tmp 27) rfl w4.heap.size hh zs16 rfl rfl HHL.out HY4.out zs16_length ?_
           intro w5 hx5 hg5
           have bq := HBA.out.grown hg5 HBA.out.size (fun k e => by injection e with e; omega)
           have HX := Lib.hid hx5
           replace HZ := Lib.hid (HZ.out.below bq HZ.out.lt)
           replace HB := Lib.hid (HB.out.trans (bq.mono HB.out.size))
           replace HA := Lib.hid (HA.out.step bq)
           replace HS := Lib.hid (HS.out.step bq)
           replace HP := Lib.hid (HP.out.step bq)
           replace HQ := Lib.hid (HQ.out.below bq HQ.out.lt)
           clear hx5 hg5 bq))
      simp only [Act.put]
      clear hap HY4 HBA HH
      obtain ⟨wd7, hwd⟩ : ∃ wd, w5.drew = wd := ⟨_, rfl⟩
      have bb0 : Below w5.heap.size w5 wd7 := by rw [← hwd]; exact (Below.refl _ w5).drew
      replace HZ := Lib.hid (HZ.out.below bb0 HZ.out.lt)
      replace HB := Lib.hid (HB.out.trans (bb0.mono HB.out.size))
      replace HA := Lib.hid (HA.out.step bb0)
      replace HS := Lib.hid (HS.out.step bb0)
      replace HP := Lib.hid (HP.out.step bb0)
      replace HQ := Lib.hid (HQ.out.below bb0 HQ.out.lt)
      replace HX := Lib.hid (HX.out.below bb0 HX.out.lt)
      have hsp : ∀ W : World, (Instr.slice 35 (.slice (some ⟨g4, 0, none⟩) 16 c4) (some (.int .i64 1)) none none).run Tryz.prog W = .ok (.slice (some ⟨g4, 5, none⟩) 15 (c4 - 1)) W := fun W => slice_ptr1 W g4 c4 (by omega)
      obtain ⟨g6, hg6⟩ : ∃ X, w4.heap.size = X := ⟨_, rfl⟩
      rw [hg6] at HX ⊢
      clear hg6
      have hob := obObject_any hh HHL.out (some ⟨g4, 5, none⟩) 15 (c4 - 1)
      obtain ⟨x0, hx0⟩ : ∃ n, (b.getD 0 0).toNat = n := ⟨_, rfl⟩
      obtain ⟨x1, hx1⟩ : ∃ n, (b.getD 1 0).toNat = n := ⟨_, rfl⟩
      obtain ⟨x2, hx2⟩ : ∃ n, (b.getD 2 0).toNat + 256 * (b.getD 3 0).toNat = n := ⟨_, rfl⟩
      have y0 := (b.getD 0 0).toNat_lt
      have y1 := (b.getD 1 0).toNat_lt
      have y2 := (b.getD 2 0).toNat_lt
      have y3 := (b.getD 3 0).toNat_lt
      rw [HHD.out, hx0, hx1, hx2] at hob
      have HOB := Lib.hid hob
      have HN := Lib.hid (And.intro hx0 (And.intro hx1 hx2))
      have HY0 := Lib.hid (show x0 < 256 ∧ x1 < 256 ∧ x2 < 65536 by omega)
      clear hob hx0 hx1 hx2 y0 y1 y2 y3 HHD
      have hwd7 := Below.refl wd7.heap.size wd7
      refine wpI_start (Below wd7.heap.size wd7) [0, 1, 2, 3, 4, 5] hmx rfl hwd ?_
      clear hwd bb0
      refine wpI_read (v := .agg (ar hh)) hwd7 rfl (by kernel_rfl) (by kernel_rfl) (by kernel_rfl) (fun _ _ _ h => h) (.inl ⟨by rfl, fun X hX => exec_load16 rfl rfl (HX.out.below hX (by have := HX.out.lt; omega)) HHL.out⟩) ?_
      try simp only [Act.put, List.setIfInBounds_toArray, List.set_cons_zero, List.set_cons_succ]
      iterate 2 (
        refine wpI_read (v := ?_) hwd7 rfl (by kernel_rfl) (by kernel_rfl) (by kernel_rfl) (fun _ _ _ h => h) (.inl ⟨by rfl, ?_⟩) ?_
        rotate_left
        · intro X hX
          clear hX
          go_simp
          with_reducible rfl
        try simp only [Act.put, List.setIfInBounds_toArray, List.set_cons_zero, List.set_cons_succ])
      clear hsp
      refine wpI_fork rfl rfl (by kernel_rfl) (fun K hK => ?_) (fun K hK => ?_)
      · go_simp
        refine (HOB.out wd7).mono ?_
        rintro ev w6 ⟨rfl, bq⟩
        have hsb6 := hwd7.trans (bq.mono hwd7.size)
        replace HZ := Lib.hid (HZ.out.below bq HZ.out.lt)
        replace HB := Lib.hid (HB.out.trans (bq.mono HB.out.size))
        replace HA := Lib.hid (HA.out.step bq)
        replace HS := Lib.hid (HS.out.step bq)
        replace HP := Lib.hid (HP.out.step bq)
        replace HQ := Lib.hid (HQ.out.below bq HQ.out.lt)
        replace HX := Lib.hid (HX.out.below bq HX.out.lt)
        refine hK _ _ hsb6 ?_
        clear hK K bq
        try simp only [Act.put, List.setIfInBounds_toArray, List.set_cons_zero, List.set_cons_succ]
        refine wpI_lone rfl (by kernel_rfl) (fun K hK => ?_)
        go_simp
        have bq := (Below.refl w6.heap.size w6).alloc (Nat.le_refl _) (.cells #[.int .u8 0, .int .i64 0, .int .i64 0, .slice none 0 0] 40)
        have hy := Blk.new w6 40 #[.int .u8 0, .int .i64 0, .int .i64 0, .slice none 0 0]
        obtain ⟨w7, hn⟩ : ∃ X, w6.alloc (.cells #[.int .u8 0, .int .i64 0, .int .i64 0, .slice none 0 0] 40) = X := ⟨_, rfl⟩
        obtain ⟨g7, hg7⟩ : ∃ X, w6.heap.size = X := ⟨_, rfl⟩
        have HG7 := Lib.hid (show wd7.heap.size ≤ g7 ∧ w.heap.size ≤ g7 ∧ g < g7 ∧ g4 < g7 ∧ g6 < g7 by have := hsb6.size; have := HB.out.size; have := HZ.out.lt; have := HQ.out.lt; have := HX.out.lt; omega)
        rw [hn] at bq hy ⊢
        rw [hg7] at hy ⊢
        have hsb7 := hsb6.trans (bq.mono hsb6.size)
        replace HZ := Lib.hid (HZ.out.below bq HZ.out.lt)
        replace HB := Lib.hid (HB.out.trans (bq.mono HB.out.size))
        replace HA := Lib.hid (HA.out.step bq)
        replace HS := Lib.hid (HS.out.step bq)
        replace HP := Lib.hid (HP.out.step bq)
        replace HQ := Lib.hid (HQ.out.below bq HQ.out.lt)
        replace HX := Lib.hid (HX.out.below bq HX.out.lt)
        have HY := Lib.hid hy
        refine hK _ _ hsb7 ?_
        clear hK K hn hg7 bq hy
        try simp only [Act.put, List.setIfInBounds_toArray, List.set_cons_zero, List.set_cons_succ]
        refine wpI_lone rfl (by kernel_rfl) (fun K hK => ?_)
        have m0 := ox0 HY.out
        have m1 := ox1 HY.out
        have m2 := ox2 HY.out
        have m3 := ox3 HY.out
        have hfz := fun i => HY.out.frozen i
        go_simp
        have xo := HY.out.set4 (.int .u8 (x0 : Int)) (.int .i64 (x1 : Int)) (.int .i64 (x2 : Int)) (.slice (some ⟨g4, 5, none⟩) 15 (c4 - 1))
        have bo := below_set4 hsb7 HG7.out.1 (.int .u8 (x0 : Int)) (.int .i64 (x1 : Int)) (.int .i64 (x2 : Int)) (.slice (some ⟨g4, 5, none⟩) 15 (c4 - 1))
        have bB := below_set4 HB.out HG7.out.2.1 (.int .u8 (x0 : Int)) (.int .i64 (x1 : Int)) (.int .i64 (x2 : Int)) (.slice (some ⟨g4, 5, none⟩) 15 (c4 - 1))
        have hfr := below_set4 (Below.refl g7 w7) (Nat.le_refl g7) (.int .u8 (x0 : Int)) (.int .i64 (x1 : Int)) (.int .i64 (x2 : Int)) (.slice (some ⟨g4, 5, none⟩) 15 (c4 - 1))
        obtain ⟨w8, hn⟩ : ∃ X, (((w7.setCell ⟨g7, 0, none⟩ (.int .u8 (x0 : Int))).setCell ⟨g7, 1, none⟩ (.int .i64 (x1 : Int))).setCell ⟨g7, 2, none⟩ (.int .i64 (x2 : Int))).setCell ⟨g7, 3, none⟩ (.slice (some ⟨g4, 5, none⟩) 15 (c4 - 1)) = X := ⟨_, rfl⟩
        rw [hn] at xo bo bB hfr ⊢
        refine hK _ _ bo ?_
        have hsz : w7.heap.size ≤ w8.heap.size := by rw [← hn]; simp [World.setCell]
        replace HY := Lib.hid xo
        replace HB := Lib.hid bB
        replace HZ := Lib.hid (HZ.out.below hfr HG7.out.2.2.1)
        replace HQ := Lib.hid (HQ.out.below hfr HG7.out.2.2.2.1)
        replace HX := Lib.hid (HX.out.below hfr HG7.out.2.2.2.2)
        replace HP := Lib.hid (show Pts w8 w8.heap.size (some ⟨g4, 5, none⟩) 15 (c4 - 1) (ptsOb b 15) from (HP.out.at_blk HG7.out.2.2.2.1).2 hfr HQ.out.lt)
        clear hK K hn m0 m1 m2 m3 hfz xo bo bB hfr hsz
        try simp only [Act.put, List.setIfInBounds_toArray, List.set_cons_zero, List.set_cons_succ]
        refine wpI_done (by kernel_rfl) ?_
        clear hsb7 hwd7 hsb6
        go_wp2_with fail
        obtain ⟨wd8, hwd⟩ : ∃ wd, w8.drew = wd := ⟨_, rfl⟩
        have bb0 : Below w8.heap.size w8 wd8 := by rw [← hwd]; exact (Below.refl _ w8).drew
        replace HZ := Lib.hid (HZ.out.below bb0 HZ.out.lt)
        replace HB := Lib.hid (HB.out.trans (bb0.mono HB.out.size))
        replace HP := Lib.hid (HP.out.step bb0)
        replace HQ := Lib.hid (HQ.out.below bb0 HQ.out.lt)
        replace HY := Lib.hid (HY.out.below bb0 HY.out.lt)
        replace HX := Lib.hid (HX.out.below bb0 HX.out.lt)
        have HY8 := Lib.hid HY.out
        have HX8 := Lib.hid HX.out
        have hde : decOb b = (x0, (x1 : Int), (x2 : Int), ptsOb b 15) := by
          unfold decOb headOb
          simp only [HN.out.1, HN.out.2.1, ← HN.out.2.2]
          congr 3
        have hl15 := ptsOb_length b 15
        have HDT := Lib.hid (bytes_win b HL.out)
        have HWF := Lib.hid (decOb_wf b)
        rw [hde] at HWF
        obtain ⟨LP, hLP⟩ : ∃ X, ptsOb b 15 = X := ⟨_, rfl⟩
        rw [hLP] at HP HAL hl15 hde HDT HWF
        have hmy := obMay_any (some ⟨g4, 5, none⟩) (c4 - 1) ((x0, (x1 : Int), (x2 : Int), LP) : ObL) wd8
        simp only [obV, hl15] at hmy
        have hmy2 := hmy HP.out HWF.out
        have HMY := Lib.hid hmy2
        have HL15 := Lib.hid hl15
        have HDE := Lib.hid hde
        clear hmy hmy2 hl15 hde hLP
        have hwd8 := Below.refl wd8.heap.size wd8
        refine wpI_start (Below wd8.heap.size wd8) [0, 1, 2, 3, 4, 5, 6, 7, 8] hmx rfl hwd ?_
        clear hwd bb0
        iterate 1 (
          refine wpI_read (v := ?_) hwd8 rfl (by kernel_rfl) (by kernel_rfl) (by kernel_rfl) (fun _ _ _ h => h) (.inl ⟨by rfl, ?_⟩) ?_
          rotate_left
          · intro X hX
            have j0 := ox0 (HY8.out.below hX HY8.out.lt)
            have j1 := ox1 (HY8.out.below hX HY8.out.lt)
            have j2 := ox2 (HY8.out.below hX HY8.out.lt)
            have j3 := ox3 (HY8.out.below hX HY8.out.lt)
            clear hX
            go_simp
            with_reducible rfl
          try simp only [Act.put, List.setIfInBounds_toArray, List.set_cons_zero, List.set_cons_succ])
        by_cases hm : MayOb (x0, (x1 : Int), (x2 : Int), LP)
        · have HCM := Lib.hid (HMY.out true ⟨fun _ => hm, fun _ => rfl⟩)
          have HM := Lib.hid hm
          clear hm
          refine wpI_lone rfl (by kernel_rfl) (fun K hK => ?_)
          go_simp
          refine HCM.out.mono ?_
          rintro ev w10 ⟨rfl, bq⟩
          have hsb10 := hwd8.trans (bq.mono hwd8.size)
          replace HZ := Lib.hid (HZ.out.below bq HZ.out.lt)
          replace HB := Lib.hid (HB.out.trans (bq.mono HB.out.size))
          replace HP := Lib.hid (HP.out.step bq)
          replace HQ := Lib.hid (HQ.out.below bq HQ.out.lt)
          replace HY := Lib.hid (HY.out.below bq HY.out.lt)
          refine hK _ _ hsb10 ?_
          clear hK K bq HCM HMY
          try simp only [Act.put, List.setIfInBounds_toArray, List.set_cons_zero, List.set_cons_succ]
          iterate 2 (
            refine wpI_read (v := ?_) hsb10 rfl (by kernel_rfl) (by kernel_rfl) (by kernel_rfl) (fun _ _ _ h => h) (.inl ⟨by rfl, ?_⟩) ?_
            rotate_left
            · intro X hX
              clear hX
              go_simp
              with_reducible rfl
            try simp only [Act.put, List.setIfInBounds_toArray, List.set_cons_zero, List.set_cons_succ])
          refine wpI_read (v := .agg (ar hh)) hsb10 rfl (by kernel_rfl) (by kernel_rfl) (by kernel_rfl) (fun _ _ _ h => h) (.inl ⟨by rfl, fun X hX => exec_load16 rfl rfl (HX8.out.below hX (by have := HX8.out.lt; omega)) HHL.out⟩) ?_
          try simp only [Act.put, List.setIfInBounds_toArray, List.set_cons_zero, List.set_cons_succ]
          iterate 1 (
            refine wpI_read (v := ?_) hsb10 rfl (by kernel_rfl) (by kernel_rfl) (by kernel_rfl) (fun _ _ _ h => h) (.inl ⟨by rfl, ?_⟩) ?_
            rotate_left
            · intro X hX
              have j0 := ox0 (HY8.out.below hX HY8.out.lt)
              have j1 := ox1 (HY8.out.below hX HY8.out.lt)
              have j2 := ox2 (HY8.out.below hX HY8.out.lt)
              have j3 := ox3 (HY8.out.below hX HY8.out.lt)
              clear hX
              go_simp
              with_reducible rfl
            try simp only [Act.put, List.setIfInBounds_toArray, List.set_cons_zero, List.set_cons_succ])
          refine wpI_lone rfl (by kernel_rfl) (fun K hK => ?_)
          go_simp
          refine (obHead_any (some ⟨g4, 5, none⟩) (c4 - 1) x0 x1 x2 15 w10 HY0.out.1 HY0.out.2.1 HY0.out.2.2).mono ?_
          rintro ev w11 ⟨rfl, bq⟩
          have hsb11 := hsb10.trans (bq.mono hsb10.size)
          replace HZ := Lib.hid (HZ.out.below bq HZ.out.lt)
          replace HB := Lib.hid (HB.out.trans (bq.mono HB.out.size))
          replace HP := Lib.hid (HP.out.step bq)
          replace HQ := Lib.hid (HQ.out.below bq HQ.out.lt)
          replace HY := Lib.hid (HY.out.below bq HY.out.lt)
          refine hK _ _ hsb11 ?_
          clear hK K bq
          try simp only [Act.put, List.setIfInBounds_toArray, List.set_cons_zero, List.set_cons_succ]
          have hq := eq16 hh (hd16 x0 x1 x2) HHL.out (hd16_length x0 x1 x2)
          have HHB := Lib.hid (head_bytes x0 x1 x2 LP HY0.out.2.2)
          have HBL := Lib.hid (show blockOb (x0, (x1 : Int), (x2 : Int), LP) = hd16 x0 x1 x2 ++ b.drop 16 by
            rw [HHB.out, ← HDT.out]
            rfl)
          obtain ⟨hd, hhd⟩ : ∃ X, hd16 x0 x1 x2 = X := ⟨_, rfl⟩
          rw [hhd] at hq HBL ⊢
          clear hhd
          have HBD := Lib.hid (show hh ++ b.drop 16 = b by rw [← HHE.out, List.take_append_drop])
          by_cases he : hh = hd
          · rw [decide_eq_true he] at hq
            have HO := Lib.hid (show oreadO b = ((x0, (x1 : Int), (x2 : Int), LP), 0) by
              have hb : blockOb (x0, (x1 : Int), (x2 : Int), LP) = b := by rw [HBL.out, ← he, HBD.out]
              unfold oreadO
              rw [if_pos HL.out, HDE.out, if_pos ⟨HM.out, hb⟩])
            clear he
            iterate 2 (
              refine wpI_read (v := ?_) hsb11 rfl (by kernel_rfl) (by kernel_rfl) (by kernel_rfl) (fun _ _ _ h => h) (.inl ⟨by rfl, ?_⟩) ?_
              rotate_left
              · intro X hX
                clear hX
                go_simp
                with_reducible rfl
              try simp only [Act.put, List.setIfInBounds_toArray, List.set_cons_zero, List.set_cons_succ])
            refine wpI_done (by kernel_rfl) ?_
            clear hq hsb11 hsb10 hwd8
            have n0 := ox0 HY.out
            have n1 := ox1 HY.out
            have n2 := ox2 HY.out
            have n3 := ox3 HY.out
            have m0 := ox0 HZ.out
            have m1 := ox1 HZ.out
            have m2 := ox2 HZ.out
            have m3 := ox3 HZ.out
            have hfz := fun i => HZ.out.frozen i
            have xz := HZ.out.set4 (.int .u8 (x0 : Int)) (.int .i64 (x1 : Int)) (.int .i64 (x2 : Int)) (.slice (some ⟨g4, 5, none⟩) 15 (c4 - 1))
            have bz := below_set4 HB.out HGE.out (.int .u8 (x0 : Int)) (.int .i64 (x1 : Int)) (.int .i64 (x2 : Int)) (.slice (some ⟨g4, 5, none⟩) 15 (c4 - 1))
            obtain ⟨wz, hwz⟩ : ∃ X, (((w11.setCell ⟨g, 0, none⟩ (.int .u8 (x0 : Int))).setCell ⟨g, 1, none⟩ (.int .i64 (x1 : Int))).setCell ⟨g, 2, none⟩ (.int .i64 (x2 : Int))).setCell ⟨g, 3, none⟩ (.slice (some ⟨g4, 5, none⟩) 15 (c4 - 1)) = X := ⟨_, rfl⟩
            rw [hwz] at xz bz
            have HXZ := Lib.hid xz
            have HBZ := Lib.hid bz
            have xq := far4 HQ.out (show g4 ≠ g by have := HZ3.out; omega) (.int .u8 (x0 : Int)) (.int .i64 (x1 : Int)) (.int .i64 (x2 : Int)) (.slice (some ⟨g4, 5, none⟩) 15 (c4 - 1))
            rw [hwz] at xq
            have HQF := Lib.hid xq
            have HPF := Lib.hid (HP.out.same HQ.out xq xq.lt)
            clear xq
            clear xz bz
            go_wp2_with fail
            clear n0 n1 n2 n3
            clear m0 m1 m2 m3 hfz hwz
            have e0 := ox0 HXZ.out
            have e1 := ox1 HXZ.out
            have e2 := ox2 HXZ.out
            have e3 := ox3 HXZ.out
            refine bodyPost_ret (v := .tuple #[.agg #[.int .u8 (x0 : Int), .int .i64 (x1 : Int), .int .i64 (x2 : Int), .slice (some ⟨g4, 5, none⟩) 15 (c4 - 1)], .int .i64 0]) (by simp [results, Tryz.f56, go_sem, e0, e1, e2, e3]) rfl ?_
            rw [HO.out]
            refine ⟨some ⟨g4, 5, none⟩, c4 - 1, ?_, ?_, ?_, HBZ.out⟩
            · simp only [HL15.out]
              rfl
            · simp only [HL15.out]
              exact HPF.out
            · exact fun p e => by
                injection e with e
                rw [← e]
                exact ⟨HG4.out, cs4, HQF.out⟩
          · rw [decide_eq_false he] at hq
            have HNO := Lib.hid (show ¬ (MayOb (decOb b) ∧ blockOb (decOb b) = b) by
              rw [HDE.out]
              rintro ⟨_, h⟩
              rw [HBL.out] at h
              have h2 := h.trans HBD.out.symm
              exact he (List.append_cancel_right h2).symm)
            clear he
            iterate 2 (
              refine wpI_read (v := ?_) hsb11 rfl (by kernel_rfl) (by kernel_rfl) (by kernel_rfl) (fun _ _ _ h => h) (.inl ⟨by rfl, ?_⟩) ?_
              rotate_left
              · intro X hX
                clear hX
                go_simp
                with_reducible rfl
              try simp only [Act.put, List.setIfInBounds_toArray, List.set_cons_zero, List.set_cons_succ])
            clear hq
            refine wpI_done (by kernel_rfl) ?_
            have HO := Lib.hid (show oreadO b = (ob0, 8) by
              unfold oreadO
              rw [if_pos HL.out, if_neg HNO.out])
            clear hsb11 hsb10 hwd8
            have m0 := ox0 HZ.out
            have m1 := ox1 HZ.out
            have m2 := ox2 HZ.out
            have m3 := ox3 HZ.out
            have hfz := fun i => HZ.out.frozen i
            have xz := HZ.out.set4 (.int .u8 0) (.int .i64 0) (.int .i64 0) (.slice none 0 0)
            have bz := below_set4 HB.out HGE.out (.int .u8 0) (.int .i64 0) (.int .i64 0) (.slice none 0 0)
            obtain ⟨wz, hwz⟩ : ∃ X, (((w11.setCell ⟨g, 0, none⟩ (.int .u8 0)).setCell ⟨g, 1, none⟩ (.int .i64 0)).setCell ⟨g, 2, none⟩ (.int .i64 0)).setCell ⟨g, 3, none⟩ (.slice none 0 0) = X := ⟨_, rfl⟩
            rw [hwz] at xz bz
            have HXZ := Lib.hid xz
            have HBZ := Lib.hid bz
            clear xz bz
            go_wp2_with fail
            clear m0 m1 m2 m3 hfz hwz
            have e0 := ox0 HXZ.out
            have e1 := ox1 HXZ.out
            have e2 := ox2 HXZ.out
            have e3 := ox3 HXZ.out
            refine bodyPost_ret (v := .tuple #[.agg #[.int .u8 0, .int .i64 0, .int .i64 0, .slice none 0 0], .int .i64 8]) (by simp [results, Tryz.f56, go_sem, e0, e1, e2, e3]) rfl ?_
            rw [HO.out]
            exact outOp_no 8 HBZ.out
        · have HCM := Lib.hid (HMY.out false ⟨fun x => (by cases x), fun x => absurd x hm⟩)
          have HM := Lib.hid hm
          clear hm
          refine wpI_lone rfl (by kernel_rfl) (fun K hK => ?_)
          go_simp
          refine HCM.out.mono ?_
          rintro ev w10 ⟨rfl, bq⟩
          have hsb10 := hwd8.trans (bq.mono hwd8.size)
          replace HZ := Lib.hid (HZ.out.below bq HZ.out.lt)
          replace HB := Lib.hid (HB.out.trans (bq.mono HB.out.size))
          replace HP := Lib.hid (HP.out.step bq)
          replace HQ := Lib.hid (HQ.out.below bq HQ.out.lt)
          replace HY := Lib.hid (HY.out.below bq HY.out.lt)
          refine hK _ _ hsb10 ?_
          clear hK K bq HCM HMY
          try simp only [Act.put, List.setIfInBounds_toArray, List.set_cons_zero, List.set_cons_succ]
          iterate 2 (
            refine wpI_read (v := ?_) hsb10 rfl (by kernel_rfl) (by kernel_rfl) (by kernel_rfl) (fun _ _ _ h => h) (.inl ⟨by rfl, ?_⟩) ?_
            rotate_left
            · intro X hX
              clear hX
              go_simp
              with_reducible rfl
            try simp only [Act.put, List.setIfInBounds_toArray, List.set_cons_zero, List.set_cons_succ])
          iterate 2 (
            refine wpI_read (v := undef) hsb10 rfl (by kernel_rfl) (by kernel_rfl) (by kernel_rfl) (fun _ _ _ h => h) (.inr ⟨by rfl, rfl⟩) ?_
            try simp only [Act.put, List.setIfInBounds_toArray, List.set_cons_zero, List.set_cons_succ])
          refine wpI_lone rfl (by kernel_rfl) (fun K hK => ?_)
          refine hK _ _ hsb10 ?_
          clear hK K
          try simp only [Act.put, List.setIfInBounds_toArray, List.set_cons_zero, List.set_cons_succ]
          iterate 1 (
            refine wpI_read (v := undef) hsb10 rfl (by kernel_rfl) (by kernel_rfl) (by kernel_rfl) (fun _ _ _ h => h) (.inr ⟨by rfl, rfl⟩) ?_
            try simp only [Act.put, List.setIfInBounds_toArray, List.set_cons_zero, List.set_cons_succ])
          iterate 1 (
            refine wpI_read (v := ?_) hsb10 rfl (by kernel_rfl) (by kernel_rfl) (by kernel_rfl) (fun _ _ _ h => h) (.inl ⟨by rfl, ?_⟩) ?_
            rotate_left
            · intro X hX
              clear hX
              go_simp
              with_reducible rfl
            try simp only [Act.put, List.setIfInBounds_toArray, List.set_cons_zero, List.set_cons_succ])
          have HNO := Lib.hid (show ¬ (MayOb (decOb b) ∧ blockOb (decOb b) = b) by rw [HDE.out]; exact fun h => HM.out h.1)
          refine wpI_done (by kernel_rfl) ?_
          have HO := Lib.hid (show oreadO b = (ob0, 8) by
            unfold oreadO
            rw [if_pos HL.out, if_neg HNO.out])
          clear hsb10 hwd8
          have m0 := ox0 HZ.out
          have m1 := ox1 HZ.out
          have m2 := ox2 HZ.out
          have m3 := ox3 HZ.out
          have hfz := fun i => HZ.out.frozen i
          have xz := HZ.out.set4 (.int .u8 0) (.int .i64 0) (.int .i64 0) (.slice none 0 0)
          have bz := below_set4 HB.out HGE.out (.int .u8 0) (.int .i64 0) (.int .i64 0) (.slice none 0 0)
          obtain ⟨wz, hwz⟩ : ∃ X, (((w10.setCell ⟨g, 0, none⟩ (.int .u8 0)).setCell ⟨g, 1, none⟩ (.int .i64 0)).setCell ⟨g, 2, none⟩ (.int .i64 0)).setCell ⟨g, 3, none⟩ (.slice none 0 0) = X := ⟨_, rfl⟩
          rw [hwz] at xz bz
          have HXZ := Lib.hid xz
          have HBZ := Lib.hid bz
          clear xz bz
          go_wp2_with fail
          clear m0 m1 m2 m3 hfz hwz
          have e0 := ox0 HXZ.out
          have e1 := ox1 HXZ.out
          have e2 := ox2 HXZ.out
          have e3 := ox3 HXZ.out
          refine bodyPost_ret (v := .tuple #[.agg #[.int .u8 0, .int .i64 0, .int .i64 0, .slice none 0 0], .int .i64 8]) (by simp [results, Tryz.f56, go_sem, e0, e1, e2, e3]) rfl ?_
          rw [HO.out]
          exact outOp_no 8 HBZ.out
      · go_simp
        have bq := (Below.refl wd7.heap.size wd7).alloc (Nat.le_refl _) (.cells #[.int .u8 0, .int .i64 0, .int .i64 0, .slice none 0 0] 40)
        have hy := Blk.new wd7 40 #[.int .u8 0, .int .i64 0, .int .i64 0, .slice none 0 0]
        obtain ⟨w7, hn⟩ : ∃ X, wd7.alloc (.cells #[.int .u8 0, .int .i64 0, .int .i64 0, .slice none 0 0] 40) = X := ⟨_, rfl⟩
        obtain ⟨g7, hg7⟩ : ∃ X, wd7.heap.size = X := ⟨_, rfl⟩
        have HG7 := Lib.hid (show wd7.heap.size ≤ g7 ∧ w.heap.size ≤ g7 ∧ g < g7 ∧ g4 < g7 ∧ g6 < g7 by have := hwd7.size; have := HB.out.size; have := HZ.out.lt; have := HQ.out.lt; have := HX.out.lt; omega)
        rw [hn] at bq hy ⊢
        rw [hg7] at hy ⊢
        have hsb7 := hwd7.trans (bq.mono hwd7.size)
        replace HZ := Lib.hid (HZ.out.below bq HZ.out.lt)
        replace HB := Lib.hid (HB.out.trans (bq.mono HB.out.size))
        replace HA := Lib.hid (HA.out.step bq)
        replace HS := Lib.hid (HS.out.step bq)
        replace HP := Lib.hid (HP.out.step bq)
        replace HQ := Lib.hid (HQ.out.below bq HQ.out.lt)
        replace HX := Lib.hid (HX.out.below bq HX.out.lt)
        have HY := Lib.hid hy
        refine hK _ _ hsb7 ?_
        clear hK K hn hg7 bq hy
        try simp only [Act.put, List.setIfInBounds_toArray, List.set_cons_zero, List.set_cons_succ]
        refine wpI_lone rfl (by kernel_rfl) (fun K hK => ?_)
        go_simp
        refine (HOB.out w7).mono ?_
        rintro ev w6 ⟨rfl, bq⟩
        have hsb6 := hsb7.trans (bq.mono hsb7.size)
        replace HZ := Lib.hid (HZ.out.below bq HZ.out.lt)
        replace HB := Lib.hid (HB.out.trans (bq.mono HB.out.size))
        replace HA := Lib.hid (HA.out.step bq)
        replace HS := Lib.hid (HS.out.step bq)
        replace HP := Lib.hid (HP.out.step bq)
        replace HQ := Lib.hid (HQ.out.below bq HQ.out.lt)
        replace HX := Lib.hid (HX.out.below bq HX.out.lt)
        replace HY := Lib.hid (HY.out.below bq HY.out.lt)
        refine hK _ _ hsb6 ?_
        clear hK K bq
        try simp only [Act.put, List.setIfInBounds_toArray, List.set_cons_zero, List.set_cons_succ]
        refine wpI_lone rfl (by kernel_rfl) (fun K hK => ?_)
        have m0 := ox0 HY.out
        have m1 := ox1 HY.out
        have m2 := ox2 HY.out
        have m3 := ox3 HY.out
        have hfz := fun i => HY.out.frozen i
        go_simp
        have xo := HY.out.set4 (.int .u8 (x0 : Int)) (.int .i64 (x1 : Int)) (.int .i64 (x2 : Int)) (.slice (some ⟨g4, 5, none⟩) 15 (c4 - 1))
        have bo := below_set4 hsb6 HG7.out.1 (.int .u8 (x0 : Int)) (.int .i64 (x1 : Int)) (.int .i64 (x2 : Int)) (.slice (some ⟨g4, 5, none⟩) 15 (c4 - 1))
        have bB := below_set4 HB.out HG7.out.2.1 (.int .u8 (x0 : Int)) (.int .i64 (x1 : Int)) (.int .i64 (x2 : Int)) (.slice (some ⟨g4, 5, none⟩) 15 (c4 - 1))
        have hfr := below_set4 (Below.refl g7 w6) (Nat.le_refl g7) (.int .u8 (x0 : Int)) (.int .i64 (x1 : Int)) (.int .i64 (x2 : Int)) (.slice (some ⟨g4, 5, none⟩) 15 (c4 - 1))
        obtain ⟨w8, hn⟩ : ∃ X, (((w6.setCell ⟨g7, 0, none⟩ (.int .u8 (x0 : Int))).setCell ⟨g7, 1, none⟩ (.int .i64 (x1 : Int))).setCell ⟨g7, 2, none⟩ (.int .i64 (x2 : Int))).setCell ⟨g7, 3, none⟩ (.slice (some ⟨g4, 5, none⟩) 15 (c4 - 1)) = X := ⟨_, rfl⟩
        rw [hn] at xo bo bB hfr ⊢
        refine hK _ _ bo ?_
        have hsz : w6.heap.size ≤ w8.heap.size := by rw [← hn]; simp [World.setCell]
        replace HY := Lib.hid xo
        replace HB := Lib.hid bB
        replace HZ := Lib.hid (HZ.out.below hfr HG7.out.2.2.1)
        replace HQ := Lib.hid (HQ.out.below hfr HG7.out.2.2.2.1)
        replace HX := Lib.hid (HX.out.below hfr HG7.out.2.2.2.2)
        replace HP := Lib.hid (show Pts w8 w8.heap.size (some ⟨g4, 5, none⟩) 15 (c4 - 1) (ptsOb b 15) from (HP.out.at_blk HG7.out.2.2.2.1).2 hfr HQ.out.lt)
        clear hK K hn m0 m1 m2 m3 hfz xo bo bB hfr hsz
        try simp only [Act.put, List.setIfInBounds_toArray, List.set_cons_zero, List.set_cons_succ]
        refine wpI_done (by kernel_rfl) ?_
        clear hsb6 hwd7 hsb7
        go_wp2_with fail
        obtain ⟨wd8, hwd⟩ : ∃ wd, w8.drew = wd := ⟨_, rfl⟩
        have bb0 : Below w8.heap.size w8 wd8 := by rw [← hwd]; exact (Below.refl _ w8).drew
        replace HZ := Lib.hid (HZ.out.below bb0 HZ.out.lt)
        replace HB := Lib.hid (HB.out.trans (bb0.mono HB.out.size))
        replace HP := Lib.hid (HP.out.step bb0)
        replace HQ := Lib.hid (HQ.out.below bb0 HQ.out.lt)
        replace HY := Lib.hid (HY.out.below bb0 HY.out.lt)
        replace HX := Lib.hid (HX.out.below bb0 HX.out.lt)
        have HY8 := Lib.hid HY.out
        have HX8 := Lib.hid HX.out
        have hde : decOb b = (x0, (x1 : Int), (x2 : Int), ptsOb b 15) := by
          unfold decOb headOb
          simp only [HN.out.1, HN.out.2.1, ← HN.out.2.2]
          congr 3
        have hl15 := ptsOb_length b 15
        have HDT := Lib.hid (bytes_win b HL.out)
        have HWF := Lib.hid (decOb_wf b)
        rw [hde] at HWF
        obtain ⟨LP, hLP⟩ : ∃ X, ptsOb b 15 = X := ⟨_, rfl⟩
        rw [hLP] at HP HAL hl15 hde HDT HWF
        have hmy := obMay_any (some ⟨g4, 5, none⟩) (c4 - 1) ((x0, (x1 : Int), (x2 : Int), LP) : ObL) wd8
        simp only [obV, hl15] at hmy
        have hmy2 := hmy HP.out HWF.out
        have HMY := Lib.hid hmy2
        have HL15 := Lib.hid hl15
        have HDE := Lib.hid hde
        clear hmy hmy2 hl15 hde hLP
        have hwd8 := Below.refl wd8.heap.size wd8
        refine wpI_start (Below wd8.heap.size wd8) [0, 1, 2, 3, 4, 5, 6, 7, 8] hmx rfl hwd ?_
        clear hwd bb0
        iterate 1 (
          refine wpI_read (v := ?_) hwd8 rfl (by kernel_rfl) (by kernel_rfl) (by kernel_rfl) (fun _ _ _ h => h) (.inl ⟨by rfl, ?_⟩) ?_
          rotate_left
          · intro X hX
            have j0 := ox0 (HY8.out.below hX HY8.out.lt)
            have j1 := ox1 (HY8.out.below hX HY8.out.lt)
            have j2 := ox2 (HY8.out.below hX HY8.out.lt)
            have j3 := ox3 (HY8.out.below hX HY8.out.lt)
            clear hX
            go_simp
            with_reducible rfl
          try simp only [Act.put, List.setIfInBounds_toArray, List.set_cons_zero, List.set_cons_succ])
        by_cases hm : MayOb (x0, (x1 : Int), (x2 : Int), LP)
        · have HCM := Lib.hid (HMY.out true ⟨fun _ => hm, fun _ => rfl⟩)
          have HM := Lib.hid hm
          clear hm
          refine wpI_lone rfl (by kernel_rfl) (fun K hK => ?_)
          go_simp
          refine HCM.out.mono ?_
          rintro ev w10 ⟨rfl, bq⟩
          have hsb10 := hwd8.trans (bq.mono hwd8.size)
          replace HZ := Lib.hid (HZ.out.below bq HZ.out.lt)
          replace HB := Lib.hid (HB.out.trans (bq.mono HB.out.size))
          replace HP := Lib.hid (HP.out.step bq)
          replace HQ := Lib.hid (HQ.out.below bq HQ.out.lt)
          replace HY := Lib.hid (HY.out.below bq HY.out.lt)
          refine hK _ _ hsb10 ?_
          clear hK K bq HCM HMY
          try simp only [Act.put, List.setIfInBounds_toArray, List.set_cons_zero, List.set_cons_succ]
          iterate 2 (
            refine wpI_read (v := ?_) hsb10 rfl (by kernel_rfl) (by kernel_rfl) (by kernel_rfl) (fun _ _ _ h => h) (.inl ⟨by rfl, ?_⟩) ?_
            rotate_left
            · intro X hX
              clear hX
              go_simp
              with_reducible rfl
            try simp only [Act.put, List.setIfInBounds_toArray, List.set_cons_zero, List.set_cons_succ])
          refine wpI_read (v := .agg (ar hh)) hsb10 rfl (by kernel_rfl) (by kernel_rfl) (by kernel_rfl) (fun _ _ _ h => h) (.inl ⟨by rfl, fun X hX => exec_load16 rfl rfl (HX8.out.below hX (by have := HX8.out.lt; omega)) HHL.out⟩) ?_
          try simp only [Act.put, List.setIfInBounds_toArray, List.set_cons_zero, List.set_cons_succ]
          iterate 1 (
            refine wpI_read (v := ?_) hsb10 rfl (by kernel_rfl) (by kernel_rfl) (by kernel_rfl) (fun _ _ _ h => h) (.inl ⟨by rfl, ?_⟩) ?_
            rotate_left
            · intro X hX
              have j0 := ox0 (HY8.out.below hX HY8.out.lt)
              have j1 := ox1 (HY8.out.below hX HY8.out.lt)
              have j2 := ox2 (HY8.out.below hX HY8.out.lt)
              have j3 := ox3 (HY8.out.below hX HY8.out.lt)
              clear hX
              go_simp
              with_reducible rfl
            try simp only [Act.put, List.setIfInBounds_toArray, List.set_cons_zero, List.set_cons_succ])
          refine wpI_lone rfl (by kernel_rfl) (fun K hK => ?_)
          go_simp
          refine (obHead_any (some ⟨g4, 5, none⟩) (c4 - 1) x0 x1 x2 15 w10 HY0.out.1 HY0.out.2.1 HY0.out.2.2).mono ?_
          rintro ev w11 ⟨rfl, bq⟩
          have hsb11 := hsb10.trans (bq.mono hsb10.size)
          replace HZ := Lib.hid (HZ.out.below bq HZ.out.lt)
          replace HB := Lib.hid (HB.out.trans (bq.mono HB.out.size))
          replace HP := Lib.hid (HP.out.step bq)
          replace HQ := Lib.hid (HQ.out.below bq HQ.out.lt)
          replace HY := Lib.hid (HY.out.below bq HY.out.lt)
          refine hK _ _ hsb11 ?_
          clear hK K bq
          try simp only [Act.put, List.setIfInBounds_toArray, List.set_cons_zero, List.set_cons_succ]
          have hq := eq16 hh (hd16 x0 x1 x2) HHL.out (hd16_length x0 x1 x2)
          have HHB := Lib.hid (head_bytes x0 x1 x2 LP HY0.out.2.2)
          have HBL := Lib.hid (show blockOb (x0, (x1 : Int), (x2 : Int), LP) = hd16 x0 x1 x2 ++ b.drop 16 by
            rw [HHB.out, ← HDT.out]
            rfl)
          obtain ⟨hd, hhd⟩ : ∃ X, hd16 x0 x1 x2 = X := ⟨_, rfl⟩
          rw [hhd] at hq HBL ⊢
          clear hhd
          have HBD := Lib.hid (show hh ++ b.drop 16 = b by rw [← HHE.out, List.take_append_drop])
          by_cases he : hh = hd
          · rw [decide_eq_true he] at hq
            have HO := Lib.hid (show oreadO b = ((x0, (x1 : Int), (x2 : Int), LP), 0) by
              have hb : blockOb (x0, (x1 : Int), (x2 : Int), LP) = b := by rw [HBL.out, ← he, HBD.out]
              unfold oreadO
              rw [if_pos HL.out, HDE.out, if_pos ⟨HM.out, hb⟩])
            clear he
            iterate 2 (
              refine wpI_read (v := ?_) hsb11 rfl (by kernel_rfl) (by kernel_rfl) (by kernel_rfl) (fun _ _ _ h => h) (.inl ⟨by rfl, ?_⟩) ?_
              rotate_left
              · intro X hX
                clear hX
                go_simp
                with_reducible rfl
              try simp only [Act.put, List.setIfInBounds_toArray, List.set_cons_zero, List.set_cons_succ])
            refine wpI_done (by kernel_rfl) ?_
            clear hq hsb11 hsb10 hwd8
            have n0 := ox0 HY.out
            have n1 := ox1 HY.out
            have n2 := ox2 HY.out
            have n3 := ox3 HY.out
            have m0 := ox0 HZ.out
            have m1 := ox1 HZ.out
            have m2 := ox2 HZ.out
            have m3 := ox3 HZ.out
            have hfz := fun i => HZ.out.frozen i
            have xz := HZ.out.set4 (.int .u8 (x0 : Int)) (.int .i64 (x1 : Int)) (.int .i64 (x2 : Int)) (.slice (some ⟨g4, 5, none⟩) 15 (c4 - 1))
            have bz := below_set4 HB.out HGE.out (.int .u8 (x0 : Int)) (.int .i64 (x1 : Int)) (.int .i64 (x2 : Int)) (.slice (some ⟨g4, 5, none⟩) 15 (c4 - 1))
            obtain ⟨wz, hwz⟩ : ∃ X, (((w11.setCell ⟨g, 0, none⟩ (.int .u8 (x0 : Int))).setCell ⟨g, 1, none⟩ (.int .i64 (x1 : Int))).setCell ⟨g, 2, none⟩ (.int .i64 (x2 : Int))).setCell ⟨g, 3, none⟩ (.slice (some ⟨g4, 5, none⟩) 15 (c4 - 1)) = X := ⟨_, rfl⟩
            rw [hwz] at xz bz
            have HXZ := Lib.hid xz
            have HBZ := Lib.hid bz
            have xq := far4 HQ.out (show g4 ≠ g by have := HZ3.out; omega) (.int .u8 (x0 : Int)) (.int .i64 (x1 : Int)) (.int .i64 (x2 : Int)) (.slice (some ⟨g4, 5, none⟩) 15 (c4 - 1))
            rw [hwz] at xq
            have HQF := Lib.hid xq
            have HPF := Lib.hid (HP.out.same HQ.out xq xq.lt)
            clear xq
            clear xz bz
            go_wp2_with fail
            clear n0 n1 n2 n3
            clear m0 m1 m2 m3 hfz hwz
            have e0 := ox0 HXZ.out
            have e1 := ox1 HXZ.out
            have e2 := ox2 HXZ.out
            have e3 := ox3 HXZ.out
            refine bodyPost_ret (v := .tuple #[.agg #[.int .u8 (x0 : Int), .int .i64 (x1 : Int), .int .i64 (x2 : Int), .slice (some ⟨g4, 5, none⟩) 15 (c4 - 1)], .int .i64 0]) (by simp [results, Tryz.f56, go_sem, e0, e1, e2, e3]) rfl ?_
            rw [HO.out]
            refine ⟨some ⟨g4, 5, none⟩, c4 - 1, ?_, ?_, ?_, HBZ.out⟩
            · simp only [HL15.out]
              rfl
            · simp only [HL15.out]
              exact HPF.out
            · exact fun p e => by
                injection e with e
                rw [← e]
                exact ⟨HG4.out, cs4, HQF.out⟩
          · rw [decide_eq_false he] at hq
            have HNO := Lib.hid (show ¬ (MayOb (decOb b) ∧ blockOb (decOb b) = b) by
              rw [HDE.out]
              rintro ⟨_, h⟩
              rw [HBL.out] at h
              have h2 := h.trans HBD.out.symm
              exact he (List.append_cancel_right h2).symm)
            clear he
            iterate 2 (
              refine wpI_read (v := ?_) hsb11 rfl (by kernel_rfl) (by kernel_rfl) (by kernel_rfl) (fun _ _ _ h => h) (.inl ⟨by rfl, ?_⟩) ?_
              rotate_left
              · intro X hX
                clear hX
                go_simp
                with_reducible rfl
              try simp only [Act.put, List.setIfInBounds_toArray, List.set_cons_zero, List.set_cons_succ])
            clear hq
            refine wpI_done (by kernel_rfl) ?_
            have HO := Lib.hid (show oreadO b = (ob0, 8) by
              unfold oreadO
              rw [if_pos HL.out, if_neg HNO.out])
            clear hsb11 hsb10 hwd8
            have m0 := ox0 HZ.out
            have m1 := ox1 HZ.out
            have m2 := ox2 HZ.out
            have m3 := ox3 HZ.out
            have hfz := fun i => HZ.out.frozen i
            have xz := HZ.out.set4 (.int .u8 0) (.int .i64 0) (.int .i64 0) (.slice none 0 0)
            have bz := below_set4 HB.out HGE.out (.int .u8 0) (.int .i64 0) (.int .i64 0) (.slice none 0 0)
            obtain ⟨wz, hwz⟩ : ∃ X, (((w11.setCell ⟨g, 0, none⟩ (.int .u8 0)).setCell ⟨g, 1, none⟩ (.int .i64 0)).setCell ⟨g, 2, none⟩ (.int .i64 0)).setCell ⟨g, 3, none⟩ (.slice none 0 0) = X := ⟨_, rfl⟩
            rw [hwz] at xz bz
            have HXZ := Lib.hid xz
            have HBZ := Lib.hid bz
            clear xz bz
            go_wp2_with fail
            clear m0 m1 m2 m3 hfz hwz
            have e0 := ox0 HXZ.out
            have e1 := ox1 HXZ.out
            have e2 := ox2 HXZ.out
            have e3 := ox3 HXZ.out
            refine bodyPost_ret (v := .tuple #[.agg #[.int .u8 0, .int .i64 0, .int .i64 0, .slice none 0 0], .int .i64 8]) (by simp [results, Tryz.f56, go_sem, e0, e1, e2, e3]) rfl ?_
            rw [HO.out]
            exact outOp_no 8 HBZ.out
        · have HCM := Lib.hid (HMY.out false ⟨fun x => (by cases x), fun x => absurd x hm⟩)
          have HM := Lib.hid hm
          clear hm
          refine wpI_lone rfl (by kernel_rfl) (fun K hK => ?_)
          go_simp
          refine HCM.out.mono ?_
          rintro ev w10 ⟨rfl, bq⟩
          have hsb10 := hwd8.trans (bq.mono hwd8.size)
          replace HZ := Lib.hid (HZ.out.below bq HZ.out.lt)
          replace HB := Lib.hid (HB.out.trans (bq.mono HB.out.size))
          replace HP := Lib.hid (HP.out.step bq)
          replace HQ := Lib.hid (HQ.out.below bq HQ.out.lt)
          replace HY := Lib.hid (HY.out.below bq HY.out.lt)
          refine hK _ _ hsb10 ?_
          clear hK K bq HCM HMY
          try simp only [Act.put, List.setIfInBounds_toArray, List.set_cons_zero, List.set_cons_succ]
          iterate 2 (
            refine wpI_read (v := ?_) hsb10 rfl (by kernel_rfl) (by kernel_rfl) (by kernel_rfl) (fun _ _ _ h => h) (.inl ⟨by rfl, ?_⟩) ?_
            rotate_left
            · intro X hX
              clear hX
              go_simp
              with_reducible rfl
            try simp only [Act.put, List.setIfInBounds_toArray, List.set_cons_zero, List.set_cons_succ])
          iterate 2 (
            refine wpI_read (v := undef) hsb10 rfl (by kernel_rfl) (by kernel_rfl) (by kernel_rfl) (fun _ _ _ h => h) (.inr ⟨by rfl, rfl⟩) ?_
            try simp only [Act.put, List.setIfInBounds_toArray, List.set_cons_zero, List.set_cons_succ])
          refine wpI_lone rfl (by kernel_rfl) (fun K hK => ?_)
          refine hK _ _ hsb10 ?_
          clear hK K
          try simp only [Act.put, List.setIfInBounds_toArray, List.set_cons_zero, List.set_cons_succ]
          iterate 1 (
            refine wpI_read (v := undef) hsb10 rfl (by kernel_rfl) (by kernel_rfl) (by kernel_rfl) (fun _ _ _ h => h) (.inr ⟨by rfl, rfl⟩) ?_
            try simp only [Act.put, List.setIfInBounds_toArray, List.set_cons_zero, List.set_cons_succ])
          iterate 1 (
            refine wpI_read (v := ?_) hsb10 rfl (by kernel_rfl) (by kernel_rfl) (by kernel_rfl) (fun _ _ _ h => h) (.inl ⟨by rfl, ?_⟩) ?_
            rotate_left
            · intro X hX
              clear hX
              go_simp
              with_reducible rfl
            try simp only [Act.put, List.setIfInBounds_toArray, List.set_cons_zero, List.set_cons_succ])
          have HNO := Lib.hid (show ¬ (MayOb (decOb b) ∧ blockOb (decOb b) = b) by rw [HDE.out]; exact fun h => HM.out h.1)
          refine wpI_done (by kernel_rfl) ?_
          have HO := Lib.hid (show oreadO b = (ob0, 8) by
            unfold oreadO
            rw [if_pos HL.out, if_neg HNO.out])
          clear hsb10 hwd8
          have m0 := ox0 HZ.out
          have m1 := ox1 HZ.out
          have m2 := ox2 HZ.out
          have m3 := ox3 HZ.out
          have hfz := fun i => HZ.out.frozen i
          have xz := HZ.out.set4 (.int .u8 0) (.int .i64 0) (.int .i64 0) (.slice none 0 0)
          have bz := below_set4 HB.out HGE.out (.int .u8 0) (.int .i64 0) (.int .i64 0) (.slice none 0 0)
          obtain ⟨wz, hwz⟩ : ∃ X, (((w10.setCell ⟨g, 0, none⟩ (.int .u8 0)).setCell ⟨g, 1, none⟩ (.int .i64 0)).setCell ⟨g, 2, none⟩ (.int .i64 0)).setCell ⟨g, 3, none⟩ (.slice none 0 0) = X := ⟨_, rfl⟩
          rw [hwz] at xz bz
          have HXZ := Lib.hid xz
          have HBZ := Lib.hid bz
          clear xz bz
          go_wp2_with fail
          clear m0 m1 m2 m3 hfz hwz
          have e0 := ox0 HXZ.out
          have e1 := ox1 HXZ.out
          have e2 := ox2 HXZ.out
          have e3 := ox3 HXZ.out
          refine bodyPost_ret (v := .tuple #[.agg #[.int .u8 0, .int .i64 0, .int .i64 0, .slice none 0 0], .int .i64 8]) (by simp [results, Tryz.f56, go_sem, e0, e1, e2, e3]) rfl ?_
          rw [HO.out]
          exact outOp_no 8 HBZ.out
    · rw [if_neg hall] at hrw
      have HRW := Lib.hid hrw
      have HO := Lib.hid (show oreadO b = (ob0, 8) by
        unfold oreadO
        rw [if_pos HL.out, if_neg]
        exact fun h => hall h.1.2)
      clear hrw hall
      refine wpI_lone rfl (by kernel_rfl) (fun K hK => ?_)
      go_simp
      refine HRW.out.mono ?_
      rintro ev w4 ⟨v4, rfl, hp4, bq⟩
      have hsb4 := hsb3.trans (bq.mono hsb3.size)
      replace HZ := Lib.hid (HZ.out.below bq HZ.out.lt)
      replace HB := Lib.hid (HB.out.trans (bq.mono HB.out.size))
      replace HA := Lib.hid (HA.out.step bq)
      replace HS := Lib.hid (HS.out.step bq)
      refine hK _ _ hsb4 ?_
      clear hK K bq hsb3 HRW
      try simp only [Act.put, List.setIfInBounds_toArray, List.set_cons_zero, List.set_cons_succ]
      iterate 5 (
        refine wpI_read (v := ?_) hsb4 rfl (by kernel_rfl) (by kernel_rfl) (by kernel_rfl) (fun _ _ _ h => h) (.inl ⟨by rfl, ?_⟩) ?_
        rotate_left
        · intro X hX
          clear hX
          go_simp
          with_reducible rfl
        try simp only [Act.put, List.setIfInBounds_toArray, List.set_cons_zero, List.set_cons_succ])
      refine wpI_done (by kernel_rfl) ?_
      clear hsb4 hwd0 hp4
      have m0 := ox0 HZ.out
      have m1 := ox1 HZ.out
      have m2 := ox2 HZ.out
      have m3 := ox3 HZ.out
      have hfz := fun i => HZ.out.frozen i
      have xz := HZ.out.set4 (.int .u8 0) (.int .i64 0) (.int .i64 0) (.slice none 0 0)
      have bz := below_set4 HB.out HGE.out (.int .u8 0) (.int .i64 0) (.int .i64 0) (.slice none 0 0)
      obtain ⟨wz, hwz⟩ : ∃ X, (((w4.setCell ⟨g, 0, none⟩ (.int .u8 0)).setCell ⟨g, 1, none⟩ (.int .i64 0)).setCell ⟨g, 2, none⟩ (.int .i64 0)).setCell ⟨g, 3, none⟩ (.slice none 0 0) = X := ⟨_, rfl⟩
      rw [hwz] at xz bz
      have HXZ := Lib.hid xz
      have HBZ := Lib.hid bz
      clear xz bz
      go_wp2_with fail
      clear m0 m1 m2 m3 hfz hwz
      have e0 := ox0 HXZ.out
      have e1 := ox1 HXZ.out
      have e2 := ox2 HXZ.out
      have e3 := ox3 HXZ.out
      refine bodyPost_ret (v := .tuple #[.agg #[.int .u8 0, .int .i64 0, .int .i64 0, .slice none 0 0], .int .i64 8]) (by simp [results, Tryz.f56, go_sem, e0, e1, e2, e3]) rfl ?_
      rw [HO.out]
      exact outOp_no 8 HBZ.out
  · have HO := Lib.hid (show oreadO b = (ob0, 3) by unfold oreadO; rw [if_neg h])
    rw [HO.out]
    have e1 : ((b.length : Int) != 256) = true := by simp; omega
    have m0 := ox0 HZ.out
    have m1 := ox1 HZ.out
    have m2 := ox2 HZ.out
    have m3 := ox3 HZ.out
    have hfz := fun i => HZ.out.frozen i
    have xz := HZ.out.set4 (.int .u8 0) (.int .i64 0) (.int .i64 0) (.slice none 0 0)
    have bz := below_set4 HB.out HGE.out (.int .u8 0) (.int .i64 0) (.int .i64 0) (.slice none 0 0)
    obtain ⟨wz, hwz⟩ : ∃ X, (((w0.setCell ⟨g, 0, none⟩ (.int .u8 0)).setCell ⟨g, 1, none⟩ (.int .i64 0)).setCell ⟨g, 2, none⟩ (.int .i64 0)).setCell ⟨g, 3, none⟩ (.slice none 0 0) = X := ⟨_, rfl⟩
    rw [hwz] at xz bz
    have HXZ := Lib.hid xz
    have HBZ := Lib.hid bz
    clear xz bz h
    go_enter Tryz.func56, Tryz.ntmps56
    go_wp2_with fail
    clear hw0
    clear m0 m1 m2 m3 hfz hwz
    have e0 := ox0 HXZ.out
    have e1 := ox1 HXZ.out
    have e2 := ox2 HXZ.out
    have e3 := ox3 HXZ.out
    refine bodyPost_ret (v := .tuple #[.agg #[.int .u8 0, .int .i64 0, .int .i64 0, .slice none 0 0], .int .i64 3]) (by simp [results, Tryz.f56, go_sem, e0, e1, e2, e3]) rfl ?_
    exact outOp_no 3 HBZ.out
end Go.Proofs.YtbggkfomfeeikaaGreatDoor
/-
  Store's own: isUpTo, isKey, mayBe, Check; nothing that was there is written.
-/
namespace Go.Proofs.YtbggkfomfeeikaaGreatDoor
open Go.RowKit Go.Shelf
set_option maxRecDepth 100000

theorem stUpTo_any (n : Nat) (m : Int) (r : Bool) (hr : r = true ↔ (1 ≤ n ∧ (n : Int) ≤ m)) (w : World) : Calls Tryz.prog 65 #[.int .u32 (n : Int), .int .u32 m] w fun e w' => e = .returned (.bool r) ∧ w = w' := by
  by_cases h : 1 ≤ n
  · have i1 : (1 : Int) ≤ (n : Int) := by omega
    by_cases h2 : (n : Int) ≤ m
    · obtain rfl : r = true := hr.2 ⟨h, h2⟩
      clear hr h
      go_enter Tryz.func65, Tryz.ntmps65
      go_wp2_with fail
      go_ret
      exact ⟨rfl, rfl⟩
    · obtain rfl : r = false := by cases r with | false => rfl | true => exact absurd (hr.1 rfl) (fun hh => h2 hh.2)
      clear hr h
      go_enter Tryz.func65, Tryz.ntmps65
      go_wp2_with fail
      go_ret
      exact ⟨rfl, rfl⟩
  · have i1 : ¬ (1 : Int) ≤ (n : Int) := by omega
    obtain rfl : r = false := by cases r with | false => rfl | true => exact absurd (hr.1 rfl) (fun hh => h hh.1)
    clear hr h
    go_enter Tryz.func65, Tryz.ntmps65
    go_wp2_with fail
    go_ret
    exact ⟨rfl, rfl⟩
set_option maxHeartbeats 2000000 in
theorem stMayBe_any (L : Nat) (x : SAt) (S : StL) (w : World) (h : StP L w x S) (R : Bool) (hR : R = true ↔ MayS S) : Calls Tryz.prog 40 #[stV x S] w fun e w' => e = .returned (.bool R) ∧ Below w.heap.size w w' := by
  obtain ⟨xb, b0⟩ := st_box w x S
  obtain ⟨w0, hw0⟩ : ∃ w0, w.alloc (.cells (stC x S) 30) = w0 := ⟨_, rfl⟩
  rw [hw0] at xb b0
  have h0 := h.bel b0
  have c0 := stC0 xb
  have c1 := stC1 xb
  have HX := Lib.hid xb
  have HB := Lib.hid b0
  have HS := Lib.hid h0
  have hm := dCheck_any x.d S.1 w0 h0.now.1
  simp only [dval] at hm
  simp only [stC] at hw0
  clear h h0 xb b0
  have n3 : (0 : Int) ≤ (S.2.2.2 : Int) := by omega
  have n4 : (0 : Int) ≤ (S.2.2.1 : Int) := by omega
  by_cases hd : MayD S.1
  · rw [show checkO S.1 = 0 by unfold checkO; rw [if_pos hd]] at hm
    have HM2 := Lib.hid hm
    clear hm
    by_cases ht : MayT S.2.1
    · by_cases e1 : 1 ≤ S.2.2.1 ∧ S.2.2.1 ≤ 65535
      · have HU := Lib.hid (fun W => stUpTo_any S.2.2.1 65535 true ⟨fun _ => ⟨e1.1, by omega⟩, fun _ => rfl⟩ W)
        by_cases e3 : S.2.2.2 ≤ 65535
        · have n2 : (S.2.2.2 : Int) ≤ 65535 := by omega
          obtain rfl : R = true := hR.2 ⟨hd, ht, e1, e3⟩
          clear hR e1 e3 hd
          go_enter Tryz.func40, Tryz.ntmps40
          go_wp2_with fail
          clear c0 c1
          refine HM2.out.mono ?_
          rintro e w1 ⟨rfl, b1⟩
          have x1 := HX.out.below b1 HX.out.lt
          have c2 := stC2 x1
          have c3 := stC3 x1
          have c4 := stC4 x1
          have HC := Lib.hid (spCheck_yes x.a S.2.1.length x.c _ S.2.1 w1 (HS.out.bel b1).now.2 ht)
          have HB1 := Lib.hid (HB.out.trans (b1.mono HB.out.size))
          clear b1 x1 ht
          go_wp2_with fail
          refine HC.out.mono ?_
          rintro e w2 ⟨rfl, rfl⟩
          go_wp2_with fail
          refine (HU.out w1).mono ?_
          rintro e w2 ⟨rfl, rfl⟩
          go_wp2_with fail
          go_ret
          exact ⟨rfl, HB1.out⟩
        · have n2 : ¬ (S.2.2.2 : Int) ≤ 65535 := by omega
          obtain rfl : R = false := by cases R with | false => rfl | true => exact absurd (hR.1 rfl) (fun hh => e3 hh.2.2.2)
          clear hR e1 e3 hd
          go_enter Tryz.func40, Tryz.ntmps40
          go_wp2_with fail
          clear c0 c1
          refine HM2.out.mono ?_
          rintro e w1 ⟨rfl, b1⟩
          have x1 := HX.out.below b1 HX.out.lt
          have c2 := stC2 x1
          have c3 := stC3 x1
          have c4 := stC4 x1
          have HC := Lib.hid (spCheck_yes x.a S.2.1.length x.c _ S.2.1 w1 (HS.out.bel b1).now.2 ht)
          have HB1 := Lib.hid (HB.out.trans (b1.mono HB.out.size))
          clear b1 x1 ht
          go_wp2_with fail
          refine HC.out.mono ?_
          rintro e w2 ⟨rfl, rfl⟩
          go_wp2_with fail
          refine (HU.out w1).mono ?_
          rintro e w2 ⟨rfl, rfl⟩
          go_wp2_with fail
          go_ret
          exact ⟨by simp; omega, HB1.out⟩
      · have HU := Lib.hid (fun W => stUpTo_any S.2.2.1 65535 false ⟨fun h => (by cases h), fun h => absurd (show 1 ≤ S.2.2.1 ∧ S.2.2.1 ≤ 65535 by omega) e1⟩ W)
        obtain rfl : R = false := by cases R with | false => rfl | true => exact absurd (hR.1 rfl) (fun hh => e1 hh.2.2.1)
        clear hR e1 hd
        go_enter Tryz.func40, Tryz.ntmps40
        go_wp2_with fail
        clear c0 c1
        refine HM2.out.mono ?_
        rintro e w1 ⟨rfl, b1⟩
        have x1 := HX.out.below b1 HX.out.lt
        have c2 := stC2 x1
        have c3 := stC3 x1
        have c4 := stC4 x1
        have HC := Lib.hid (spCheck_yes x.a S.2.1.length x.c _ S.2.1 w1 (HS.out.bel b1).now.2 ht)
        have HB1 := Lib.hid (HB.out.trans (b1.mono HB.out.size))
        clear b1 x1 ht
        go_wp2_with fail
        refine HC.out.mono ?_
        rintro e w2 ⟨rfl, rfl⟩
        go_wp2_with fail
        refine (HU.out w1).mono ?_
        rintro e w2 ⟨rfl, rfl⟩
        go_wp2_with fail
        go_ret
        exact ⟨rfl, HB1.out⟩
    · obtain rfl : R = false := by cases R with | false => rfl | true => exact absurd (hR.1 rfl) (fun hh => ht hh.2.1)
      clear hR hd
      go_enter Tryz.func40, Tryz.ntmps40
      go_wp2_with fail
      clear c0 c1
      refine HM2.out.mono ?_
      rintro e w1 ⟨rfl, b1⟩
      have x1 := HX.out.below b1 HX.out.lt
      have c2 := stC2 x1
      have c3 := stC3 x1
      have c4 := stC4 x1
      have HC := Lib.hid (spCheck_no x.a S.2.1.length x.c _ S.2.1 w1 (HS.out.bel b1).now.2 ht)
      have HB1 := Lib.hid (HB.out.trans (b1.mono HB.out.size))
      clear b1 x1 ht
      go_wp2_with fail
      refine HC.out.mono ?_
      rintro e w2 ⟨rfl, rfl⟩
      go_wp2_with fail
      go_ret
      exact ⟨rfl, HB1.out⟩
  · rw [show checkO S.1 = 8 by unfold checkO; rw [if_neg hd]] at hm
    have HM2 := Lib.hid hm
    clear hm
    obtain rfl : R = false := by cases R with | false => rfl | true => exact absurd (hR.1 rfl) (fun hh => hd hh.1)
    clear hR hd
    go_enter Tryz.func40, Tryz.ntmps40
    go_wp2_with fail
    clear c0 c1
    refine HM2.out.mono ?_
    rintro e w1 ⟨rfl, b1⟩
    have HB1 := Lib.hid (HB.out.trans (b1.mono HB.out.size))
    clear b1
    go_wp2_with fail
    go_ret
    exact ⟨rfl, HB1.out⟩
theorem stCheck_all (L : Nat) (x : SAt) (S : StL) (w : World) (h : StP L w x S) (_hL : L ≤ w.heap.size) (c : Nat) (hc : (MayS S → c = 0) ∧ (¬ MayS S → c = 8)) : Calls Tryz.prog 23 #[stV x S] w fun e w' => e = .returned (.int .i64 c) ∧ Below w.heap.size w w' := by
  obtain ⟨xb, b0⟩ := st_box w x S
  obtain ⟨w0, hw0⟩ : ∃ w0, w.alloc (.cells (stC x S) 30) = w0 := ⟨_, rfl⟩
  rw [hw0] at xb b0
  have c0 := stC0 xb
  have c1 := stC1 xb
  have c2 := stC2 xb
  have c3 := stC3 xb
  have c4 := stC4 xb
  have HB := Lib.hid b0
  have HMY := fun R hR => stMayBe_any L x S w0 (h.bel b0) R hR
  simp only [stC] at hw0
  clear h xb b0
  by_cases hm : MayS S
  · obtain rfl : c = 0 := hc.1 hm
    have HM := Lib.hid (HMY true ⟨fun _ => hm, fun _ => rfl⟩)
    clear HMY hc hm
    go_enter Tryz.func23, Tryz.ntmps23
    go_wp2_with fail
    refine HM.out.mono ?_
    rintro e w1 ⟨rfl, b1⟩
    have HB1 := Lib.hid (HB.out.trans (b1.mono HB.out.size))
    clear b1 c0 c1 c2 c3 c4
    go_wp2_with fail
    go_ret
    exact ⟨rfl, HB1.out⟩
  · obtain rfl : c = 8 := hc.2 hm
    have HM := Lib.hid (HMY false ⟨fun h => (by cases h), fun h => absurd h hm⟩)
    clear HMY hc hm
    go_enter Tryz.func23, Tryz.ntmps23
    go_wp2_with fail
    refine HM.out.mono ?_
    rintro e w1 ⟨rfl, b1⟩
    have HB1 := Lib.hid (HB.out.trans (b1.mono HB.out.size))
    clear b1 c0 c1 c2 c3 c4
    go_wp2_with fail
    go_ret
    exact ⟨rfl, HB1.out⟩
theorem stCheck_any (L : Nat) (x : SAt) (S : StL) (w : World) (h : StP L w x S) (_ho : OkS S) (hL : L ≤ w.heap.size) (c : Nat) (hc : (MayS S → c = 0) ∧ (¬ MayS S → c = 8)) : Calls Tryz.prog 23 #[stV x S] w fun e w' => e = .returned (.int .i64 c) ∧ Below w.heap.size w w' := stCheck_all L x S w h hL c hc
end Go.Proofs.YtbggkfomfeeikaaGreatDoor
/-
  Store's own: wrong, wrongToSeal, wrongPtr, with; nothing that was there is written.
-/
namespace Go.Proofs.YtbggkfomfeeikaaGreatDoor
open Go.RowKit Go.Shelf
set_option maxRecDepth 100000

/-- What is wrong with a store, a birth and a text's length. -/
noncomputable def wrongO (S : StL) (birth n : Nat) : Nat := open Classical in if MayS S then if 1 ≤ birth ∧ birth ≤ 16777215 then if n = 256 then 0 else 3 else 2 else 8
/-- What is wrong with a store or a pointer. -/
noncomputable def wrongPO (S : StL) (p : Pt) : Nat := open Classical in if MayS S ∧ MayP p then if p = p0 then 6 else 0 else 8
set_option maxHeartbeats 1000000 in
theorem stWrong_any (L : Nat) (x : SAt) (S : StL) (birth : Nat) (a : Option Addr) (n c : Nat) (w : World) (h : StP L w x S) (z : Nat) (hz : wrongO S birth n = z) : Calls Tryz.prog 41 #[stV x S, .int .u32 (birth : Int), .slice a n c] w fun e w' => e = .returned (.int .i64 (z : Int)) ∧ Below w.heap.size w w' := by
  obtain ⟨xb, b0⟩ := st_box w x S
  obtain ⟨w0, hw0⟩ : ∃ w0, w.alloc (.cells (stC x S) 30) = w0 := ⟨_, rfl⟩
  rw [hw0] at xb b0
  have c0 := stC0 xb
  have c1 := stC1 xb
  have c2 := stC2 xb
  have c3 := stC3 xb
  have c4 := stC4 xb
  have HB := Lib.hid b0
  have HMY := fun R hR => stMayBe_any L x S w0 (h.bel b0) R hR
  simp only [stC] at hw0
  clear h xb b0
  unfold wrongO at hz
  by_cases hm : MayS S
  · rw [if_pos hm] at hz
    have HM := Lib.hid (HMY true ⟨fun _ => hm, fun _ => rfl⟩)
    clear HMY hm
    by_cases hb : 1 ≤ birth ∧ birth ≤ 16777215
    · rw [if_pos hb] at hz
      have HU := Lib.hid (fun W => stUpTo_any birth 16777215 true ⟨fun _ => ⟨hb.1, by omega⟩, fun _ => rfl⟩ W)
      clear hb
      by_cases hn : n = 256
      · rw [if_pos hn] at hz
        have e1 : ((n : Int) != 256) = false := by simp; omega
        subst hz
        clear hn
        go_enter Tryz.func41, Tryz.ntmps41
        go_wp2_with fail
        refine HM.out.mono ?_
        rintro e w1 ⟨rfl, b1⟩
        have HB1 := Lib.hid (HB.out.trans (b1.mono HB.out.size))
        clear b1 c0 c1 c2 c3 c4
        go_wp2_with fail
        refine (HU.out w1).mono ?_
        rintro e w2 ⟨rfl, rfl⟩
        go_wp2_with fail
        go_ret
        exact ⟨rfl, HB1.out⟩
      · rw [if_neg hn] at hz
        have e1 : ((n : Int) != 256) = true := by simp; omega
        subst hz
        clear hn
        go_enter Tryz.func41, Tryz.ntmps41
        go_wp2_with fail
        refine HM.out.mono ?_
        rintro e w1 ⟨rfl, b1⟩
        have HB1 := Lib.hid (HB.out.trans (b1.mono HB.out.size))
        clear b1 c0 c1 c2 c3 c4
        go_wp2_with fail
        refine (HU.out w1).mono ?_
        rintro e w2 ⟨rfl, rfl⟩
        go_wp2_with fail
        go_ret
        exact ⟨rfl, HB1.out⟩
    · rw [if_neg hb] at hz
      have HU := Lib.hid (fun W => stUpTo_any birth 16777215 false ⟨fun h => (by cases h), fun h => absurd (show 1 ≤ birth ∧ birth ≤ 16777215 by omega) hb⟩ W)
      subst hz
      clear hb
      go_enter Tryz.func41, Tryz.ntmps41
      go_wp2_with fail
      refine HM.out.mono ?_
      rintro e w1 ⟨rfl, b1⟩
      have HB1 := Lib.hid (HB.out.trans (b1.mono HB.out.size))
      clear b1 c0 c1 c2 c3 c4
      go_wp2_with fail
      refine (HU.out w1).mono ?_
      rintro e w2 ⟨rfl, rfl⟩
      go_wp2_with fail
      go_ret
      exact ⟨rfl, HB1.out⟩
  · rw [if_neg hm] at hz
    have HM := Lib.hid (HMY false ⟨fun h => (by cases h), fun h => absurd h hm⟩)
    subst hz
    clear HMY hm
    go_enter Tryz.func41, Tryz.ntmps41
    go_wp2_with fail
    refine HM.out.mono ?_
    rintro e w1 ⟨rfl, b1⟩
    have HB1 := Lib.hid (HB.out.trans (b1.mono HB.out.size))
    clear b1 c0 c1 c2 c3 c4
    go_wp2_with fail
    go_ret
    exact ⟨rfl, HB1.out⟩
set_option maxHeartbeats 1000000 in
theorem stWrongPtr_any (L : Nat) (x : SAt) (S : StL) (p : Pt) (w : World) (h : StP L w x S) (z : Nat) (hz : wrongPO S p = z) : Calls Tryz.prog 79 #[stV x S, ptV p] w fun e w' => e = .returned (.int .i64 (z : Int)) ∧ Below w.heap.size w w' := by
  obtain ⟨w0, hw0, b0, z0, x0, q0⟩ := two_al w (stC x S) (ptA p) 30 32
  have h0 := h.bel b0
  have c0 := stC0 x0
  have c1 := stC1 x0
  have c2 := stC2 x0
  have c3 := stC3 x0
  have c4 := stC4 x0
  have d0 := bx0 q0
  have d1 := bx1 q0
  have d2 := bx2 q0
  have d3 := bx3 q0
  have d4 := bx4 q0
  have HQ := Lib.hid q0
  have HB := Lib.hid b0
  have HMY := fun R hR => stMayBe_any L x S w0 h0 R hR
  have hpm := fun W => Check_any p W
  simp only [stC, ptA] at hw0
  clear h h0 x0 q0 b0 z0
  unfold wrongPO at hz
  by_cases hms : MayS S
  · have HM := Lib.hid (HMY true ⟨fun _ => hms, fun _ => rfl⟩)
    clear HMY
    by_cases hmp : MayP p
    · rw [if_pos ⟨hms, hmp⟩] at hz
      rw [show pcheckO p = 0 by unfold pcheckO; rw [if_pos hmp]] at hpm
      have HC := Lib.hid hpm
      clear hpm hms hmp
      by_cases hp : p = p0
      · rw [if_pos hp] at hz
        have he : eqP p p0 = true := (eqP_iff p p0).2 hp
        subst hz
        clear hp
        obtain ⟨pa, pb, pc, pd, pe⟩ := p
        have heq := eqPt_zero pa pb pc pd pe
        rw [he] at heq
        clear he
        go_enter Tryz.func79, Tryz.ntmps79
        go_wp2_with fail
        refine HM.out.mono ?_
        rintro e w1 ⟨rfl, b1⟩
        replace HQ := Lib.hid (HQ.out.below b1 HQ.out.lt)
        replace HB := Lib.hid (HB.out.trans (b1.mono HB.out.size))
        clear b1 c0 c1 c2 c3 c4 d0 d1 d2 d3 d4
        have d0 := bx0 HQ.out
        have d1 := bx1 HQ.out
        have d2 := bx2 HQ.out
        have d3 := bx3 HQ.out
        have d4 := bx4 HQ.out
        go_wp2_with fail
        refine (HC.out w1).mono ?_
        rintro e w2 ⟨rfl, b2⟩
        replace HQ := Lib.hid (HQ.out.below b2 HQ.out.lt)
        replace HB := Lib.hid (HB.out.trans (b2.mono HB.out.size))
        clear b2 d0 d1 d2 d3 d4
        have d0 := bx0 HQ.out
        have d1 := bx1 HQ.out
        have d2 := bx2 HQ.out
        have d3 := bx3 HQ.out
        have d4 := bx4 HQ.out
        go_wp2_with fail
        go_ret
        exact ⟨rfl, HB.out⟩
      · rw [if_neg hp] at hz
        have he : eqP p p0 = false := by
          cases hq : eqP p p0 with
          | false => rfl
          | true => exact absurd ((eqP_iff p p0).1 hq) hp
        subst hz
        clear hp
        obtain ⟨pa, pb, pc, pd, pe⟩ := p
        have heq := eqPt_zero pa pb pc pd pe
        rw [he] at heq
        clear he
        go_enter Tryz.func79, Tryz.ntmps79
        go_wp2_with fail
        refine HM.out.mono ?_
        rintro e w1 ⟨rfl, b1⟩
        replace HQ := Lib.hid (HQ.out.below b1 HQ.out.lt)
        replace HB := Lib.hid (HB.out.trans (b1.mono HB.out.size))
        clear b1 c0 c1 c2 c3 c4 d0 d1 d2 d3 d4
        have d0 := bx0 HQ.out
        have d1 := bx1 HQ.out
        have d2 := bx2 HQ.out
        have d3 := bx3 HQ.out
        have d4 := bx4 HQ.out
        go_wp2_with fail
        refine (HC.out w1).mono ?_
        rintro e w2 ⟨rfl, b2⟩
        replace HQ := Lib.hid (HQ.out.below b2 HQ.out.lt)
        replace HB := Lib.hid (HB.out.trans (b2.mono HB.out.size))
        clear b2 d0 d1 d2 d3 d4
        have d0 := bx0 HQ.out
        have d1 := bx1 HQ.out
        have d2 := bx2 HQ.out
        have d3 := bx3 HQ.out
        have d4 := bx4 HQ.out
        go_wp2_with fail
        go_ret
        exact ⟨rfl, HB.out⟩
    · rw [if_neg (fun hh => hmp hh.2)] at hz
      rw [show pcheckO p = 8 by unfold pcheckO; rw [if_neg hmp]] at hpm
      have HC := Lib.hid hpm
      subst hz
      clear hpm hms hmp
      go_enter Tryz.func79, Tryz.ntmps79
      go_wp2_with fail
      refine HM.out.mono ?_
      rintro e w1 ⟨rfl, b1⟩
      replace HQ := Lib.hid (HQ.out.below b1 HQ.out.lt)
      replace HB := Lib.hid (HB.out.trans (b1.mono HB.out.size))
      clear b1 c0 c1 c2 c3 c4 d0 d1 d2 d3 d4
      have d0 := bx0 HQ.out
      have d1 := bx1 HQ.out
      have d2 := bx2 HQ.out
      have d3 := bx3 HQ.out
      have d4 := bx4 HQ.out
      go_wp2_with fail
      refine (HC.out w1).mono ?_
      rintro e w2 ⟨rfl, b2⟩
      replace HQ := Lib.hid (HQ.out.below b2 HQ.out.lt)
      replace HB := Lib.hid (HB.out.trans (b2.mono HB.out.size))
      clear b2 d0 d1 d2 d3 d4
      have d0 := bx0 HQ.out
      have d1 := bx1 HQ.out
      have d2 := bx2 HQ.out
      have d3 := bx3 HQ.out
      have d4 := bx4 HQ.out
      go_wp2_with fail
      go_ret
      exact ⟨rfl, HB.out⟩
  · rw [if_neg (fun hh => hms hh.1)] at hz
    have HM := Lib.hid (HMY false ⟨fun h => (by cases h), fun h => absurd h hms⟩)
    subst hz
    clear HMY hpm hms
    go_enter Tryz.func79, Tryz.ntmps79
    go_wp2_with fail
    refine HM.out.mono ?_
    rintro e w1 ⟨rfl, b1⟩
    replace HQ := Lib.hid (HQ.out.below b1 HQ.out.lt)
    replace HB := Lib.hid (HB.out.trans (b1.mono HB.out.size))
    clear b1 c0 c1 c2 c3 c4 d0 d1 d2 d3 d4
    have d0 := bx0 HQ.out
    have d1 := bx1 HQ.out
    have d2 := bx2 HQ.out
    have d3 := bx3 HQ.out
    have d4 := bx4 HQ.out
    go_wp2_with fail
    go_ret
    exact ⟨rfl, HB.out⟩
set_option maxHeartbeats 1000000 in
theorem stWith_any (x : SAt) (S : StL) (y : DAt) (D : DkL) (a : Option Addr) (n c : Nat) (w : World) : Calls Tryz.prog 69 #[stV x S, dval y D, .slice a n c] w fun e w' => e = .returned (.agg #[.slice y.ba D.1.length y.bc, .slice y.wa D.2.length y.wc, .slice a n c, .int .u32 (S.2.2.1 : Int), .int .u32 (S.2.2.2 : Int)]) ∧ Below w.heap.size w w' := by
  obtain ⟨w0, hw0, b0, z0, x0, y0, q0⟩ := three_al w (stC x S) #[.slice y.ba D.1.length y.bc, .slice y.wa D.2.length y.wc] stZ 30 26 30
  obtain ⟨g, hg⟩ : ∃ g, w.heap.size = g := ⟨_, rfl⟩
  obtain ⟨g1, hg1⟩ : ∃ g1, g + 1 = g1 := ⟨_, rfl⟩
  obtain ⟨g2, hg2⟩ : ∃ g2, g1 + 1 = g2 := ⟨_, rfl⟩
  rw [hg] at x0 y0 q0 b0
  rw [show g + 2 = g1 + 1 by omega] at q0
  rw [hg1] at y0
  rw [hg2] at q0
  have HG := Lib.hid hg
  have HB := Lib.hid b0
  have e0 : w0.cell? ⟨g1, 0, none⟩ = some (.slice y.ba D.1.length y.bc) := y0.cell 0
  have e1 : w0.cell? ⟨g1, 1, none⟩ = some (.slice y.wa D.2.length y.wc) := y0.cell 1
  have c0 := stC0 x0
  have c1 := stC1 x0
  have c2 := stC2 x0
  have c3 := stC3 x0
  have c4 := stC4 x0
  have hfx := fun i => x0.frozen i
  have HX := Lib.hid x0
  have HQ := Lib.hid q0
  have HNE := Lib.hid (show g2 ≠ g by omega)
  have HGE := Lib.hid (show g ≤ g2 by omega)
  obtain ⟨x2, k2, b2⟩ := box_two x0 (by decide) (Nat.zero_le _) b0 (Nat.le_refl _) (.slice y.ba D.1.length y.bc) (.slice y.wa D.2.length y.wc)
  have q2 := (q0.far (p := ⟨g, 0, none⟩) HNE.out (.slice y.ba D.1.length y.bc)).far (p := ⟨g, 1, none⟩) HNE.out (.slice y.wa D.2.length y.wc)
  obtain ⟨w2, hw2⟩ : ∃ w2, (w0.setCell ⟨g, 0, none⟩ (.slice y.ba D.1.length y.bc)).setCell ⟨g, 1, none⟩ (.slice y.wa D.2.length y.wc) = w2 := ⟨_, rfl⟩
  rw [hw2] at x2 k2 b2 q2
  have cc := bx2 x2
  have hf2 := fun i => x2.frozen i
  have q3 := q2.far (p := ⟨g, 2, none⟩) HNE.out (.slice a n c)
  obtain ⟨x3, k3, b3⟩ := box_at x2 (by decide) (Nat.zero_le _) b2 (Nat.le_refl _) 2 (.slice a n c)
  obtain ⟨w3, hw3⟩ : ∃ w3, w2.setCell ⟨g, 2, none⟩ (.slice a n c) = w3 := ⟨_, rfl⟩
  rw [hw3] at x3 k3 b3 q3
  replace x3 : Blk w3 g 30 #[.slice y.ba D.1.length y.bc, .slice y.wa D.2.length y.wc, .slice a n c, .int .u32 (S.2.2.1 : Int), .int .u32 (S.2.2.2 : Int)] := x3
  have p0 := bx0 x3
  have p1 := bx1 x3
  have p2 := bx2 x3
  have p3 := bx3 x3
  have p4 := bx4 x3
  have r0 := stZ0 q3
  have r1 := stZ1 q3
  have r2 := stZ2 q3
  have r3 := stZ3 q3
  have r4 := stZ4 q3
  have hfy := fun i => q3.frozen i
  have H2 := Lib.hid (box_five q3 (by decide) (Nat.zero_le _) b3 HGE.out (.slice y.ba D.1.length y.bc) (.slice y.wa D.2.length y.wc) (.slice a n c) (.int .u32 (S.2.2.1 : Int)) (.int .u32 (S.2.2.2 : Int)))
  simp only [stC, stZ] at hw0
  simp only [dval]
  clear x0 y0 q0 b0 z0 x2 k2 b2 q2 x3 k3 b3 q3 HX HQ
  go_enter Tryz.func69, Tryz.ntmps69
  go_wp2_with fail
  clear p0 p1 p2 p3 p4 r0 r1 r2 r3 r4 hfy hfx c0 c1 c2 c3 c4 e0 e1 hw2 hw3 cc hf2
  obtain ⟨xf, _, bf⟩ := H2.out
  obtain ⟨wf, hwf⟩ : ∃ wf, set5 w3 g2 (.slice y.ba D.1.length y.bc) (.slice y.wa D.2.length y.wc) (.slice a n c) (.int .u32 (S.2.2.1 : Int)) (.int .u32 (S.2.2.2 : Int)) = wf := ⟨_, rfl⟩
  rw [hwf] at xf bf
  simp only [set5] at hwf
  rw [hwf]
  have e0 := bx0 xf
  have e1 := bx1 xf
  have e2 := bx2 xf
  have e3 := bx3 xf
  have e4 := bx4 xf
  refine bodyPost_ret (v := .agg #[.slice y.ba D.1.length y.bc, .slice y.wa D.2.length y.wc, .slice a n c, .int .u32 (S.2.2.1 : Int), .int .u32 (S.2.2.2 : Int)]) (by simp [results, Tryz.f69, go_sem, e0, e1, e2, e3, e4]) rfl ?_
  exact ⟨rfl, by rw [HG.out]; exact bf⟩
end Go.Proofs.YtbggkfomfeeikaaGreatDoor
