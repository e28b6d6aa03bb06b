/-
  Texts of one seat, one behind the other.
-/
import Derived.OwnWalk
import Derived.Laws.Cover3
import Derived.ChangeKeysEq
import Derived.Lib.AppendZeros
import Derived.Test.YtbggkfomfeeikaaGreatDoorPkST2
/-
  Words for what is below a root: what Ptrs, Object and Walk answer of a store, a root and a sync, as plain lists; what follows of them.
-/
namespace Go.Proofs.YtbggkfomfeeikaaGreatDoor
open Go.RowKit Go.Shelf
set_option maxRecDepth 100000

/-- The pointers of a root that may be, in a store that may be. -/
def rowSO (S : StL) (p : Pt) : List Pt × Nat :=
  if p = p0 then (List.replicate 16 p0, 0)
  else if (seenO S p).2 ≠ 0 then ([], (seenO S p).2)
  else if (rowsO (seenO S p).1).2 ≠ 0 then ([], 8) else ((rowsO (seenO S p).1).1, 0)
/-- The object of a pointer. -/
def oneSO (S : StL) (p : Pt) : ObL × Nat :=
  if (seenO S p).2 ≠ 0 then (ob0, (seenO S p).2)
  else if (oreadO (seenO S p).1).2 ≠ 0 then (ob0, 8) else ((oreadO (seenO S p).1).1, 0)
noncomputable def ptrsSO (S : StL) (p : Pt) : List Pt × Nat :=
  open Classical in if MayS S ∧ MayP p then rowSO S p else ([], 8)
noncomputable def objSO (S : StL) (p : Pt) (n : Int) : ObL × Nat :=
  open Classical in
  if MayS S ∧ MayP p then
    if 0 ≤ n ∧ n < 16 then
      if (rowSO S p).2 ≠ 0 then (ob0, (rowSO S p).2) else oneSO S ((rowSO S p).1.getD n.toNat p0)
    else (ob0, 2)
  else (ob0, 8)
/-- Born behind a sync. -/
def Yng (a : Nat) (p : Pt) : Prop := p ≠ p0 ∧ a < p.2.1
instance (a : Nat) (p : Pt) : Decidable (Yng a p) := by unfold Yng; exact inferInstance
def dataY (a : Nat) (L : List Pt) : List Pt := L.filter fun q => decide (Yng a q)
/-- What an object's pointer brings; its error. -/
def chunkS (S : StL) (a : Nat) (p : Pt) : List Pt := if Yng a p then p :: dataY a (oneSO S p).1.2.2.2 else []
def errS (S : StL) (a : Nat) (p : Pt) : Nat := if Yng a p then (oneSO S p).2 else 0
/-- The first number that is not nought. -/
def firstE : List Nat → Nat
  | [] => 0
  | e :: r => if e = 0 then firstE r else e
theorem firstE_zero {l : List Nat} (h : ∀ e ∈ l, e = 0) : firstE l = 0 := by
  induction l with
  | nil => rfl
  | cons x r ih =>
    unfold firstE
    rw [if_pos (h x (List.mem_cons_self ..))]
    exact ih fun e he => h e (List.mem_cons_of_mem _ he)
theorem firstE_at {l : List Nat} {k : Nat} (hk : k < l.length) (h0 : ∀ i, i < k → l.getD i 0 = 0) (h1 : l.getD k 0 ≠ 0) : firstE l = l.getD k 0 := by
  induction l generalizing k with
  | nil => simp at hk
  | cons x r ih =>
    cases k with
    | zero =>
      unfold firstE
      rw [if_neg (by simpa using h1)]
      rfl
    | succ k =>
      have hx : x = 0 := by simpa using h0 0 (by omega)
      unfold firstE
      rw [if_pos hx]
      have := ih (k := k) (by simpa using hk) (fun i hi => by simpa using h0 (i + 1) (by omega)) (by simpa using h1)
      simpa using this
/-- The young ones below a root. -/
def youngSO (S : StL) (p : Pt) (a : Nat) : List Pt × Nat :=
  if ¬ Yng a p then ([], 0)
  else if (rowSO S p).2 ≠ 0 then ([], (rowSO S p).2)
  else if firstE ((rowSO S p).1.map (errS S a)) ≠ 0 then ([], firstE ((rowSO S p).1.map (errS S a)))
  else (p :: (rowSO S p).1.flatMap (chunkS S a), 0)
noncomputable def walkSO (S : StL) (p : Pt) (a : Nat) : List Pt × Nat :=
  open Classical in if MayS S ∧ MayP p then youngSO S p a else ([], 8)
/-- Not below block B. -/
def HiA (B : Nat) (a : Option Addr) : Prop := ∀ p, a = some p → B ≤ p.block
theorem HiA.less {B B' : Nat} {a : Option Addr} (h : HiA B a) (hB : B' ≤ B) : HiA B' a := fun p e => Nat.le_trans hB (h p e)
theorem prow_hi {w : World} {base n c : Nat} {a : Option Addr} {L : List Pt} (h : PRow w base (.slice a n c) L) : HiA base a := by
  obtain ⟨_, ⟨e, _⟩ | ⟨g, cap, cur, e, q1, _⟩⟩ := h.1
  · cases e; exact fun _ e => by cases e
  · cases e; exact fun _ e => by cases e; exact q1
/-- Pointers and an error's number. -/
def OutLs (o : List Pt × Nat) (w : World) (e : Ending) (w' : World) : Prop := ∃ a c, e = .returned (.tuple #[.slice a o.1.length c, .int .i64 o.2]) ∧ Pts w' w'.heap.size a o.1.length c o.1 ∧ HiA w.heap.size a ∧ Below w.heap.size w w'
theorem outLs_no (c : Nat) {w w' : World} (hb : Below w.heap.size w w') : OutLs ([], c) w (.returned (.tuple #[.slice none 0 0, .int .i64 c])) w' := ⟨none, 0, rfl, pts_nil _ _, fun _ e => (by cases e), hb⟩
/-- An object and an error's number. -/
def OutOs (o : ObL × Nat) (w : World) (e : Ending) (w' : World) : Prop := ∃ a c, e = .returned (.tuple #[.agg #[.int .u8 (o.1.1 : Int), .int .i64 o.1.2.1, .int .i64 o.1.2.2.1, .slice a o.1.2.2.2.length c], .int .i64 o.2]) ∧ Pts w' w'.heap.size a o.1.2.2.2.length c o.1.2.2.2 ∧ HiA w.heap.size a ∧ Below w.heap.size w w'
theorem outOs_no (c : Nat) {w w' : World} (hb : Below w.heap.size w w') : OutOs (ob0, c) w (.returned (.tuple #[.agg #[.int .u8 0, .int .i64 0, .int .i64 0, .slice none 0 0], .int .i64 c])) w' := ⟨none, 0, rfl, pts_nil _ _, fun _ e => (by cases e), hb⟩
theorem Pts.cellw {w : World} {B len cap g i : Nat} {a : Option Addr} {L : List Pt} (h : Pts w B a len cap L) (ha : ∀ p, a = some p → g < p.block) (v : Value) : Pts (w.setCell ⟨g, i, none⟩ v) B a len cap L := by
  obtain ⟨h1, h2, h3, h4, h5⟩ := h
  refine ⟨h1, h2, h3, h4, fun hl => ?_⟩
  obtain ⟨b, off, e, hlt, hc⟩ := h5 hl
  have hne := ha _ e
  refine ⟨b, off, e, hlt, fun i hi => ⟨(hc i hi).1, fun j u hu => ((World.cell?_setCell_other w _ _ _ ?_).trans ((hc i hi).2 j u hu))⟩⟩
  simp only at hne
  intro e2
  injection e2 with e2
  omega
theorem Pts.box4 {w : World} {B len cap g : Nat} {a : Option Addr} {L : List Pt} (h : Pts w B a len cap L) (ha : ∀ p, a = some p → g < p.block) (v0 v1 v2 v3 : Value) : Pts ((((w.setCell ⟨g, 0, none⟩ v0).setCell ⟨g, 1, none⟩ v1).setCell ⟨g, 2, none⟩ v2).setCell ⟨g, 3, none⟩ v3) B a len cap L :=
  (((h.cellw ha v0).cellw ha v1).cellw ha v2).cellw ha v3

theorem rowSO_none (S : StL) : rowSO S p0 = (List.replicate 16 p0, 0) := if_pos rfl
theorem yng_p0 (a : Nat) : ¬ Yng a p0 := fun h => h.1 rfl
theorem rowsL_wf (s : List UInt8) : ∀ p ∈ rowsL s, WfP p := fun p hp => by
  obtain ⟨i, _, rfl⟩ := List.mem_map.1 hp
  exact wf_getP _
theorem oneSO_cases (S : StL) (p : Pt) : (∃ e, oneSO S p = (ob0, e) ∧ e ≠ 0) ∨ ∃ O, oneSO S p = (O, 0) ∧ MayOb O ∧ ∀ q ∈ O.2.2.2, WfP q := by
  unfold oneSO
  split
  · rename_i h
    exact .inl ⟨_, rfl, h⟩
  · rcases oreadO_cases (seenO S p).1 with ⟨e, h, hne⟩ | ⟨_, hm, _, h⟩
    · rw [h, if_pos hne]
      exact .inl ⟨8, rfl, by decide⟩
    · rw [h, if_neg (fun h => h rfl)]
      exact .inr ⟨_, rfl, hm, ptsOb_wf _ 15⟩
theorem rowSO_cases (S : StL) (p : Pt) : (∃ e, rowSO S p = ([], e) ∧ e ≠ 0) ∨ ∃ L, rowSO S p = (L, 0) ∧ L.length = 16 ∧ (∀ q ∈ L, WfP q) ∧ ∀ q ∈ L, MayP q := by
  unfold rowSO
  split
  · exact .inr ⟨_, rfl, List.length_replicate .., fun q h => by rw [List.eq_of_mem_replicate h]; exact wf_p0, fun q h => by rw [List.eq_of_mem_replicate h]; exact may_p0⟩
  · split
    · rename_i h
      exact .inl ⟨_, rfl, h⟩
    · rcases rowsO_cases (seenO S p).1 with ⟨c, h, hne⟩ | ⟨_, hm, h⟩
      · rw [h, if_pos hne]
        exact .inl ⟨8, rfl, by decide⟩
      · rw [h, if_neg (fun h => h rfl)]
        exact .inr ⟨_, rfl, rowsL_length _, rowsL_wf _, hm⟩
theorem ptrsSO_may {S : StL} {p : Pt} (h : MayS S) (hp : MayP p) : ptrsSO S p = rowSO S p := by unfold ptrsSO; rw [if_pos ⟨h, hp⟩]
theorem ptrsSO_no {S : StL} {p : Pt} (h : ¬ (MayS S ∧ MayP p)) : ptrsSO S p = ([], 8) := by unfold ptrsSO; rw [if_neg h]
theorem walkSO_may {S : StL} {p : Pt} {a : Nat} (h : MayS S) (hp : MayP p) : walkSO S p a = youngSO S p a := by unfold walkSO; rw [if_pos ⟨h, hp⟩]
theorem walkSO_no {S : StL} {p : Pt} {a : Nat} (h : ¬ (MayS S ∧ MayP p)) : walkSO S p a = ([], 8) := by unfold walkSO; rw [if_neg h]
theorem objSO_no {S : StL} {p : Pt} {n : Int} (h : ¬ (MayS S ∧ MayP p)) : objSO S p n = (ob0, 8) := by unfold objSO; rw [if_neg h]
theorem objSO_arg {S : StL} {p : Pt} {n : Int} (h : MayS S) (hp : MayP p) (hn : ¬ (0 ≤ n ∧ n < 16)) : objSO S p n = (ob0, 2) := by unfold objSO; rw [if_pos ⟨h, hp⟩, if_neg hn]
theorem objSO_at {S : StL} {p : Pt} {n : Nat} {L : List Pt} (h : MayS S) (hp : MayP p) (hn : n < 16) (hr : rowSO S p = (L, 0)) : objSO S p (n : Int) = oneSO S (L.getD n p0) := by
  unfold objSO
  rw [if_pos ⟨h, hp⟩, if_pos (by omega), hr, if_neg (fun h => h rfl)]
  rfl
theorem objSO_row {S : StL} {p : Pt} {n : Int} {e : Nat} (h : MayS S) (hp : MayP p) (hn : 0 ≤ n ∧ n < 16) (hr : rowSO S p = ([], e)) (he : e ≠ 0) : objSO S p n = (ob0, e) := by
  unfold objSO
  rw [if_pos ⟨h, hp⟩, if_pos hn, hr, if_pos he]
theorem chunkS_len (S : StL) (a : Nat) (p : Pt) (h : (oneSO S p).2 = 0) : (chunkS S a p).length ≤ 16 := by
  unfold chunkS
  split
  · rcases oneSO_cases S p with ⟨e, h1, h2⟩ | ⟨O, h1, h2, _⟩
    · rw [h1] at h
      exact absurd h h2
    · rw [h1]
      have := List.length_filter_le (fun q => decide (Yng a q)) O.2.2.2
      have h15 := h2.1.2.2.2
      simp only [List.length_cons, dataY]
      omega
  · simp
theorem flat_len {f : Pt → List Pt} : ∀ {L : List Pt}, (∀ p ∈ L, (f p).length ≤ 16) → (L.flatMap f).length ≤ 16 * L.length
  | [], _ => by simp
  | p :: L, h => by
    rw [List.flatMap_cons, List.length_append, List.length_cons]
    have h1 := h p (List.mem_cons_self ..)
    have h2 := flat_len (L := L) fun q hq => h q (List.mem_cons_of_mem _ hq)
    omega
theorem youngSO_row {S : StL} {p : Pt} {a : Nat} {L : List Pt} (hy : Yng a p) (hr : rowSO S p = (L, 0)) (he : ∀ q ∈ L, Yng a q → (oneSO S q).2 = 0) : youngSO S p a = (p :: L.flatMap (chunkS S a), 0) := by
  have hf : firstE (L.map (errS S a)) = 0 := firstE_zero fun e h => by
    obtain ⟨q, hq, rfl⟩ := List.mem_map.1 h
    unfold errS
    split
    · exact he q hq (by assumption)
    · rfl
  unfold youngSO
  rw [if_neg (fun h => h hy), hr, if_neg (fun h => h rfl), if_neg (fun h => h hf)]
end Go.Proofs.YtbggkfomfeeikaaGreatDoor
/-
  What follows of what is below a root: later syncs, and blocks elsewhere.
-/
namespace Go.Proofs.YtbggkfomfeeikaaGreatDoor
open Go.RowKit Go.Shelf
set_option maxRecDepth 100000

theorem Yng.less {a b : Nat} {p : Pt} (h : Yng b p) (hab : a ≤ b) : Yng a p := ⟨h.1, Nat.lt_of_le_of_lt hab h.2⟩
theorem Pts.len_le {w : World} {B n c : Nat} {a : Option Addr} {l : List Pt} (h : Pts w B a n c l) : (n : Int) ≤ 9223372036854775807 := by have h1 := h.2.1; have h2 := h.2.2.1; unfold maxLen at h2; omega
theorem eqP_not {p q : Pt} (h : p ≠ q) : eqP p q = false := decide_eq_false h
end Go.Proofs.YtbggkfomfeeikaaGreatDoor
/-
  Words for lists of whole numbers (Go's []int with no number below nought): a slice that reads as them; appends to a slice of one's own; a cell of it.
-/
namespace Go.Proofs.YtbggkfomfeeikaaGreatDoor
open Go.RowKit Go.Shelf
set_option maxRecDepth 100000

/-- A slice of numbers that lies below block B reads as s. -/
def Nsl (w : World) (B : Nat) (a : Option Addr) (len cap : Nat) (s : List Nat) : Prop :=
  s.length = len ∧ len ≤ cap ∧ cap ≤ maxLen ∧ (a = none → cap = 0) ∧
    (0 < len → ∃ b off, a = some ⟨b, off, none⟩ ∧ b < B ∧ ∀ i (h : i < s.length), w.cell? ⟨b, off + i, none⟩ = some (.int .i64 ((s[i] : Nat) : Int)))
theorem Nsl.below {w w' : World} {B : Nat} {a : Option Addr} {len cap : Nat} {s : List Nat} (h : Nsl w B a len cap s) (hb : Below B w w') : Nsl w' B a len cap s := by
  obtain ⟨h1, h2, h3, h4, h5⟩ := h
  refine ⟨h1, h2, h3, h4, fun hl => ?_⟩
  obtain ⟨b, off, e, hlt, hc⟩ := h5 hl
  exact ⟨b, off, e, hlt, fun i hi => (hb.cell (p := ⟨b, off + i, none⟩) hlt).trans (hc i hi)⟩
theorem Nsl.more {w : World} {B B' : Nat} {a : Option Addr} {len cap : Nat} {s : List Nat} (h : Nsl w B a len cap s) (hB : B ≤ B') : Nsl w B' a len cap s := by
  obtain ⟨h1, h2, h3, h4, h5⟩ := h
  refine ⟨h1, h2, h3, h4, fun hl => ?_⟩
  obtain ⟨b, off, e, hlt, hc⟩ := h5 hl
  exact ⟨b, off, e, by omega, hc⟩
theorem Nsl.step {w w' : World} {a : Option Addr} {len cap : Nat} {s : List Nat} (h : Nsl w w.heap.size a len cap s) (hb : Below w.heap.size w w') : Nsl w' w'.heap.size a len cap s := (h.below hb).more hb.size
theorem Nsl.cellD {w : World} {B g off len cap : Nat} {s : List Nat} (h : Nsl w B (some ⟨g, off, none⟩) len cap s) (i : Nat) (hi : i < len) : w.cell? ⟨g, off + i, none⟩ = some (.int .i64 ((s.getD i 0 : Nat) : Int)) := by
  obtain ⟨b, o, e, _, hc⟩ := h.2.2.2.2 (by omega)
  cases e
  have hl : i < s.length := by rw [h.1]; exact hi
  rw [hc i hl, List.getD_eq_getElem?_getD, List.getElem?_eq_getElem hl]
  rfl
end Go.Proofs.YtbggkfomfeeikaaGreatDoor
/-
  space's own: marks, slices.IndexFunc and ContainsFunc over bytes, whether a table may be, bytes.Clone, a table with another mark, the closure that tells the free blocks.
-/
namespace Go.Proofs.YtbggkfomfeeikaaGreatDoor
open Go.RowKit Go.Shelf
set_option maxRecDepth 100000

theorem Bsl.mk {w : World} {B g off len cap : Nat} {s : List UInt8} (h : Bsl w B (some ⟨g, off, none⟩) len cap s) (i : Nat) (hi : i < len) : w.cell? ⟨g, off + i, none⟩ = some (.int .u8 ((mkT s i : Nat) : Int)) := h.cellD i hi
theorem Bsl.at_ {w : World} {B len cap : Nat} {a : Option Addr} {s : List UInt8} (h : Bsl w B a len cap s) (h0 : 0 < len) : ∃ b off, a = some ⟨b, off, none⟩ ∧ b < B := by
  obtain ⟨b, off, e, hb, _⟩ := h.2.2.2.2 h0
  exact ⟨b, off, e, hb⟩

theorem isNoMark_any (x : Nat) (hx : x < 256) (w : World) : Calls Tryz.prog 126 #[.int .u8 x] w fun e w' => e = .returned (.bool (decide (2 < x))) ∧ w = w' := by
  have x0 : (0 : Int) ≤ x := by omega
  by_cases h0 : x = 0
  · subst h0
    go_enter Tryz.func126, Tryz.ntmps126
    go_wp2_with fail
    go_ret
    exact ⟨rfl, rfl⟩
  · have e0 : ((x : Int) != 0) = true := by simp; omega
    by_cases h1 : x = 1
    · subst h1
      go_enter Tryz.func126, Tryz.ntmps126
      go_wp2_with fail
      go_ret
      exact ⟨rfl, rfl⟩
    · have e1 : ((x : Int) != 1) = true := by simp; omega
      by_cases h2 : x = 2
      · subst h2
        go_enter Tryz.func126, Tryz.ntmps126
        go_wp2_with fail
        go_ret
        exact ⟨rfl, rfl⟩
      · have e2 : ((x : Int) != 2) = true := by simp; omega
        have e3 : decide (2 < x) = true := decide_eq_true (by omega)
        rw [e3]
        clear h0 h1 h2 e3
        go_enter Tryz.func126, Tryz.ntmps126
        go_wp2_with fail
        go_ret
        exact ⟨rfl, rfl⟩
theorem isNotUsed_any (x : Nat) (hx : x < 256) (w : World) : Calls Tryz.prog 127 #[.int .u8 x] w fun e w' => e = .returned (.bool (decide (x ≠ 1))) ∧ w = w' := by
  have x0 : (0 : Int) ≤ x := by omega
  by_cases h1 : x = 1
  · subst h1
    go_enter Tryz.func127, Tryz.ntmps127
    go_wp2_with fail
    go_ret
    exact ⟨rfl, rfl⟩
  · have e1 : ((x : Int) != 1) = true := by simp; omega
    have e3 : decide (x ≠ 1) = true := decide_eq_true (by omega)
    rw [e3]
    clear h1 e3
    go_enter Tryz.func127, Tryz.ntmps127
    go_wp2_with fail
    go_ret
    exact ⟨rfl, rfl⟩
/-- slices.IndexFunc over bytes: none is odd. -/
theorem spIndex_none (F : Nat) (p : Nat → Bool) (hFF : F = 126 ∨ F = 127) (hF : ∀ x : Nat, x < 256 → ∀ W : World, Calls Tryz.prog F #[.int .u8 x] W fun e w' => e = .returned (.bool (p x)) ∧ W = w') (a : Option Addr) (n c B : Nat) (s : List UInt8) (w : World) (hA : Bsl w B a n c s) (hall : ∀ i, i < n → p (mkT s i) = false) :
    Calls Tryz.prog 143 #[.slice a n c, .func (.func F) #[] #[]] w fun e w' => e = .returned (.int .i64 (-1)) ∧ w = w' := by
  have n0 : (0 : Int) ≤ n := by omega
  have n1 := hA.len_le
  have HA := Lib.hid hA
  have HL := Lib.hid hall
  have HF := Lib.hid hF
  clear hA hall hF
  rcases hFF with rfl | rfl
  all_goals
    go_enter Tryz.func143, Tryz.ntmps143
    go_wp2_with fail
    go_loop [8] (fun i => ∃ k : Nat, k ≤ n ∧ i = .int .i64 k) (fun i => n - (intOf i).toNat)
    case atStart => exact ⟨0, Nat.zero_le _, rfl⟩
    case round =>
      obtain ⟨k, hk, rfl⟩ := hrel
      have k0 : (0 : Int) ≤ k := by omega
      by_cases hlt : k < n
      · have k1 : (k : Int) < n := by omega
        obtain ⟨b, off, rfl, _⟩ := HA.out.at_ (by omega)
        have hc := HA.out.mk k hlt
        have hx := HF.out (mkT s k) (mkT_lt s k) w
        rw [HL.out k hlt] at hx
        have HX := Lib.hid hx
        clear hx
        go_wp2_with fail
        refine HX.out.mono ?_
        rintro e w1 ⟨rfl, rfl⟩
        go_wp2_with fail
        go_round
        case rel => exact ⟨k + 1, by omega, by go_num⟩
        case measure => simp [intOf]; omega
      · obtain rfl : k = n := by omega
        go_wp2_with fail
        go_ret
        exact ⟨rfl, rfl⟩
/-- One is odd. -/
theorem spIndex_some (F : Nat) (p : Nat → Bool) (hFF : F = 126 ∨ F = 127) (hF : ∀ x : Nat, x < 256 → ∀ W : World, Calls Tryz.prog F #[.int .u8 x] W fun e w' => e = .returned (.bool (p x)) ∧ W = w') (a : Option Addr) (n c B : Nat) (s : List UInt8) (w : World) (hA : Bsl w B a n c s) (j : Nat) (hj : j < n) (hat : p (mkT s j) = true) (hall : ∀ i, i < j → p (mkT s i) = false) :
    Calls Tryz.prog 143 #[.slice a n c, .func (.func F) #[] #[]] w fun e w' => e = .returned (.int .i64 j) ∧ w = w' := by
  have n0 : (0 : Int) ≤ n := by omega
  have n1 := hA.len_le
  obtain ⟨b, off, rfl, _⟩ := hA.at_ (by omega)
  have HA := Lib.hid hA
  have HL := Lib.hid hall
  have HAT := Lib.hid hat
  have HF := Lib.hid hF
  clear hA hall hF hat
  rcases hFF with rfl | rfl
  all_goals
    go_enter Tryz.func143, Tryz.ntmps143
    go_wp2_with fail
    go_loop [8] (fun i => ∃ k : Nat, k ≤ j ∧ i = .int .i64 k) (fun i => n - (intOf i).toNat)
    case atStart => exact ⟨0, Nat.zero_le _, rfl⟩
    case round =>
      obtain ⟨k, hk, rfl⟩ := hrel
      have k0 : (0 : Int) ≤ k := by omega
      have hlt : k < n := by omega
      have k1 : (k : Int) < n := by omega
      have hc := HA.out.mk k hlt
      have hx := HF.out (mkT s k) (mkT_lt s k) w
      by_cases hkj : k < j
      · rw [HL.out k hkj] at hx
        have HX := Lib.hid hx
        clear hx
        go_wp2_with fail
        refine HX.out.mono ?_
        rintro e w1 ⟨rfl, rfl⟩
        go_wp2_with fail
        go_round
        case rel => exact ⟨k + 1, by omega, by go_num⟩
        case measure => simp [intOf]; omega
      · have hkj' : k = j := by omega
        rw [hkj', HAT.out] at hx
        rw [hkj'] at hc k0 k1 ⊢
        have HX := Lib.hid hx
        clear hx hkj hkj' hk hlt
        go_wp2_with fail
        refine HX.out.mono ?_
        rintro e w1 ⟨rfl, rfl⟩
        go_wp2_with fail
        go_ret
        exact ⟨rfl, rfl⟩
theorem spContains_none (F : Nat) (p : Nat → Bool) (hFF : F = 126 ∨ F = 127) (hF : ∀ x : Nat, x < 256 → ∀ W : World, Calls Tryz.prog F #[.int .u8 x] W fun e w' => e = .returned (.bool (p x)) ∧ W = w') (a : Option Addr) (n c B : Nat) (s : List UInt8) (w : World) (hA : Bsl w B a n c s) (hall : ∀ i, i < n → p (mkT s i) = false) :
    Calls Tryz.prog 125 #[.slice a n c, .func (.func F) #[] #[]] w fun e w' => e = .returned (.bool false) ∧ w = w' := by
  have HX := Lib.hid (spIndex_none F p hFF hF a n c B s w hA hall)
  clear hF hA hall hFF
  go_enter Tryz.func125, Tryz.ntmps125
  go_wp2_with fail
  refine HX.out.mono ?_
  rintro e w1 ⟨rfl, rfl⟩
  go_wp2_with fail
  go_ret
  exact ⟨rfl, rfl⟩
theorem spContains_some (F : Nat) (p : Nat → Bool) (hFF : F = 126 ∨ F = 127) (hF : ∀ x : Nat, x < 256 → ∀ W : World, Calls Tryz.prog F #[.int .u8 x] W fun e w' => e = .returned (.bool (p x)) ∧ W = w') (a : Option Addr) (n c B : Nat) (s : List UInt8) (w : World) (hA : Bsl w B a n c s) (i : Nat) (hi : i < n) (hat : p (mkT s i) = true) :
    Calls Tryz.prog 125 #[.slice a n c, .func (.func F) #[] #[]] w fun e w' => e = .returned (.bool true) ∧ w = w' := by
  rcases first_from (fun k => p (mkT s k) = true) 0 n with ⟨j, _, hj, hpj, hall⟩ | h
  · have HX := Lib.hid (spIndex_some F p hFF hF a n c B s w hA j hj hpj fun k hk => by simpa using hall k (by omega) hk)
    clear hF hA hall hat hFF
    have j0 : (0 : Int) ≤ j := by omega
    go_enter Tryz.func125, Tryz.ntmps125
    go_wp2_with fail
    refine HX.out.mono ?_
    rintro e w1 ⟨rfl, rfl⟩
    go_wp2_with fail
    go_ret
    exact ⟨rfl, rfl⟩
  · exact absurd hat (h i (by omega) hi)
/-- A table may be. -/
theorem spMay_yes (a : Option Addr) (n c B : Nat) (s : List UInt8) (w : World) (hA : Bsl w B a n c s) (h : MayT s) :
    Calls Tryz.prog 93 #[.slice a n c] w fun e w' => e = .returned (.bool true) ∧ w = w' := by
  have hn : n = 256 := by rw [← hA.1]; exact h.1
  subst hn
  obtain ⟨b, off, rfl, _⟩ := hA.at_ (by omega)
  have hc : 256 ≤ c := hA.2.1
  have H1 := Lib.hid (spContains_none 126 (fun x => decide (2 < x)) (.inl rfl) (fun x hx W => isNoMark_any x hx W) _ 256 c B s w hA fun i hi => decide_eq_false (by have := h.2.1 i hi; omega))
  have hp := hA.pre 12 (by omega)
  have H2 := Lib.hid (spContains_none 127 (fun x => decide (x ≠ 1)) (.inr rfl) (fun x hx W => isNotUsed_any x hx W) _ 12 c B (s.take 12) w hp fun i hi => by
    have e : mkT (s.take 12) i = mkT s i := by
      unfold mkT
      rw [List.getD_eq_getElem?_getD, List.getElem?_take_of_lt hi, List.getD_eq_getElem?_getD]
    rw [e, h.2.2 i hi]; rfl)
  have HS : ∀ W : World, (Instr.slice 27 (.slice (some ⟨b, off, none⟩) 256 c) none (some (.int .i64 12)) none).run Tryz.prog W = .ok (.slice (some ⟨b, off, none⟩) 12 c) W := fun W => slice_h W b off 256 c 12 (by omega) (by omega)
  clear hA hp h
  go_enter Tryz.func93, Tryz.ntmps93
  go_wp2_with fail
  refine H1.out.mono ?_
  rintro e w1 ⟨rfl, rfl⟩
  go_wp2_with fail
  refine H2.out.mono ?_
  rintro e w1 ⟨rfl, rfl⟩
  go_wp2_with fail
  go_ret
  exact ⟨rfl, rfl⟩
theorem not_may {s : List UInt8} (h : ¬ MayT s) (hl : s.length = 256) : (∃ i, i < 256 ∧ 2 < mkT s i) ∨ ((∀ i, i < 256 → mkT s i ≤ 2) ∧ ∃ i, i < 12 ∧ mkT s i ≠ 1) := by
  rcases first_from (fun i => 2 < mkT s i) 0 256 with ⟨k, _, hk, h2, _⟩ | h1
  · exact .inl ⟨k, hk, h2⟩
  · have h1' : ∀ i, i < 256 → mkT s i ≤ 2 := fun i hi => by have := h1 i (by omega) hi; omega
    rcases first_from (fun i => mkT s i ≠ 1) 0 12 with ⟨k, _, hk, h2, _⟩ | h3
    · exact .inr ⟨h1', k, hk, h2⟩
    · exact absurd ⟨hl, h1', fun i hi => by have := h3 i (by omega) hi; omega⟩ h
theorem spMay_no (a : Option Addr) (n c B : Nat) (s : List UInt8) (w : World) (hA : Bsl w B a n c s) (h : ¬ MayT s) :
    Calls Tryz.prog 93 #[.slice a n c] w fun e w' => e = .returned (.bool false) ∧ w = w' := by
  by_cases hn : n = 256
  · subst hn
    obtain ⟨b, off, rfl, _⟩ := hA.at_ (by omega)
    have hc : 256 ≤ c := hA.2.1
    rcases not_may h hA.1 with ⟨i, hi, h2⟩ | ⟨h1, i, hi, h2⟩
    · have H1 := Lib.hid (spContains_some 126 (fun x => decide (2 < x)) (.inl rfl) (fun x hx W => isNoMark_any x hx W) _ 256 c B s w hA i hi (decide_eq_true h2))
      clear hA h h2
      go_enter Tryz.func93, Tryz.ntmps93
      go_wp2_with fail
      refine H1.out.mono ?_
      rintro e w1 ⟨rfl, rfl⟩
      go_wp2_with fail
      go_ret
      exact ⟨rfl, rfl⟩
    · have H1 := Lib.hid (spContains_none 126 (fun x => decide (2 < x)) (.inl rfl) (fun x hx W => isNoMark_any x hx W) _ 256 c B s w hA fun i hi => decide_eq_false (by have := h1 i hi; omega))
      have hp := hA.pre 12 (by omega)
      have e : mkT (s.take 12) i = mkT s i := by
        unfold mkT
        rw [List.getD_eq_getElem?_getD, List.getElem?_take_of_lt hi, List.getD_eq_getElem?_getD]
      have H2 := Lib.hid (spContains_some 127 (fun x => decide (x ≠ 1)) (.inr rfl) (fun x hx W => isNotUsed_any x hx W) _ 12 c B (s.take 12) w hp i hi (by rw [e]; exact decide_eq_true h2))
      have HS : ∀ W : World, (Instr.slice 27 (.slice (some ⟨b, off, none⟩) 256 c) none (some (.int .i64 12)) none).run Tryz.prog W = .ok (.slice (some ⟨b, off, none⟩) 12 c) W := fun W => slice_h W b off 256 c 12 (by omega) (by omega)
      clear hA hp h e h1 h2
      go_enter Tryz.func93, Tryz.ntmps93
      go_wp2_with fail
      refine H1.out.mono ?_
      rintro e w1 ⟨rfl, rfl⟩
      go_wp2_with fail
      refine H2.out.mono ?_
      rintro e w1 ⟨rfl, rfl⟩
      go_wp2_with fail
      go_ret
      exact ⟨rfl, rfl⟩
  · have n1 := hA.len_le
    have hb : ((n : Int) == 256) = false := by simp; omega
    clear hA h hn
    go_enter Tryz.func93, Tryz.ntmps93
    go_wp2_with fail
    go_ret
    exact ⟨rfl, rfl⟩
end Go.Proofs.YtbggkfomfeeikaaGreatDoor
/-
  What space's calls answer: Check, Free, Take, Give, Settle.
-/
namespace Go.Proofs.YtbggkfomfeeikaaGreatDoor
open Go.RowKit Go.Shelf
set_option maxRecDepth 100000

theorem MayT.len_of {w : World} {B n c : Nat} {a : Option Addr} {s : List UInt8} (h : MayT s) (hA : Bsl w B a n c s) : n = 256 := by rw [← hA.1]; exact h.1

theorem spCheck_yes (a : Option Addr) (n c B : Nat) (s : List UInt8) (w : World) (hA : Bsl w B a n c s) (h : MayT s) : Calls Tryz.prog 64 #[.slice a n c] w fun e w' => e = .returned (.int .i64 0) ∧ w = w' := by
  have HM := Lib.hid (spMay_yes a n c B s w hA h)
  clear hA h
  go_enter Tryz.func64, Tryz.ntmps64
  go_wp2_with fail
  refine HM.out.mono ?_
  rintro e w1 ⟨rfl, rfl⟩
  go_wp2_with fail
  go_ret
  exact ⟨rfl, rfl⟩
theorem spCheck_no (a : Option Addr) (n c B : Nat) (s : List UInt8) (w : World) (hA : Bsl w B a n c s) (h : ¬ MayT s) : Calls Tryz.prog 64 #[.slice a n c] w fun e w' => e = .returned (.int .i64 8) ∧ w = w' := by
  have HM := Lib.hid (spMay_no a n c B s w hA h)
  clear hA h
  go_enter Tryz.func64, Tryz.ntmps64
  go_wp2_with fail
  refine HM.out.mono ?_
  rintro e w1 ⟨rfl, rfl⟩
  go_wp2_with fail
  go_ret
  exact ⟨rfl, rfl⟩

end Go.Proofs.YtbggkfomfeeikaaGreatDoor
/-
  The document's own functions of layer 12: May, Check, New, All, With, Settled, Same.
-/
namespace Go.Proofs.YtbggkfomfeeikaaGreatDoor
open Go.RowKit Go.Shelf
set_option maxRecDepth 100000

set_option maxHeartbeats 1000000 in
theorem rsMay_yes (a : Option Addr) (n c B : Nat) (s : List UInt8) (w : World) (hA : Bsl w B a n c s) (h : MayT s) : Calls Tryz.prog 86 #[.slice a n c] w fun e w' => e = .returned (.bool true) ∧ w = w' := by
  have hn := h.len_of hA
  subst hn
  obtain ⟨b, off, rfl, _⟩ := hA.at_ (by omega)
  have HA := Lib.hid hA
  have HM := Lib.hid h
  clear hA h
  go_enter Tryz.func86, Tryz.ntmps86
  go_wp2_with fail
  go_loop [3] (fun i => ∃ k : Nat, k ≤ 256 ∧ i = .int .i64 k) (fun i => 256 - (intOf i).toNat)
  case atStart => exact ⟨0, Nat.zero_le _, rfl⟩
  case round =>
    obtain ⟨k, hk, rfl⟩ := hrel
    have k0 : (0 : Int) ≤ k := by omega
    by_cases hlt : k < 256
    · have k1 : (k : Int) < 256 := by omega
      have hc := HA.out.mk k hlt
      have h2 := HM.out.2.1 k hlt
      by_cases h12 : k < 12
      · rw [HM.out.2.2 k h12] at hc
        have k3 : (k : Int) < 12 := by omega
        clear h2
        go_wp2_with fail
        go_round
        case rel => exact ⟨k + 1, by omega, by go_num⟩
        case measure => simp [intOf]; omega
      · obtain ⟨x, hx⟩ : ∃ x : Nat, mkT s k = x := ⟨_, rfl⟩
        rw [hx] at hc h2
        have k3 : (12 : Int) ≤ k := by omega
        have x1 : (x : Int) ≤ 2 := by omega
        have x0 : (0 : Int) ≤ x := by omega
        clear hx h2
        go_wp2_with fail
        go_round
        case rel => exact ⟨k + 1, by omega, by go_num⟩
        case measure => simp [intOf]; omega
    · have hkk : k = 256 := by omega
      have k3 : (256 : Int) ≤ k := by omega
      clear hkk hlt hk
      go_wp2_with fail
      go_ret
      exact ⟨rfl, rfl⟩
set_option maxHeartbeats 1000000 in
theorem rsMay_no (a : Option Addr) (n c B : Nat) (s : List UInt8) (w : World) (hA : Bsl w B a n c s) (h : ¬ MayT s) : Calls Tryz.prog 86 #[.slice a n c] w fun e w' => e = .returned (.bool false) ∧ w = w' := by
  by_cases hn : n = 256
  · subst hn
    have hl := hA.1
    have hf : ∃ j, j < 256 ∧ (2 < mkT s j ∨ j < 12 ∧ mkT s j ≠ 1) ∧ ∀ i, i < j → ¬ (2 < mkT s i ∨ i < 12 ∧ mkT s i ≠ 1) := by
      rcases first_from (fun i => 2 < mkT s i ∨ i < 12 ∧ mkT s i ≠ 1) 0 256 with ⟨k, _, h1, h2, h3⟩ | h0
      · exact ⟨k, h1, h2, fun i hi => h3 i (Nat.zero_le _) hi⟩
      · exact absurd ⟨hl, fun i hi => by have := h0 i (Nat.zero_le _) hi; omega, fun i hi => by have := h0 i (Nat.zero_le _) (by omega); omega⟩ h
    obtain ⟨j, hj, hjb, hj0⟩ := hf
    obtain ⟨b, off, rfl, _⟩ := hA.at_ (by omega)
    have HA := Lib.hid hA
    have HJ := Lib.hid hjb
    have H0 := Lib.hid hj0
    clear hA h hl hjb hj0
    go_enter Tryz.func86, Tryz.ntmps86
    go_wp2_with fail
    go_loop [3] (fun i => ∃ k : Nat, k ≤ j ∧ i = .int .i64 k) (fun i => 256 - (intOf i).toNat)
    case atStart => exact ⟨0, Nat.zero_le _, rfl⟩
    case round =>
      obtain ⟨k, hk, rfl⟩ := hrel
      have k0 : (0 : Int) ≤ k := by omega
      have k1 : (k : Int) < 256 := by omega
      have hlt : k < 256 := by omega
      have hc := HA.out.mk k hlt
      obtain ⟨x, hx⟩ : ∃ x : Nat, mkT s k = x := ⟨_, rfl⟩
      have x0 : (0 : Int) ≤ x := by omega
      rw [hx] at hc
      by_cases hkj : k < j
      · have h1 := H0.out k hkj
        rw [hx] at h1
        have x1 : (x : Int) ≤ 2 := by omega
        by_cases h12 : k < 12
        · have k3 : (k : Int) < 12 := by omega
          have hx1 : x = 1 := by omega
          rw [hx1] at hc
          clear h1 hx x1 x0 hx1
          go_wp2_with fail
          go_round
          case rel => exact ⟨k + 1, by omega, by go_num⟩
          case measure => simp [intOf]; omega
        · have k3 : (12 : Int) ≤ k := by omega
          clear h1 hx
          go_wp2_with fail
          go_round
          case rel => exact ⟨k + 1, by omega, by go_num⟩
          case measure => simp [intOf]; omega
      · have h1 := HJ.out
        rw [show j = k by omega, hx] at h1
        by_cases h2 : 2 < x
        · have x1 : (2 : Int) < x := by omega
          clear h1 hx hkj hk
          go_wp2_with fail
          go_ret
          exact ⟨rfl, rfl⟩
        · have x1 : (x : Int) ≤ 2 := by omega
          have k3 : (k : Int) < 12 := by omega
          have e1 : ((x : Int) != 1) = true := by simp; omega
          clear h1 hx hkj hk h2
          go_wp2_with fail
          go_ret
          exact ⟨rfl, rfl⟩
  · have n1 := hA.len_le
    have hb : ((n : Int) != 256) = true := by simp; omega
    clear hA h hn
    go_enter Tryz.func86, Tryz.ntmps86
    go_wp2_with fail
    go_ret
    exact ⟨rfl, rfl⟩
end Go.Proofs.YtbggkfomfeeikaaGreatDoor
/-
  The document's own Great for layer 9: a disk that is not great has few blocks, few writes, few bytes.
-/
namespace Go.Proofs.YtbggkfomfeeikaaGreatDoor
open Go.RowKit Go.Shelf
set_option maxRecDepth 100000

/-- No piece of a disk is longer than what memory there is. -/
def Near (D : DkL) : Prop := (∀ i, i < D.1.length → (D.1.getD i []).length ≤ 140737488351232) ∧ ∀ i, i < D.2.length → (wr_ D.2 i).2.length ≤ 140737488351232
/-- What a disk that is not great is. -/
def Small (D : DkL) : Prop := D.1.length ≤ 500 ∧ (D.2.length ≤ 500 ∨ 4096 ≤ D.2.length) ∧ D.2.length ≤ 4106 ∧ sumD D < 2000000
/-- What Great answers: if it is no, the disk is small. -/
def GreatSays (D : DkL) (w : World) (e : Ending) (w' : World) : Prop := ∃ b, e = .returned (.bool b) ∧ (b = false → Small D) ∧ Below w.heap.size w w'
theorem small_fits {D : DkL} (h : Small D) : Fits D := ⟨by have := h.1; omega, by have := h.2.2.1; omega, by have := h.2.2.2; omega⟩
theorem great_yes {D : DkL} {w w' : World} (hb : Below w.heap.size w w') : GreatSays D w (.returned (.bool true)) w' := ⟨true, rfl, fun h => (by cases h), hb⟩
set_option maxHeartbeats 4000000 in
theorem rdGreat_any (x : DAt) (D : DkL) (w : World) (h : Dsk w w.heap.size x D) (hnear : Near D) : Calls Tryz.prog 33 #[dval x D] w (GreatSays D w) := by
  obtain ⟨ba, bc, wa, wc⟩ := x
  simp only [dval]
  have l1 := h.1.len_le
  have l2 := h.2.len_le
  obtain ⟨n, hn⟩ : ∃ n, D.1.length = n := ⟨_, rfl⟩
  obtain ⟨m, hm⟩ : ∃ m, D.2.length = m := ⟨_, rfl⟩
  rw [hn] at l1
  rw [hm] at l2
  have n0 : (0 : Int) ≤ n := by omega
  have m0 : (0 : Int) ≤ m := by omega
  have b0 := (Below.refl w.heap.size w).alloc (Nat.le_refl _) (.cells #[.slice ba D.1.length bc, .slice wa D.2.length wc] 26)
  have x0 := Blk.new w 26 #[.slice ba D.1.length bc, .slice wa D.2.length wc]
  have h0 := h.step b0
  rw [hn, hm] at b0 x0 h0 ⊢
  obtain ⟨w0, hw0⟩ : ∃ w0, w.alloc (.cells #[.slice ba n bc, .slice wa m wc] 26) = w0 := ⟨_, rfl⟩
  rw [hw0] at b0 x0 h0
  have c0 := x0.cell 0
  have c1 := x0.cell 1
  obtain ⟨hB, hW⟩ := h0
  simp only [hn, hm] at hB hW
  have HB := Lib.hid hB
  have HW := Lib.hid hW
  have HBl := Lib.hid b0
  have HN := Lib.hid hn
  have HM := Lib.hid hm
  have HNEAR := Lib.hid hnear
  clear h b0 x0 hB hW hn hm hnear
  by_cases hn5 : (500 : Int) < n
  · go_enter Tryz.func33, Tryz.ntmps33
    go_wp2_with fail
    go_ret
    exact great_yes HBl.out
  · by_cases hmid : (500 : Int) < m ∧ (m : Int) < 4096
    · obtain ⟨hm5, hm4⟩ := hmid
      go_enter Tryz.func33, Tryz.ntmps33
      go_wp2_with fail
      go_ret
      exact great_yes HBl.out
    · by_cases hm6 : (4106 : Int) < m
      · have hm5 : (500 : Int) < m := by omega
        have hm4 : ¬ (m : Int) < 4096 := by omega
        clear hmid
        go_enter Tryz.func33, Tryz.ntmps33
        go_wp2_with fail
        go_ret
        exact great_yes HBl.out
      · have hdim : n ≤ 500 ∧ (m ≤ 500 ∨ 4096 ≤ m) ∧ m ≤ 4106 := by omega
        have HDIM := Lib.hid hdim
        have hmb : (500 : Int) < m → ¬ (m : Int) < 4096 := fun hh hk => hmid ⟨hh, hk⟩
        clear hmid hdim
        by_cases hm5 : (500 : Int) < m
        all_goals
          first
            | have hm4 : ¬ (m : Int) < 4096 := hmb hm5
            | have hm4 : True := trivial
          clear hmb
          go_enter Tryz.func33, Tryz.ntmps33
          go_wp2_with fail
          clear hw0 hm4 hm5 hm6 hn5
          go_loop [3, 4] (fun t i => ∃ k : Nat, k ≤ n ∧ i = .int .i64 k ∧ t = .int .i64 (sumB D.1 k : Nat) ∧ sumB D.1 k ≤ 140737490351232) (fun _ i => n - (intOf i).toNat)
          case atStart => exact ⟨0, Nat.zero_le _, rfl, rfl, by simp [sumB]⟩
          case round =>
            obtain ⟨k, hk, rfl, rfl, hts⟩ := hrel
            have k0 : (0 : Int) ≤ k := by omega
            obtain ⟨t, ht⟩ : ∃ t, sumB D.1 k = t := ⟨_, rfl⟩
            rw [ht] at hts ⊢
            have t0 : (0 : Int) ≤ t := by omega
            have t1 : (t : Int) ≤ 140737490351232 := by omega
            by_cases hlt : k < n ∧ t < 2000000
            · obtain ⟨hlt, ht2⟩ := hlt
              have k1 : (k : Int) < n := by omega
              have t2 : (t : Int) < 2000000 := by omega
              obtain ⟨b, off, A, l, c', s, rfl, _, hl, hc, hA⟩ := HB.out.at_ hlt
              have hle := HNEAR.out.1 k (by rw [HN.out]; exact hlt)
              rw [hl, hA.1] at hle
              have hs : sumB D.1 (k + 1) = t + l := by rw [sumB, hl, hA.1, ht]
              have l0 : (0 : Int) ≤ l := by omega
              have l1 : (l : Int) ≤ 140737488351232 := by omega
              have HS := Lib.hid hs
              clear hl hA hs ht
              go_wp2_with fail
              go_round
              case rel => exact ⟨k + 1, by omega, by go_num, by rw [HS.out]; go_num, by rw [HS.out]; omega⟩
              case measure => simp [intOf]; omega
            · have hend : k = n ∨ 2000000 ≤ t := by omega
              have HEND := Lib.hid hend
              have HT := Lib.hid ht
              have hgo : ((k : Int) < n → ¬ (t : Int) < 2000000) := by omega
              clear hend ht hlt
              by_cases hkn : (k : Int) < n
              all_goals
                first
                  | have t3 : ¬ (t : Int) < 2000000 := hgo hkn
                  | have t3 : True := trivial
                clear hgo
                go_wp2_with fail
                clear hkn t3
                go_loop [3, 5] (fun u i => ∃ j : Nat, j ≤ m ∧ i = .int .i64 j ∧ u = .int .i64 (t + sumW D.2 j : Nat) ∧ t + sumW D.2 j ≤ 281474980702464) (fun _ i => m - (intOf i).toNat)
                case atStart => exact ⟨0, Nat.zero_le _, rfl, rfl, by simp [sumW]; omega⟩
                case round =>
                  obtain ⟨j, hj, rfl, rfl, hus⟩ := hrel
                  have j0 : (0 : Int) ≤ j := by omega
                  obtain ⟨u, hu⟩ : ∃ u, t + sumW D.2 j = u := ⟨_, rfl⟩
                  rw [hu] at hus ⊢
                  have u0 : (0 : Int) ≤ u := by omega
                  have u1 : (u : Int) ≤ 281474980702464 := by omega
                  by_cases hlt : j < m ∧ u < 2000000
                  · obtain ⟨hlt, hu2⟩ := hlt
                    have j1 : (j : Int) < m := by omega
                    have u2 : (u : Int) < 2000000 := by omega
                    obtain ⟨b, off, p, A, l, c', s, rfl, _, hl, _, hc, hd, hA⟩ := HW.out.at_ hlt
                    have hle := HNEAR.out.2 j (by rw [HM.out]; exact hlt)
                    rw [hl, hA.1] at hle
                    have hs : t + sumW D.2 (j + 1) = u + l := by rw [sumW, hl, hA.1, ← Nat.add_assoc, hu]
                    have l0 : (0 : Int) ≤ l := by omega
                    have l1 : (l : Int) ≤ 140737488351232 := by omega
                    have HS := Lib.hid hs
                    clear hl hA hs hu
                    go_wp2_with fail
                    go_round
                    case rel => exact ⟨j + 1, by omega, by go_num, by rw [HS.out]; go_num, by rw [HS.out]; omega⟩
                    case measure => simp [intOf]; omega
                  · have hend2 : j = m ∨ 2000000 ≤ u := by omega
                    have hsay : decide ((2000000 : Int) ≤ u) = false → Small D := by
                      intro hh
                      have hu3 : ¬ (2000000 : Int) ≤ u := by simpa using hh
                      have hju : j = m := by omega
                      have e1 := HEND.out
                      have hkn : k = n := by omega
                      obtain ⟨d1, d2, d3⟩ := HDIM.out
                      refine ⟨by rw [HN.out]; exact d1, by rw [HM.out]; exact d2, by rw [HM.out]; exact d3, ?_⟩
                      unfold sumD
                      rw [HN.out, HM.out, ← hju, ← hkn, HT.out]
                      omega
                    have hgo2 : ((j : Int) < m → ¬ (u : Int) < 2000000) := by omega
                    have HSAY := Lib.hid hsay
                    clear hsay hend2 hlt hu
                    by_cases hjm : (j : Int) < m
                    all_goals
                      first
                        | have u3 : ¬ (u : Int) < 2000000 := hgo2 hjm
                        | have u3 : True := trivial
                      clear hgo2
                      go_wp2_with fail
                      go_ret
                      first | exact ⟨_, rfl, HSAY.out, HBl.out⟩ | exact great_yes HBl.out
end Go.Proofs.YtbggkfomfeeikaaGreatDoor
/-
  The document's own functions of layer 13: May, Check, Great.
-/
namespace Go.Proofs.YtbggkfomfeeikaaGreatDoor
open Go.RowKit Go.Shelf
set_option maxRecDepth 100000

theorem st_box (w : World) (x : SAt) (S : StL) : Blk (w.alloc (.cells (stC x S) 30)) w.heap.size 30 (stC x S) ∧ Below w.heap.size w (w.alloc (.cells (stC x S) 30)) := ⟨Blk.new w _ _, (Below.refl _ w).alloc (Nat.le_refl _) _⟩
section
variable {w : World} {g : Nat} {t : TypeId} {x : SAt} {S : StL}
theorem stC0 (h : Blk w g t (stC x S)) : w.cell? ⟨g, 0, none⟩ = some (.slice x.d.ba S.1.1.length x.d.bc) := h.cell 0
theorem stC1 (h : Blk w g t (stC x S)) : w.cell? ⟨g, 1, none⟩ = some (.slice x.d.wa S.1.2.length x.d.wc) := h.cell 1
theorem stC2 (h : Blk w g t (stC x S)) : w.cell? ⟨g, 2, none⟩ = some (.slice x.a S.2.1.length x.c) := h.cell 2
theorem stC3 (h : Blk w g t (stC x S)) : w.cell? ⟨g, 3, none⟩ = some (.int .u32 (S.2.2.1 : Int)) := h.cell 3
theorem stC4 (h : Blk w g t (stC x S)) : w.cell? ⟨g, 4, none⟩ = some (.int .u32 (S.2.2.2 : Int)) := h.cell 4
end
set_option maxHeartbeats 2000000 in
theorem rtMay_any (L : Nat) (x : SAt) (S : StL) (w : World) (h : StP L w x S) (R : Bool) (hR : R = true ↔ MayS S) : Calls Tryz.prog 57 #[stV x S] w fun e w' => e = .returned (.bool R) ∧ Below w.heap.size w w' := by
  obtain ⟨xb, b0⟩ := st_box w x S
  obtain ⟨w0, hw0⟩ : ∃ w0, w.alloc (.cells (stC x S) 30) = w0 := ⟨_, rfl⟩
  rw [hw0] at xb b0
  have h0 := h.bel b0
  have c0 := stC0 xb
  have c1 := stC1 xb
  have HX := Lib.hid xb
  have HB := Lib.hid b0
  have HS := Lib.hid h0
  have hm := rdMay_any x.d S.1 w0 h0.now.1
  simp only [dval] at hm
  simp only [stC] at hw0
  clear h h0 xb b0
  have n3 : (0 : Int) ≤ (S.2.2.2 : Int) := by omega
  have n4 : (0 : Int) ≤ (S.2.2.1 : Int) := by omega
  by_cases hd : MayD S.1
  · rw [decide_eq_true hd] at hm
    have HM2 := Lib.hid hm
    clear hm
    by_cases ht : MayT S.2.1
    · by_cases e1 : 1 ≤ S.2.2.1
      · have n0 : (1 : Int) ≤ (S.2.2.1 : Int) := by omega
        by_cases e2 : S.2.2.1 ≤ 65535
        · have n1 : (S.2.2.1 : Int) ≤ 65535 := by omega
          by_cases e3 : S.2.2.2 ≤ 65535
          · have n2 : (S.2.2.2 : Int) ≤ 65535 := by omega
            obtain rfl : R = true := hR.2 ⟨hd, ht, ⟨e1, e2⟩, e3⟩
            clear hR e1 e2 e3 hd
            go_enter Tryz.func57, Tryz.ntmps57
            go_wp2_with fail
            clear c0 c1
            refine HM2.out.mono ?_
            rintro e w1 ⟨rfl, b1⟩
            have x1 := HX.out.below b1 HX.out.lt
            have c2 := stC2 x1
            have c3 := stC3 x1
            have c4 := stC4 x1
            have HC := Lib.hid (rsMay_yes x.a S.2.1.length x.c _ S.2.1 w1 (HS.out.bel b1).now.2 ht)
            have HB1 := Lib.hid (HB.out.trans (b1.mono HB.out.size))
            clear b1 x1 ht
            go_wp2_with fail
            refine HC.out.mono ?_
            rintro e w2 ⟨rfl, rfl⟩
            go_wp2_with fail
            go_ret
            exact ⟨rfl, HB1.out⟩
          · have n2 : ¬ (S.2.2.2 : Int) ≤ 65535 := by omega
            obtain rfl : R = false := by cases R with | false => rfl | true => exact absurd (hR.1 rfl) (fun hh => e3 hh.2.2.2)
            clear hR e1 e2 e3 hd
            go_enter Tryz.func57, Tryz.ntmps57
            go_wp2_with fail
            clear c0 c1
            refine HM2.out.mono ?_
            rintro e w1 ⟨rfl, b1⟩
            have x1 := HX.out.below b1 HX.out.lt
            have c2 := stC2 x1
            have c3 := stC3 x1
            have c4 := stC4 x1
            have HC := Lib.hid (rsMay_yes x.a S.2.1.length x.c _ S.2.1 w1 (HS.out.bel b1).now.2 ht)
            have HB1 := Lib.hid (HB.out.trans (b1.mono HB.out.size))
            clear b1 x1 ht
            go_wp2_with fail
            refine HC.out.mono ?_
            rintro e w2 ⟨rfl, rfl⟩
            go_wp2_with fail
            go_ret
            exact ⟨by simp; omega, HB1.out⟩
        · have n1 : ¬ (S.2.2.1 : Int) ≤ 65535 := by omega
          obtain rfl : R = false := by cases R with | false => rfl | true => exact absurd (hR.1 rfl) (fun hh => e2 hh.2.2.1.2)
          clear hR e1 e2 hd
          go_enter Tryz.func57, Tryz.ntmps57
          go_wp2_with fail
          clear c0 c1
          refine HM2.out.mono ?_
          rintro e w1 ⟨rfl, b1⟩
          have x1 := HX.out.below b1 HX.out.lt
          have c2 := stC2 x1
          have c3 := stC3 x1
          have c4 := stC4 x1
          have HC := Lib.hid (rsMay_yes x.a S.2.1.length x.c _ S.2.1 w1 (HS.out.bel b1).now.2 ht)
          have HB1 := Lib.hid (HB.out.trans (b1.mono HB.out.size))
          clear b1 x1 ht
          go_wp2_with fail
          refine HC.out.mono ?_
          rintro e w2 ⟨rfl, rfl⟩
          go_wp2_with fail
          go_ret
          exact ⟨rfl, HB1.out⟩
      · have n0 : ¬ (1 : Int) ≤ (S.2.2.1 : Int) := by omega
        obtain rfl : R = false := by cases R with | false => rfl | true => exact absurd (hR.1 rfl) (fun hh => e1 hh.2.2.1.1)
        clear hR e1 hd
        go_enter Tryz.func57, Tryz.ntmps57
        go_wp2_with fail
        clear c0 c1
        refine HM2.out.mono ?_
        rintro e w1 ⟨rfl, b1⟩
        have x1 := HX.out.below b1 HX.out.lt
        have c2 := stC2 x1
        have c3 := stC3 x1
        have c4 := stC4 x1
        have HC := Lib.hid (rsMay_yes x.a S.2.1.length x.c _ S.2.1 w1 (HS.out.bel b1).now.2 ht)
        have HB1 := Lib.hid (HB.out.trans (b1.mono HB.out.size))
        clear b1 x1 ht
        go_wp2_with fail
        refine HC.out.mono ?_
        rintro e w2 ⟨rfl, rfl⟩
        go_wp2_with fail
        go_ret
        exact ⟨rfl, HB1.out⟩
    · obtain rfl : R = false := by cases R with | false => rfl | true => exact absurd (hR.1 rfl) (fun hh => ht hh.2.1)
      clear hR hd
      go_enter Tryz.func57, Tryz.ntmps57
      go_wp2_with fail
      clear c0 c1
      refine HM2.out.mono ?_
      rintro e w1 ⟨rfl, b1⟩
      have x1 := HX.out.below b1 HX.out.lt
      have c2 := stC2 x1
      have c3 := stC3 x1
      have c4 := stC4 x1
      have HC := Lib.hid (rsMay_no x.a S.2.1.length x.c _ S.2.1 w1 (HS.out.bel b1).now.2 ht)
      have HB1 := Lib.hid (HB.out.trans (b1.mono HB.out.size))
      clear b1 x1 ht
      go_wp2_with fail
      refine HC.out.mono ?_
      rintro e w2 ⟨rfl, rfl⟩
      go_wp2_with fail
      go_ret
      exact ⟨rfl, HB1.out⟩
  · rw [decide_eq_false hd] at hm
    have HM2 := Lib.hid hm
    clear hm
    obtain rfl : R = false := by cases R with | false => rfl | true => exact absurd (hR.1 rfl) (fun hh => hd hh.1)
    clear hR hd
    go_enter Tryz.func57, Tryz.ntmps57
    go_wp2_with fail
    clear c0 c1
    refine HM2.out.mono ?_
    rintro e w1 ⟨rfl, b1⟩
    have HB1 := Lib.hid (HB.out.trans (b1.mono HB.out.size))
    clear b1
    go_wp2_with fail
    go_ret
    exact ⟨rfl, HB1.out⟩
/-- What Great answers: if it is no, the store is small. -/
def GreatSt (S : StL) (w : World) (e : Ending) (w' : World) : Prop := ∃ b, e = .returned (.bool b) ∧ (b = false → Small S.1 ∧ S.2.1.length ≤ 10000) ∧ Below w.heap.size w w'
set_option maxHeartbeats 1000000 in
theorem rtGreat_any (L : Nat) (x : SAt) (S : StL) (w : World) (h : StP L w x S) (hn : Near S.1) : Calls Tryz.prog 14 #[stV x S] w (GreatSt S w) := by
  obtain ⟨xb, b0⟩ := st_box w x S
  obtain ⟨w0, hw0⟩ : ∃ w0, w.alloc (.cells (stC x S) 30) = w0 := ⟨_, rfl⟩
  rw [hw0] at xb b0
  have h0 := h.bel b0
  have c0 := stC0 xb
  have c1 := stC1 xb
  have HX := Lib.hid xb
  have HB := Lib.hid b0
  have HS := Lib.hid h0
  have hm := rdGreat_any x.d S.1 w0 h0.now.1 hn
  simp only [dval] at hm
  have HM := Lib.hid hm
  have l1 := h0.now.2.len_le
  clear hm hn
  simp only [stC] at hw0
  clear h h0 xb b0
  go_enter Tryz.func14, Tryz.ntmps14
  go_wp2_with fail
  clear c0 c1
  refine HM.out.mono ?_
  rintro e w1 ⟨r, rfl, hs, b1⟩
  have c2 := stC2 (HX.out.below b1 HX.out.lt)
  have HB1 := Lib.hid (HB.out.trans (b1.mono HB.out.size))
  clear b1
  cases r with
  | true =>
    clear hs
    go_wp2_with fail
    go_ret
    exact ⟨true, rfl, fun h => (by cases h), HB1.out⟩
  | false =>
    have HSM := Lib.hid (hs rfl)
    clear hs
    by_cases h5 : (10000 : Int) < (S.2.1.length : Int)
    · go_wp2_with fail
      go_ret
      exact ⟨true, rfl, fun h => (by cases h), HB1.out⟩
    · have h6 : S.2.1.length ≤ 10000 := by omega
      have H6 := Lib.hid h6
      have h7 : (S.2.1.length : Int) ≤ 10000 := by omega
      clear h5 h6
      go_wp2_with fail
      go_ret
      exact ⟨false, by simp; omega, fun _ => ⟨HSM.out, H6.out⟩, HB1.out⟩
end Go.Proofs.YtbggkfomfeeikaaGreatDoor
/-
  dev.Same tells whether all fields of two disks are the same.
-/
namespace Go.Proofs.YtbggkfomfeeikaaGreatDoor
open Go.RowKit Go.Shelf
set_option maxRecDepth 100000

theorem ext_bls {a b : List (List UInt8)} (h : a.length = b.length) (he : ∀ i, i < a.length → a.getD i [] = b.getD i []) : a = b := by
  apply List.ext_getElem h
  intro i h1 h2
  have := he i h1
  simpa [List.getD_eq_getElem?_getD, h1, h2] using this
theorem ext_wts {a b : WrL} (h : a.length = b.length) (he : ∀ i, i < a.length → wr_ a i = wr_ b i) : a = b := by
  apply List.ext_getElem h
  intro i h1 h2
  have := he i h1
  unfold wr_ at this
  simpa [List.getD_eq_getElem?_getD, h1, h2] using this
end Go.Proofs.YtbggkfomfeeikaaGreatDoor
/-
  The document's own Same for layer 9.
-/
namespace Go.Proofs.YtbggkfomfeeikaaGreatDoor
open Go.RowKit Go.Shelf
set_option maxRecDepth 100000

theorem str_same (s t : List UInt8) : ((strOf s).toList == (strOf t).toList) = decide (s = t) := by
  rw [strOf_toList, strOf_toList]
  by_cases h : s = t <;> simp [h]
theorem same_iff {D E : DkL} {o1 o2 : Nat} (h1 : OddN o1 D.1.length (fun i => D.1.getD i [] = E.1.getD i [])) (h2 : OddN o2 D.2.length (fun i => wr_ D.2 i = wr_ E.2 i)) (e1 : D.1.length = E.1.length) (e2 : D.2.length = E.2.length) : o1 + o2 = 0 ↔ D = E := by
  constructor
  · intro h
    exact Prod.ext (ext_bls e1 (h1.2.1 (by omega))) (ext_wts e2 (h2.2.1 (by omega)))
  · intro h
    subst h
    have a1 := h1.2.2 fun _ _ => rfl
    have a2 := h2.2.2 fun _ _ => rfl
    omega
set_option maxHeartbeats 4000000 in
theorem rdSame_len (x : DAt) (D : DkL) (y : DAt) (E : DkL) (w : World) (hx : (D.1.length : Int) ≤ 9223372036854775807 ∧ (D.2.length : Int) ≤ 9223372036854775807 ∧ (E.1.length : Int) ≤ 9223372036854775807 ∧ (E.2.length : Int) ≤ 9223372036854775807) (hne : D.1.length ≠ E.1.length ∨ D.2.length ≠ E.2.length) :
    Calls Tryz.prog 39 #[dval x D, dval y E] w fun e w' => e = .returned (.bool false) ∧ Below w.heap.size w w' := by
  have b0 := ((Below.refl w.heap.size w).alloc (Nat.le_refl _) (.cells #[.slice x.ba D.1.length x.bc, .slice x.wa D.2.length x.wc] 26)).alloc (by simp) (.cells #[.slice y.ba E.1.length y.bc, .slice y.wa E.2.length y.wc] 26)
  have HB := Lib.hid b0
  simp only [dval]
  obtain ⟨n, hn⟩ : ∃ n, D.1.length = n := ⟨_, rfl⟩
  obtain ⟨m, hm⟩ : ∃ n, D.2.length = n := ⟨_, rfl⟩
  obtain ⟨n', hn'⟩ : ∃ n, E.1.length = n := ⟨_, rfl⟩
  obtain ⟨m', hm'⟩ : ∃ n, E.2.length = n := ⟨_, rfl⟩
  rw [hn, hm, hn', hm'] at HB hx ⊢
  rw [hn, hm, hn', hm'] at hne
  obtain ⟨x1, x2, x3, x4⟩ := hx
  clear b0 hn hm hn' hm'
  by_cases h : n = n'
  · subst h
    have h1 : ((n : Int) != n) = false := by simp
    have h2 : ((m : Int) != m') = true := by simp; omega
    clear hne
    go_enter Tryz.func39, Tryz.ntmps39
    go_wp2_with fail
    go_ret
    exact ⟨rfl, HB.out⟩
  · have h1 : ((n : Int) != n') = true := by simp; omega
    clear hne h
    go_enter Tryz.func39, Tryz.ntmps39
    go_wp2_with fail
    go_ret
    exact ⟨rfl, HB.out⟩
set_option maxHeartbeats 4000000 in
theorem rdSame_eq (x : DAt) (D : DkL) (y : DAt) (E : DkL) (w : World) (h : Dsk w w.heap.size x D) (h' : Dsk w w.heap.size y E) (e1 : D.1.length = E.1.length) (e2 : D.2.length = E.2.length) (hf : D.1.length ≤ 1000000 ∧ D.2.length ≤ 1000000) (R : Bool) (hR : R = true ↔ D = E) :
    Calls Tryz.prog 39 #[dval x D, dval y E] w fun e w' => e = .returned (.bool R) ∧ Below w.heap.size w w' := by
  obtain ⟨n, hn⟩ : ∃ n, D.1.length = n := ⟨_, rfl⟩
  obtain ⟨m, hm⟩ : ∃ n, D.2.length = n := ⟨_, rfl⟩
  have l1 := h.1.len_le
  have l2 := h.2.len_le
  obtain ⟨w0, hw0⟩ : ∃ w0, (w.alloc (.cells #[.slice x.ba n x.bc, .slice x.wa m x.wc] 26)).alloc (.cells #[.slice y.ba n y.bc, .slice y.wa m y.wc] 26) = w0 := ⟨_, rfl⟩
  have b0 : Below w.heap.size w w0 := by rw [← hw0]; exact ((Below.refl _ w).alloc (Nat.le_refl _) _).alloc (by simp) _
  have x0 : Blk w0 w.heap.size 26 #[.slice x.ba n x.bc, .slice x.wa m x.wc] := by rw [← hw0]; exact (Blk.new w _ _).alloc _
  have y0 : Blk w0 (w.heap.size + 1) 26 #[.slice y.ba n y.bc, .slice y.wa m y.wc] := by
    have := Blk.new (w.alloc (.cells #[.slice x.ba n x.bc, .slice x.wa m x.wc] 26)) 26 #[.slice y.ba n y.bc, .slice y.wa m y.wc]
    rw [World.size_alloc, hw0] at this
    exact this
  have c0 := x0.cell 0
  have c1 := x0.cell 1
  have d0 := y0.cell 0
  have d1 := y0.cell 1
  obtain ⟨hB, hW⟩ := h.step b0
  obtain ⟨hB', hW'⟩ := h'.step b0
  simp only [dval]
  rw [← e1, ← e2]
  rw [← e1] at hB'
  rw [← e2] at hW'
  rw [hn] at hB hB' l1 hf ⊢
  rw [hm] at hW hW' l2 hf ⊢
  have n0 : (0 : Int) ≤ n := by omega
  have m0 : (0 : Int) ≤ m := by omega
  have q1 : ((n : Int) != n) = false := by simp
  have q2 : ((m : Int) != m) = false := by simp
  have HBa := Lib.hid hB
  have HWa := Lib.hid hW
  have HBb := Lib.hid hB'
  have HWb := Lib.hid hW'
  have HX := Lib.hid x0
  have HY := Lib.hid y0
  have HB := Lib.hid b0
  have HN := Lib.hid hn
  have HM := Lib.hid hm
  have HRR := Lib.hid hR
  have HE := Lib.hid (And.intro e1 e2)
  clear h h' b0 x0 y0 hB hW hB' hW' hn hm hR e1 e2
  go_enter Tryz.func39, Tryz.ntmps39
  go_wp2_with fail
  clear hw0 q1 q2 c0 c1 d0 d1
  go_loopw [5, 6] (fun o i wr => ∃ k q : Nat, k ≤ n ∧ i = .int .i64 k ∧ o = .int .i64 q ∧ Hid (OddN q k (fun i => D.1.getD i [] = E.1.getD i [])) ∧ Hid (Below w0.heap.size w0 wr)) (fun _ i _ => n - (intOf i).toNat)
  case atStart => exact ⟨0, 0, Nat.zero_le _, rfl, rfl, Lib.hid (odd_zero _), Lib.hid (Below.refl _ _)⟩
  case round =>
    obtain ⟨k, q, hk, rfl, rfl, HO, HBr⟩ := hrel
    have k0 : (0 : Int) ≤ k := by omega
    have hq := HO.out.1
    have q0 : (0 : Int) ≤ q := by omega
    have qm : (q : Int) ≤ n := by omega
    have c0 := (HX.out.below HBr.out HX.out.lt).cell 0
    have c1 := (HX.out.below HBr.out HX.out.lt).cell 1
    have d0 := (HY.out.below HBr.out HY.out.lt).cell 0
    have d1 := (HY.out.below HBr.out HY.out.lt).cell 1
    by_cases hlt : k < n
    · have k1 : (k : Int) < n := by omega
      obtain ⟨ba, oa, A, l, c', s, hae, hba, hl, hc, hs⟩ := HBa.out.at_ hlt
      obtain ⟨bb, ob, A2, l2', c2, t, hbe, hbb, hl2, hc2, ht⟩ := HBb.out.at_ hlt
      obtain ⟨xba, xbc, xwa, xwc⟩ := x
      obtain ⟨yba, ybc, ywa, ywc⟩ := y
      obtain rfl : xba = some ⟨ba, oa, none⟩ := hae
      obtain rfl : yba = some ⟨bb, ob, none⟩ := hbe
      simp only at c0 c1 d0 d1 ⊢
      have a1 := (HBr.out.cell (p := ⟨ba, oa + k, none⟩) hba).trans hc
      have a2 := (HBr.out.cell (p := ⟨bb, ob + k, none⟩) hbb).trans hc2
      have v1 := fun q => ((hs.below HBr.out).below (below_drewN (Below.refl _ wr) q)).conv
      have v2 := fun q => ((ht.below HBr.out).below (below_drewN (Below.refl _ wr) q)).conv
      have hst := str_same s t
      have HBq := Lib.hid (fun q => HBr.out.trans (below_drewN (Below.refl _ wr) q))
      by_cases hst' : s = t
      · rw [decide_eq_true hst'] at hst
        have HO' := Lib.hid (HO.out.good (by rw [hl, hl2]; exact hst'))
        clear hl hl2 hc hc2 hs ht hst' HBr
        go_wp2_with fail
        go_quiet (fail)
        go_wp2_with fail
        go_roundw
        case rel => exact ⟨k + 1, q, by omega, by go_num, rfl, HO', Lib.hid (HBq.out _)⟩
        case measure => simp [intOf]; omega
      · rw [decide_eq_false hst'] at hst
        have HO' := Lib.hid (HO.out.odd (by rw [hl, hl2]; exact hst'))
        clear hl hl2 hc hc2 hs ht hst' HBr
        go_wp2_with fail
        go_quiet (fail)
        go_wp2_with fail
        go_roundw
        case rel => exact ⟨k + 1, q + 1, by omega, by go_num, by go_num, HO', Lib.hid (HBq.out _)⟩
        case measure => simp [intOf]; omega
    · obtain rfl : k = n := by omega
      go_wp2_with fail
      clear c0 c1 d0 d1
      go_loopw [5, 7] (fun o i wr => ∃ j r : Nat, j ≤ m ∧ i = .int .i64 j ∧ o = .int .i64 (q + r : Nat) ∧ Hid (OddN r j (fun i => wr_ D.2 i = wr_ E.2 i)) ∧ Hid (Below w0.heap.size w0 wr)) (fun _ i _ => m - (intOf i).toNat)
      case atStart => exact ⟨0, 0, Nat.zero_le _, rfl, rfl, Lib.hid (odd_zero _), HBr⟩
      case round =>
        obtain ⟨j, r, hj, rfl, rfl, HR, HB2⟩ := hrel
        clear HBr
        have j0 : (0 : Int) ≤ j := by omega
        have hr := HR.out.1
        obtain ⟨t, htt⟩ : ∃ t, q + r = t := ⟨_, rfl⟩
        have t0 : (0 : Int) ≤ t := by omega
        have c0 := (HX.out.below HB2.out HX.out.lt).cell 0
        have c1 := (HX.out.below HB2.out HX.out.lt).cell 1
        by_cases hlt : j < m
        · have j1 : (j : Int) < m := by omega
          have tm : (t : Int) ≤ 2000000 := by omega
          obtain ⟨ba, oa, p, A, l, c', s, hae, hba, hl, _, hc, hcd, hs⟩ := HWa.out.at_ hlt
          obtain ⟨bb, ob, p2, A2, l2', c2, u, hbe, hbb, hl2, _, hc2, hcd2, hu⟩ := HWb.out.at_ hlt
          obtain ⟨xba, xbc, xwa, xwc⟩ := x
          obtain ⟨yba, ybc, ywa, ywc⟩ := y
          obtain rfl : xwa = some ⟨ba, oa, none⟩ := hae
          obtain rfl : ywa = some ⟨bb, ob, none⟩ := hbe
          simp only at c0 c1 ⊢
          rw [htt]
          have a1 := (HB2.out.cell (p := ⟨ba, oa + j * 2, none⟩) hba).trans hc
          have a2 := (HB2.out.cell (p := ⟨ba, oa + j * 2 + 1, none⟩) hba).trans hcd
          have b1 := Below.alloc HB2.out HB2.out.size (.cells #[.int .i64 p, .slice A l c'] 91)
          have a3 := (b1.cell (p := ⟨bb, ob + j * 2, none⟩) hbb).trans hc2
          have a4 := (b1.cell (p := ⟨bb, ob + j * 2 + 1, none⟩) hbb).trans hcd2
          have d0 := (HY.out.below b1 HY.out.lt).cell 0
          have d1 := (HY.out.below b1 HY.out.lt).cell 1
          have b2 := Below.alloc b1 b1.size (.cells #[.int .i64 p2, .slice A2 l2' c2] 91)
          have v1 := (hs.below b2).conv
          have v2 := (hu.below b2).conv
          have hst := str_same s u
          have HB3 := Lib.hid b2
          have HTT := Lib.hid htt
          by_cases hpp : p = p2
          · subst hpp
            have hpb : (p != p) = false := by simp
            by_cases hst' : s = u
            · rw [decide_eq_true hst'] at hst
              have HO' := Lib.hid (HR.out.good (by rw [hl, hl2, hst']))
              clear hl hl2 hc hc2 hcd hcd2 hs hu hst' HB2 b1 b2 htt
              go_wp2_with fail
              go_roundw
              case rel => exact ⟨j + 1, r, by omega, by go_num, by rw [HTT.out], HO', HB3⟩
              case measure => simp [intOf]; omega
            · rw [decide_eq_false hst'] at hst
              have HO' := Lib.hid (HR.out.odd (by rw [hl, hl2]; exact fun hh => hst' (Prod.mk.inj hh).2))
              clear hl hl2 hc hc2 hcd hcd2 hs hu hst' HB2 b1 b2 htt
              go_wp2_with fail
              go_roundw
              case rel => exact ⟨j + 1, r + 1, by omega, by go_num, by rw [← Nat.add_assoc, HTT.out]; go_num, HO', HB3⟩
              case measure => simp [intOf]; omega
          · have hpb : (p != p2) = true := by simpa using hpp
            have HO' := Lib.hid (HR.out.odd (by rw [hl, hl2]; exact fun hh => hpp (Prod.mk.inj hh).1))
            clear hl hl2 hc hc2 hcd hcd2 hs hu hpp HB2 b1 b2 htt v1 v2 hst
            go_wp2_with fail
            go_roundw
            case rel => exact ⟨j + 1, r + 1, by omega, by go_num, by rw [← Nat.add_assoc, HTT.out]; go_num, HO', HB3⟩
            case measure => simp [intOf]; omega
        · obtain rfl : j = m := by omega
          rw [htt]
          have hiff := same_iff (D := D) (E := E) (by rw [HN.out]; exact HO.out) (by rw [HM.out]; exact HR.out) HE.out.1 HE.out.2
          rw [htt] at hiff
          have HBw := Lib.hid (HB.out.trans (HB2.out.mono HB.out.size))
          by_cases ht0 : t = 0
          · have htb : ((t : Int) == 0) = true := by simp; omega
            obtain rfl : R = true := HRR.out.2 (hiff.1 ht0)
            clear hiff ht0 htt
            go_wp2_with fail
            go_ret
            exact ⟨rfl, HBw.out⟩
          · have htb : ((t : Int) == 0) = false := by simp; omega
            obtain rfl : R = false := by
              cases R with
              | false => rfl
              | true => exact absurd (hiff.2 (HRR.out.1 rfl)) ht0
            clear hiff ht0 htt
            go_wp2_with fail
            go_ret
            exact ⟨rfl, HBw.out⟩
theorem rdSame_any (x : DAt) (D : DkL) (y : DAt) (E : DkL) (w : World) (h : Dsk w w.heap.size x D) (h' : Dsk w w.heap.size y E) (hf : D.1.length ≤ 1000000 ∧ D.2.length ≤ 1000000) (R : Bool) (hR : R = true ↔ D = E) :
    Calls Tryz.prog 39 #[dval x D, dval y E] w fun e w' => e = .returned (.bool R) ∧ Below w.heap.size w w' := by
  by_cases he : D.1.length = E.1.length ∧ D.2.length = E.2.length
  · exact rdSame_eq x D y E w h h' he.1 he.2 hf R hR
  · obtain rfl : R = false := by
      cases R with
      | false => rfl
      | true => exact absurd (by rw [hR.1 rfl]; exact ⟨rfl, rfl⟩) he
    exact rdSame_len x D y E w ⟨h.1.len_le, h.2.len_le, h'.1.len_le, h'.2.len_le⟩ (by omega)
end Go.Proofs.YtbggkfomfeeikaaGreatDoor
/-
  The document's own functions of layer 13: New, Twin, Same.
-/
namespace Go.Proofs.YtbggkfomfeeikaaGreatDoor
open Go.RowKit Go.Shelf
set_option maxRecDepth 100000

/-- The cells of a store that is none. -/
abbrev stZ : Array Value := #[.slice none 0 0, .slice none 0 0, .slice none 0 0, .int .u32 0, .int .u32 0]
theorem two_al (w : World) (a b : Array Value) (s t : TypeId) : ∃ w0, (w.alloc (.cells a s)).alloc (.cells b t) = w0 ∧ Below w.heap.size w w0 ∧ w0.heap.size = w.heap.size + 2 ∧ Blk w0 w.heap.size s a ∧ Blk w0 (w.heap.size + 1) t b := by
  refine ⟨_, rfl, ((Below.refl _ w).alloc (Nat.le_refl _) _).alloc (by simp) _, by simp, (Blk.new w s a).alloc _, ?_⟩
  have h := Blk.new (w.alloc (.cells a s)) t b
  rw [World.size_alloc] at h
  exact h
theorem three_al (w : World) (a b c : Array Value) (s t u : TypeId) : ∃ w0, ((w.alloc (.cells a s)).alloc (.cells b t)).alloc (.cells c u) = w0 ∧ Below w.heap.size w w0 ∧ w0.heap.size = w.heap.size + 3 ∧ Blk w0 w.heap.size s a ∧ Blk w0 (w.heap.size + 1) t b ∧ Blk w0 (w.heap.size + 2) u c := by
  obtain ⟨w1, h1, b1, z1, x1, y1⟩ := two_al w a b s t
  rw [h1]
  have h := Blk.new w1 u c
  rw [z1] at h
  exact ⟨_, rfl, b1.trans (((Below.refl _ w1).alloc (Nat.le_refl _) _).mono b1.size), by simp [z1], x1.alloc _, y1.alloc _, h⟩
section
variable {w : World} {g : Nat} {t : TypeId}
theorem stZ0 (h : Blk w g t stZ) : w.cell? ⟨g, 0, none⟩ = some (.slice none 0 0) := h.cell 0
theorem stZ1 (h : Blk w g t stZ) : w.cell? ⟨g, 1, none⟩ = some (.slice none 0 0) := h.cell 1
theorem stZ2 (h : Blk w g t stZ) : w.cell? ⟨g, 2, none⟩ = some (.slice none 0 0) := h.cell 2
theorem stZ3 (h : Blk w g t stZ) : w.cell? ⟨g, 3, none⟩ = some (.int .u32 0) := h.cell 3
theorem stZ4 (h : Blk w g t stZ) : w.cell? ⟨g, 4, none⟩ = some (.int .u32 0) := h.cell 4
end
/-- Cells of a box are written: it stays a box, and what lasts lasts. -/
theorem box_two {L B g : Nat} {a w : World} {t : TypeId} {c0 c1 c2 c3 c4 : Value} (h : Blk w g t #[c0, c1, c2, c3, c4]) (ht : rowT t = false) (hL : L ≤ g) (hB : Below B a w) (hg : B ≤ g) (u v : Value) :
    Blk ((w.setCell ⟨g, 0, none⟩ u).setCell ⟨g, 1, none⟩ v) g t #[u, v, c2, c3, c4] ∧ Keeps L w ((w.setCell ⟨g, 0, none⟩ u).setCell ⟨g, 1, none⟩ v) ∧ Below B a ((w.setCell ⟨g, 0, none⟩ u).setCell ⟨g, 1, none⟩ v) :=
  ⟨(h.set_ 0 u).set_ 1 v, Keeps.of_box (only_two w g u v) h ht hL, (hB.setCell (p := ⟨g, 0, none⟩) hg u).setCell (p := ⟨g, 1, none⟩) hg v⟩
theorem box_at {L B g : Nat} {a w : World} {t : TypeId} {cs : Array Value} (h : Blk w g t cs) (ht : rowT t = false) (hL : L ≤ g) (hB : Below B a w) (hg : B ≤ g) (i : Nat) (u : Value) :
    Blk (w.setCell ⟨g, i, none⟩ u) g t (cs.setIfInBounds i u) ∧ Keeps L w (w.setCell ⟨g, i, none⟩ u) ∧ Below B a (w.setCell ⟨g, i, none⟩ u) :=
  ⟨h.set_ i u, Keeps.of_box (only_setCell (World.grownBy.refl w (some g)) (.inl rfl) u) h ht hL, hB.setCell (p := ⟨g, i, none⟩) hg u⟩
theorem box_five {L B g : Nat} {a w : World} {t : TypeId} {c0 c1 c2 c3 c4 : Value} (h : Blk w g t #[c0, c1, c2, c3, c4]) (ht : rowT t = false) (hL : L ≤ g) (hB : Below B a w) (hg : B ≤ g) (v0 v1 v2 v3 v4 : Value) :
    Blk (set5 w g v0 v1 v2 v3 v4) g t #[v0, v1, v2, v3, v4] ∧ Keeps L w (set5 w g v0 v1 v2 v3 v4) ∧ Below B a (set5 w g v0 v1 v2 v3 v4) :=
  ⟨h.set5 v0 v1 v2 v3 v4, Keeps.of_box (only_set5 (World.grownBy.refl w (some g)) v0 v1 v2 v3 v4) h ht hL, below_set5 hB hg v0 v1 v2 v3 v4⟩
section
variable {w : World} {g : Nat} {t : TypeId} {c0 c1 c2 c3 c4 : Value}
theorem bx0 (h : Blk w g t #[c0, c1, c2, c3, c4]) : w.cell? ⟨g, 0, none⟩ = some c0 := h.cell 0
theorem bx1 (h : Blk w g t #[c0, c1, c2, c3, c4]) : w.cell? ⟨g, 1, none⟩ = some c1 := h.cell 1
theorem bx2 (h : Blk w g t #[c0, c1, c2, c3, c4]) : w.cell? ⟨g, 2, none⟩ = some c2 := h.cell 2
theorem bx3 (h : Blk w g t #[c0, c1, c2, c3, c4]) : w.cell? ⟨g, 3, none⟩ = some c3 := h.cell 3
theorem bx4 (h : Blk w g t #[c0, c1, c2, c3, c4]) : w.cell? ⟨g, 4, none⟩ = some c4 := h.cell 4
end
set_option maxHeartbeats 2000000 in
theorem rtTwin_any (L : Nat) (x : SAt) (S : StL) (w : World) (h : StP L w x S) (hf : Fits S.1) (hn : S.2.1.length ≤ 20000) (hL : L ≤ w.heap.size) : Calls Tryz.prog 15 #[stV x S] w (OutS 0 S w) := by
  obtain ⟨w0, hw0, b0, z0, x0, x1⟩ := two_al w (stC x S) stZ 30 30
  obtain ⟨g, hg⟩ : ∃ g, w.heap.size = g := ⟨_, rfl⟩
  obtain ⟨g', hg'⟩ : ∃ g', g + 1 = g' := ⟨_, rfl⟩
  have h0 := h.bel b0
  have ht := rdTwin_any x.d S.1 w0 h0.now.1 hf
  simp only [dval] at ht
  have c0 := stC0 x0
  have c1 := stC1 x0
  rw [hg] at x0 x1 z0 b0 c0 c1
  rw [hg'] at x1
  have hgL : L ≤ g := by omega
  have hgg : g ≤ g' := by omega
  have hgn : g' ≠ g := by omega
  have HL := Lib.hid hgL
  have HG := Lib.hid hg
  have HGG := Lib.hid hgg
  have HGN := Lib.hid hgn
  have HX := Lib.hid x0
  have HY := Lib.hid x1
  have HB := Lib.hid b0
  have HS := Lib.hid h0
  have HT := Lib.hid ht
  have HN := Lib.hid hn
  have HZ := Lib.hid (show g ≤ w0.heap.size by omega)
  simp only [stC, stZ] at hw0
  clear h h0 x0 x1 b0 ht hn hf z0 hgL hgg hgn
  go_enter Tryz.func15, Tryz.ntmps15
  go_wp2_with fail
  clear c0 c1 hw0
  refine HT.out.mono ?_
  rintro e w1 ⟨x', rfl, htw, b1⟩
  have hx1 := HX.out.below b1 HX.out.lt
  have HY1 := Lib.hid (HY.out.below b1 HY.out.lt)
  have hb1 := HB.out.trans (b1.mono HZ.out)
  have hs1 := HS.out.bel b1
  have hd1 : Lasts 0 w1 fun W => Dsk W W.heap.size x' S.1 := dskR_lasts ⟨_, _, htw.brow 0, htw.wrow 0⟩ 0
  have c0 := stC0 hx1
  have c1 := stC1 hx1
  have hfz := fun i => hx1.frozen i
  simp only [dval]
  obtain ⟨x2, k2, b2⟩ := box_two hx1 (by decide) HL.out hb1 (Nat.le_refl _) (.slice x'.ba S.1.1.length x'.bc) (.slice x'.wa S.1.2.length x'.wc)
  have y2 := (HY1.out.far (p := ⟨g, 0, none⟩) HGN.out (.slice x'.ba S.1.1.length x'.bc)).far (p := ⟨g, 1, none⟩) HGN.out (.slice x'.wa S.1.2.length x'.wc)
  have s2 := hs1.step k2
  have d2 := hd1.step (k2.more (Nat.zero_le _))
  obtain ⟨w2, hw2⟩ : ∃ w2, (w1.setCell ⟨g, 0, none⟩ (.slice x'.ba S.1.1.length x'.bc)).setCell ⟨g, 1, none⟩ (.slice x'.wa S.1.2.length x'.wc) = w2 := ⟨_, rfl⟩
  rw [hw2] at x2 k2 b2 y2 s2 d2
  have cc := bx2 x2
  have HX2 := Lib.hid x2
  have HY2 := Lib.hid y2
  have HB2 := Lib.hid b2
  have HBS := Lib.hid s2.now.2
  have HD2 := Lib.hid d2
  have HO0 := Lib.hid (own_nil w2 w2.heap.size)
  have HRF := Lib.hid (Below.refl w2.heap.size w2)
  clear htw b1 HX HY HB HS HT hx1 hb1 hs1 hd1 x2 k2 b2 y2 s2 d2
  go_wp2_with (at_builtin
               refine wpList_append_bsl rfl (.const (.slice none 0 0)) (.tmp 8) rfl w2.heap.size _ 0 _ rfl HO0.out _ x.a S.2.1.length x.c S.2.1 rfl HBS.out (by have := HN.out; omega) HRF.out.size ?_
               intro v3 w3 ho hg3
               rw [Nat.zero_add, List.nil_append] at ho
               have b3 := app_below HRF.out HO0.out hg3 HRF.out.size; clear hg3
               obtain ⟨a3, c3, rfl⟩ := own_slice ho
               have x3 := HX2.out.below b3 HX2.out.lt
               have y3 := HY2.out.below b3 HY2.out.lt
               have d3 := HD2.out.bel b3
               have t3 := HB2.out.trans (b3.mono (Nat.le_of_lt HX2.out.lt))
               obtain ⟨x4, k4, b4⟩ := box_at x3 (by decide) (Nat.zero_le _) t3 (Nat.le_refl _) 2 (.slice a3 S.2.1.length c3)
               have y4 := y3.far (p := ⟨g, 2, none⟩) HGN.out (.slice a3 S.2.1.length c3)
               have d4 := d3.step k4
               have o4 := (own_lasts (L := 0) ho).step k4
               have cx := bx2 x3
               have hfx := x3.frozen 2
               obtain ⟨w4, hw4⟩ : ∃ w4, w3.setCell ⟨g, 2, none⟩ (.slice a3 S.2.1.length c3) = w4 := ⟨_, rfl⟩
               rw [hw4] at x4 k4 b4 y4 d4 o4
               replace x4 : Blk w4 g 30 #[.slice x'.ba S.1.1.length x'.bc, .slice x'.wa S.1.2.length x'.wc, .slice a3 S.2.1.length c3, .int .u32 (S.2.2.1 : Int), .int .u32 (S.2.2.2 : Int)] := x4
               have p0 := bx0 x4
               have p1 := bx1 x4
               have p2 := bx2 x4
               have p3 := bx3 x4
               have p4 := bx4 x4
               have q0 := stZ0 y4
               have q1 := stZ1 y4
               have q2 := stZ2 y4
               have q3 := stZ3 y4
               have q4 := stZ4 y4
               have hfy := fun i => y4.frozen i
               have H4 := Lib.hid (box_five y4 (by decide) (Nat.zero_le _) b4 HGG.out (.slice x'.ba S.1.1.length x'.bc) (.slice x'.wa S.1.2.length x'.wc) (.slice a3 S.2.1.length c3) (.int .u32 (S.2.2.1 : Int)) (.int .u32 (S.2.2.2 : Int)))
               have HD4 := Lib.hid d4
               have HO4 := Lib.hid o4
               clear ho b3 x3 y3 d3 t3 x4 k4 b4 y4 d4 o4)
  clear p0 p1 p2 p3 p4 q0 q1 q2 q3 q4 hfy cx hfx cc c0 c1 hfz
  obtain ⟨xf, kf, bf⟩ := H4.out
  obtain ⟨wf, hwf⟩ : ∃ wf, set5 w4 g' (.slice x'.ba S.1.1.length x'.bc) (.slice x'.wa S.1.2.length x'.wc) (.slice a3 S.2.1.length c3) (.int .u32 (S.2.2.1 : Int)) (.int .u32 (S.2.2.2 : Int)) = wf := ⟨_, rfl⟩
  rw [hwf] at xf kf bf
  simp only [set5] at hwf
  rw [hwf]
  have e0 := bx0 xf
  have e1 := bx1 xf
  have e2 := bx2 xf
  have e3 := bx3 xf
  have e4 := bx4 xf
  refine bodyPost_ret (v := stV ⟨x', a3, c3⟩ S) (by simp [results, Tryz.f15, go_sem, e0, e1, e2, e3, e4]) rfl ?_
  exact ⟨⟨x', a3, c3⟩, rfl, fun W k => ⟨HD4.out W (kf.trans k), HO4.out W (kf.trans k)⟩, by rw [HG.out]; exact bf⟩
end Go.Proofs.YtbggkfomfeeikaaGreatDoor
/-
  Stores of one's own whose bytes are turned: what is written, and what goes on; law 13's spoil.
-/
namespace Go.Proofs.YtbggkfomfeeikaaGreatDoor
open Go.RowKit Go.Shelf
set_option maxRecDepth 100000

/-- Bytes of blocks from B on are turned, and nothing else. -/
structure Spoils (B : Nat) (w w' : World) : Prop where
  below : Below B w w'
  box : ∀ b t cs, Blk w b t cs → t ≠ 5 → Blk w' b t cs
  row : ∀ b cs, Blk w b 5 cs → ∃ cs', Blk w' b 5 cs' ∧ ∀ (j : Nat) (z : Int), cs[j]? = some (Value.int .u8 z) → ∃ z', cs'[j]? = some (Value.int .u8 z')
theorem Spoils.refl (B : Nat) (w : World) : Spoils B w w := ⟨Below.refl _ _, fun _ _ _ h _ => h, fun _ cs h => ⟨cs, h, fun _ z hz => ⟨z, hz⟩⟩⟩
theorem Spoils.trans {B : Nat} {a b c : World} (h : Spoils B a b) (k : Spoils B b c) : Spoils B a c :=
  ⟨h.below.trans k.below, fun i t cs hi ht => k.box i t cs (h.box i t cs hi ht) ht, fun i cs hi => by
    obtain ⟨cs1, h1, h2⟩ := h.row i cs hi
    obtain ⟨cs2, h3, h4⟩ := k.row i cs1 h1
    exact ⟨cs2, h3, fun j z hz => by obtain ⟨z1, hz1⟩ := h2 j z hz; exact h4 j z1 hz1⟩⟩
theorem Spoils.of_below {B : Nat} {w w' : World} (h : Below w.heap.size w w') (hB : B ≤ w.heap.size) : Spoils B w w' :=
  ⟨h.mono hB, fun _ _ _ hb _ => hb.below h hb.lt, fun _ cs hb => ⟨cs, hb.below h hb.lt, fun _ z hz => ⟨z, hz⟩⟩⟩
theorem Spoils.less {B B' : Nat} {w w' : World} (h : Spoils B w w') (hB : B' ≤ B) : Spoils B' w w' := ⟨h.below.mono hB, h.box, h.row⟩
/-- Bytes of one's own. -/
def Piece (w : World) (B : Nat) (A : Option Addr) (l : Nat) : Prop := l = 0 ∨ ∃ b off cs, A = some ⟨b, off, none⟩ ∧ B ≤ b ∧ Blk w b 5 cs ∧ ∀ j, j < l → ∃ z, cs[off + j]? = some (.int .u8 z)
theorem Piece.at_ {w : World} {B : Nat} {A : Option Addr} {l : Nat} (h : Piece w B A l) {j : Nat} (hj : j < l) : ∃ b off cs z, A = some ⟨b, off, none⟩ ∧ B ≤ b ∧ Blk w b 5 cs ∧ w.cell? ⟨b, off + j, none⟩ = some (.int .u8 z) := by
  rcases h with h | ⟨b, off, cs, e, hB, hb, hc⟩
  · omega
  · obtain ⟨z, hz⟩ := hc j hj
    exact ⟨b, off, cs, z, e, hB, hb, by rw [hb.cell]; exact hz⟩
/-- A row of slices of bytes of one's own: the row is in a block of its own, and so are all the bytes; st: how far a slice lies from the next one, at: where in it. -/
def Rows9 (w : World) (B : Nat) (a : Option Addr) (n : Nat) (t : TypeId) (st at_ : Nat) (L : Nat → Nat) : Prop :=
  n = 0 ∨ ∃ b off cs, a = some ⟨b, off, none⟩ ∧ Blk w b t cs ∧ ∀ i, i < n → ∃ A c, cs[off + i * st + at_]? = some (.slice A (L i) c) ∧ Piece w B A (L i)
theorem Rows9.at_ {w : World} {B : Nat} {a : Option Addr} {n : Nat} {t : TypeId} {st q : Nat} {L : Nat → Nat} (h : Rows9 w B a n t st q L) {i : Nat} (hi : i < n) : ∃ b off A c, a = some ⟨b, off, none⟩ ∧ w.cell? ⟨b, off + i * st + q, none⟩ = some (.slice A (L i) c) ∧ Piece w B A (L i) := by
  rcases h with h | ⟨b, off, cs, e, hb, hc⟩
  · omega
  · obtain ⟨A, c, h1, h2⟩ := hc i hi
    exact ⟨b, off, A, c, e, by rw [hb.cell]; exact h1, h2⟩
end Go.Proofs.YtbggkfomfeeikaaGreatDoor
/-
  What the program's own calls on stores answer: a store of one's own (all its bytes in new blocks), which lasts; with a pointer, with an error's number.
-/
namespace Go.Proofs.YtbggkfomfeeikaaGreatDoor
open Go.RowKit Go.Shelf
set_option maxRecDepth 100000

/-- What is asked of a store that the program is handed: it is not great. -/
def OkS (S : StL) : Prop := Fits S.1 ∧ S.2.1.length ≤ 20000 ∧ WfS S
theorem MayS.ok {S : StL} (h : MayS S) : OkS S := ⟨may_fits h.1, by rw [h.2.1.1]; omega, by have := h.2.2.1.2; omega, by have := h.2.2.2; omega⟩
theorem StP.any {L : Nat} {w : World} {x : SAt} {S : StL} (h : StP 0 w x S) : StP L w x S := h.less (Nat.zero_le _)
end Go.Proofs.YtbggkfomfeeikaaGreatDoor
/-
  Store's own: isUpTo, isKey, mayBe, Check; nothing that was there is written.
-/
namespace Go.Proofs.YtbggkfomfeeikaaGreatDoor
open Go.RowKit Go.Shelf
set_option maxRecDepth 100000

theorem stUpTo_any (n : Nat) (m : Int) (r : Bool) (hr : r = true ↔ (1 ≤ n ∧ (n : Int) ≤ m)) (w : World) : Calls Tryz.prog 65 #[.int .u32 (n : Int), .int .u32 m] w fun e w' => e = .returned (.bool r) ∧ w = w' := by
  by_cases h : 1 ≤ n
  · have i1 : (1 : Int) ≤ (n : Int) := by omega
    by_cases h2 : (n : Int) ≤ m
    · obtain rfl : r = true := hr.2 ⟨h, h2⟩
      clear hr h
      go_enter Tryz.func65, Tryz.ntmps65
      go_wp2_with fail
      go_ret
      exact ⟨rfl, rfl⟩
    · obtain rfl : r = false := by cases r with | false => rfl | true => exact absurd (hr.1 rfl) (fun hh => h2 hh.2)
      clear hr h
      go_enter Tryz.func65, Tryz.ntmps65
      go_wp2_with fail
      go_ret
      exact ⟨rfl, rfl⟩
  · have i1 : ¬ (1 : Int) ≤ (n : Int) := by omega
    obtain rfl : r = false := by cases r with | false => rfl | true => exact absurd (hr.1 rfl) (fun hh => h hh.1)
    clear hr h
    go_enter Tryz.func65, Tryz.ntmps65
    go_wp2_with fail
    go_ret
    exact ⟨rfl, rfl⟩
set_option maxHeartbeats 2000000 in
theorem stMayBe_any (L : Nat) (x : SAt) (S : StL) (w : World) (h : StP L w x S) (R : Bool) (hR : R = true ↔ MayS S) : Calls Tryz.prog 40 #[stV x S] w fun e w' => e = .returned (.bool R) ∧ Below w.heap.size w w' := by
  obtain ⟨xb, b0⟩ := st_box w x S
  obtain ⟨w0, hw0⟩ : ∃ w0, w.alloc (.cells (stC x S) 30) = w0 := ⟨_, rfl⟩
  rw [hw0] at xb b0
  have h0 := h.bel b0
  have c0 := stC0 xb
  have c1 := stC1 xb
  have HX := Lib.hid xb
  have HB := Lib.hid b0
  have HS := Lib.hid h0
  have hm := dCheck_any x.d S.1 w0 h0.now.1
  simp only [dval] at hm
  simp only [stC] at hw0
  clear h h0 xb b0
  have n3 : (0 : Int) ≤ (S.2.2.2 : Int) := by omega
  have n4 : (0 : Int) ≤ (S.2.2.1 : Int) := by omega
  by_cases hd : MayD S.1
  · rw [show checkO S.1 = 0 by unfold checkO; rw [if_pos hd]] at hm
    have HM2 := Lib.hid hm
    clear hm
    by_cases ht : MayT S.2.1
    · by_cases e1 : 1 ≤ S.2.2.1 ∧ S.2.2.1 ≤ 65535
      · have HU := Lib.hid (fun W => stUpTo_any S.2.2.1 65535 true ⟨fun _ => ⟨e1.1, by omega⟩, fun _ => rfl⟩ W)
        by_cases e3 : S.2.2.2 ≤ 65535
        · have n2 : (S.2.2.2 : Int) ≤ 65535 := by omega
          obtain rfl : R = true := hR.2 ⟨hd, ht, e1, e3⟩
          clear hR e1 e3 hd
          go_enter Tryz.func40, Tryz.ntmps40
          go_wp2_with fail
          clear c0 c1
          refine HM2.out.mono ?_
          rintro e w1 ⟨rfl, b1⟩
          have x1 := HX.out.below b1 HX.out.lt
          have c2 := stC2 x1
          have c3 := stC3 x1
          have c4 := stC4 x1
          have HC := Lib.hid (spCheck_yes x.a S.2.1.length x.c _ S.2.1 w1 (HS.out.bel b1).now.2 ht)
          have HB1 := Lib.hid (HB.out.trans (b1.mono HB.out.size))
          clear b1 x1 ht
          go_wp2_with fail
          refine HC.out.mono ?_
          rintro e w2 ⟨rfl, rfl⟩
          go_wp2_with fail
          refine (HU.out w1).mono ?_
          rintro e w2 ⟨rfl, rfl⟩
          go_wp2_with fail
          go_ret
          exact ⟨rfl, HB1.out⟩
        · have n2 : ¬ (S.2.2.2 : Int) ≤ 65535 := by omega
          obtain rfl : R = false := by cases R with | false => rfl | true => exact absurd (hR.1 rfl) (fun hh => e3 hh.2.2.2)
          clear hR e1 e3 hd
          go_enter Tryz.func40, Tryz.ntmps40
          go_wp2_with fail
          clear c0 c1
          refine HM2.out.mono ?_
          rintro e w1 ⟨rfl, b1⟩
          have x1 := HX.out.below b1 HX.out.lt
          have c2 := stC2 x1
          have c3 := stC3 x1
          have c4 := stC4 x1
          have HC := Lib.hid (spCheck_yes x.a S.2.1.length x.c _ S.2.1 w1 (HS.out.bel b1).now.2 ht)
          have HB1 := Lib.hid (HB.out.trans (b1.mono HB.out.size))
          clear b1 x1 ht
          go_wp2_with fail
          refine HC.out.mono ?_
          rintro e w2 ⟨rfl, rfl⟩
          go_wp2_with fail
          refine (HU.out w1).mono ?_
          rintro e w2 ⟨rfl, rfl⟩
          go_wp2_with fail
          go_ret
          exact ⟨by simp; omega, HB1.out⟩
      · have HU := Lib.hid (fun W => stUpTo_any S.2.2.1 65535 false ⟨fun h => (by cases h), fun h => absurd (show 1 ≤ S.2.2.1 ∧ S.2.2.1 ≤ 65535 by omega) e1⟩ W)
        obtain rfl : R = false := by cases R with | false => rfl | true => exact absurd (hR.1 rfl) (fun hh => e1 hh.2.2.1)
        clear hR e1 hd
        go_enter Tryz.func40, Tryz.ntmps40
        go_wp2_with fail
        clear c0 c1
        refine HM2.out.mono ?_
        rintro e w1 ⟨rfl, b1⟩
        have x1 := HX.out.below b1 HX.out.lt
        have c2 := stC2 x1
        have c3 := stC3 x1
        have c4 := stC4 x1
        have HC := Lib.hid (spCheck_yes x.a S.2.1.length x.c _ S.2.1 w1 (HS.out.bel b1).now.2 ht)
        have HB1 := Lib.hid (HB.out.trans (b1.mono HB.out.size))
        clear b1 x1 ht
        go_wp2_with fail
        refine HC.out.mono ?_
        rintro e w2 ⟨rfl, rfl⟩
        go_wp2_with fail
        refine (HU.out w1).mono ?_
        rintro e w2 ⟨rfl, rfl⟩
        go_wp2_with fail
        go_ret
        exact ⟨rfl, HB1.out⟩
    · obtain rfl : R = false := by cases R with | false => rfl | true => exact absurd (hR.1 rfl) (fun hh => ht hh.2.1)
      clear hR hd
      go_enter Tryz.func40, Tryz.ntmps40
      go_wp2_with fail
      clear c0 c1
      refine HM2.out.mono ?_
      rintro e w1 ⟨rfl, b1⟩
      have x1 := HX.out.below b1 HX.out.lt
      have c2 := stC2 x1
      have c3 := stC3 x1
      have c4 := stC4 x1
      have HC := Lib.hid (spCheck_no x.a S.2.1.length x.c _ S.2.1 w1 (HS.out.bel b1).now.2 ht)
      have HB1 := Lib.hid (HB.out.trans (b1.mono HB.out.size))
      clear b1 x1 ht
      go_wp2_with fail
      refine HC.out.mono ?_
      rintro e w2 ⟨rfl, rfl⟩
      go_wp2_with fail
      go_ret
      exact ⟨rfl, HB1.out⟩
  · rw [show checkO S.1 = 8 by unfold checkO; rw [if_neg hd]] at hm
    have HM2 := Lib.hid hm
    clear hm
    obtain rfl : R = false := by cases R with | false => rfl | true => exact absurd (hR.1 rfl) (fun hh => hd hh.1)
    clear hR hd
    go_enter Tryz.func40, Tryz.ntmps40
    go_wp2_with fail
    clear c0 c1
    refine HM2.out.mono ?_
    rintro e w1 ⟨rfl, b1⟩
    have HB1 := Lib.hid (HB.out.trans (b1.mono HB.out.size))
    clear b1
    go_wp2_with fail
    go_ret
    exact ⟨rfl, HB1.out⟩
theorem stCheck_all (L : Nat) (x : SAt) (S : StL) (w : World) (h : StP L w x S) (_hL : L ≤ w.heap.size) (c : Nat) (hc : (MayS S → c = 0) ∧ (¬ MayS S → c = 8)) : Calls Tryz.prog 23 #[stV x S] w fun e w' => e = .returned (.int .i64 c) ∧ Below w.heap.size w w' := by
  obtain ⟨xb, b0⟩ := st_box w x S
  obtain ⟨w0, hw0⟩ : ∃ w0, w.alloc (.cells (stC x S) 30) = w0 := ⟨_, rfl⟩
  rw [hw0] at xb b0
  have c0 := stC0 xb
  have c1 := stC1 xb
  have c2 := stC2 xb
  have c3 := stC3 xb
  have c4 := stC4 xb
  have HB := Lib.hid b0
  have HMY := fun R hR => stMayBe_any L x S w0 (h.bel b0) R hR
  simp only [stC] at hw0
  clear h xb b0
  by_cases hm : MayS S
  · obtain rfl : c = 0 := hc.1 hm
    have HM := Lib.hid (HMY true ⟨fun _ => hm, fun _ => rfl⟩)
    clear HMY hc hm
    go_enter Tryz.func23, Tryz.ntmps23
    go_wp2_with fail
    refine HM.out.mono ?_
    rintro e w1 ⟨rfl, b1⟩
    have HB1 := Lib.hid (HB.out.trans (b1.mono HB.out.size))
    clear b1 c0 c1 c2 c3 c4
    go_wp2_with fail
    go_ret
    exact ⟨rfl, HB1.out⟩
  · obtain rfl : c = 8 := hc.2 hm
    have HM := Lib.hid (HMY false ⟨fun h => (by cases h), fun h => absurd h hm⟩)
    clear HMY hc hm
    go_enter Tryz.func23, Tryz.ntmps23
    go_wp2_with fail
    refine HM.out.mono ?_
    rintro e w1 ⟨rfl, b1⟩
    have HB1 := Lib.hid (HB.out.trans (b1.mono HB.out.size))
    clear b1 c0 c1 c2 c3 c4
    go_wp2_with fail
    go_ret
    exact ⟨rfl, HB1.out⟩
end Go.Proofs.YtbggkfomfeeikaaGreatDoor
/-
  The document's own Same of layer 13: whether all fields of two stores are the same.
-/
namespace Go.Proofs.YtbggkfomfeeikaaGreatDoor
open Go.RowKit Go.Shelf
set_option maxRecDepth 100000

theorem strs_eq (s t : List UInt8) (r : Bool) (hr : r = true ↔ s = t) : ((strOf s).toList == (strOf t).toList) = r := by
  rw [strOf_toList, strOf_toList]
  cases r with
  | true => simp [hr.1 rfl]
  | false =>
    have : s ≠ t := fun h => by have := hr.2 h; cases this
    simp [this]
theorem nat_eq (a b : Nat) (r : Bool) (hr : r = true ↔ a = b) : ((a : Int) == (b : Int)) = r := by
  cases r with
  | true => have := hr.1 rfl; subst this; simp
  | false =>
    have : a ≠ b := fun h => by have := hr.2 h; cases this
    simp; omega
set_option maxHeartbeats 4000000 in
theorem rtSame_any (L : Nat) (x y : SAt) (S T : StL) (w : World) (h : StP L w x S) (k : StP L w y T) (hf : S.1.1.length ≤ 1000000 ∧ S.1.2.length ≤ 1000000) (R : Bool) (hR : R = true ↔ S = T) :
    Calls Tryz.prog 21 #[stV x S, stV y T] w fun e w' => e = .returned (.bool R) ∧ Below w.heap.size w w' := by
  obtain ⟨w0, hw0, b0, z0, x0, x1⟩ := two_al w (stC x S) (stC y T) 30 30
  have h0 := h.bel b0
  have k0 := k.bel b0
  have c0 := stC0 x0
  have c1 := stC1 x0
  have c2 := stC0 x1
  have c3 := stC1 x1
  have HX := Lib.hid x0
  have HY := Lib.hid x1
  have HB := Lib.hid b0
  have HS := Lib.hid h0
  have HT := Lib.hid k0
  have HF := Lib.hid hf
  have HD := Lib.hid (fun R' hR' => rdSame_any x.d S.1 y.d T.1 w0 h0.now.1 k0.now.1 hf R' hR')
  simp only [stC] at hw0
  clear h k h0 k0 x0 x1 b0 hf z0
  by_cases e1 : S.1 = T.1
  · by_cases e2 : S.2.1 = T.2.1
    · have g2 := strs_eq S.2.1 T.2.1 true ⟨fun _ => e2, fun _ => rfl⟩
      by_cases e3 : S.2.2.1 = T.2.2.1
      · have g3 := nat_eq S.2.2.1 T.2.2.1 true ⟨fun _ => e3, fun _ => rfl⟩
        by_cases e4 : S.2.2.2 = T.2.2.2
        · have g4 := nat_eq S.2.2.2 T.2.2.2 true ⟨fun _ => e4, fun _ => rfl⟩
          obtain rfl : R = true := hR.2 (Prod.ext e1 (Prod.ext e2 (Prod.ext e3 e4)))
          have E1 := Lib.hid e1
          clear hR e1 e2 e3 e4
          have hds := HD.out true ⟨fun _ => E1.out, fun _ => rfl⟩
          simp only [dval] at hds
          have HDS := Lib.hid hds
          clear hds
          go_enter Tryz.func21, Tryz.ntmps21
          go_wp2_with fail
          clear c0 c1 c2 c3 hw0
          refine HDS.out.mono ?_
          rintro e w1 ⟨rfl, b1⟩
          have y1 := HX.out.below b1 HX.out.lt
          have y2 := HY.out.below b1 HY.out.lt
          have d2 := stC2 y1
          have d3 := stC3 y1
          have d4 := stC4 y1
          have f2 := stC2 y2
          have f3 := stC3 y2
          have f4 := stC4 y2
          have v1 := (HS.out.bel b1).now.2.conv
          have v2 := (HT.out.bel b1).now.2.conv
          have HB1 := Lib.hid (HB.out.trans (b1.mono HB.out.size))
          clear y1 y2 b1
          go_wp2_with fail
          go_ret
          exact ⟨rfl, HB1.out⟩
        · have g4 := nat_eq S.2.2.2 T.2.2.2 false ⟨fun h => (by cases h), fun h => absurd h e4⟩
          obtain rfl : R = false := by cases R with | false => rfl | true => exact absurd (hR.1 rfl) (fun hh => e4 (by rw [hh]))
          have E1 := Lib.hid e1
          clear hR e1 e2 e3 e4
          have hds := HD.out true ⟨fun _ => E1.out, fun _ => rfl⟩
          simp only [dval] at hds
          have HDS := Lib.hid hds
          clear hds
          go_enter Tryz.func21, Tryz.ntmps21
          go_wp2_with fail
          clear c0 c1 c2 c3 hw0
          refine HDS.out.mono ?_
          rintro e w1 ⟨rfl, b1⟩
          have y1 := HX.out.below b1 HX.out.lt
          have y2 := HY.out.below b1 HY.out.lt
          have d2 := stC2 y1
          have d3 := stC3 y1
          have d4 := stC4 y1
          have f2 := stC2 y2
          have f3 := stC3 y2
          have f4 := stC4 y2
          have v1 := (HS.out.bel b1).now.2.conv
          have v2 := (HT.out.bel b1).now.2.conv
          have HB1 := Lib.hid (HB.out.trans (b1.mono HB.out.size))
          clear y1 y2 b1
          go_wp2_with fail
          go_ret
          exact ⟨rfl, HB1.out⟩
      · have g3 := nat_eq S.2.2.1 T.2.2.1 false ⟨fun h => (by cases h), fun h => absurd h e3⟩
        obtain rfl : R = false := by cases R with | false => rfl | true => exact absurd (hR.1 rfl) (fun hh => e3 (by rw [hh]))
        have E1 := Lib.hid e1
        clear hR e1 e2 e3
        have hds := HD.out true ⟨fun _ => E1.out, fun _ => rfl⟩
        simp only [dval] at hds
        have HDS := Lib.hid hds
        clear hds
        go_enter Tryz.func21, Tryz.ntmps21
        go_wp2_with fail
        clear c0 c1 c2 c3 hw0
        refine HDS.out.mono ?_
        rintro e w1 ⟨rfl, b1⟩
        have y1 := HX.out.below b1 HX.out.lt
        have y2 := HY.out.below b1 HY.out.lt
        have d2 := stC2 y1
        have d3 := stC3 y1
        have d4 := stC4 y1
        have f2 := stC2 y2
        have f3 := stC3 y2
        have f4 := stC4 y2
        have v1 := (HS.out.bel b1).now.2.conv
        have v2 := (HT.out.bel b1).now.2.conv
        have HB1 := Lib.hid (HB.out.trans (b1.mono HB.out.size))
        clear y1 y2 b1
        go_wp2_with fail
        go_ret
        exact ⟨rfl, HB1.out⟩
    · have g2 := strs_eq S.2.1 T.2.1 false ⟨fun h => (by cases h), fun h => absurd h e2⟩
      obtain rfl : R = false := by cases R with | false => rfl | true => exact absurd (hR.1 rfl) (fun hh => e2 (by rw [hh]))
      have E1 := Lib.hid e1
      clear hR e1 e2
      have hds := HD.out true ⟨fun _ => E1.out, fun _ => rfl⟩
      simp only [dval] at hds
      have HDS := Lib.hid hds
      clear hds
      go_enter Tryz.func21, Tryz.ntmps21
      go_wp2_with fail
      clear c0 c1 c2 c3 hw0
      refine HDS.out.mono ?_
      rintro e w1 ⟨rfl, b1⟩
      have y1 := HX.out.below b1 HX.out.lt
      have y2 := HY.out.below b1 HY.out.lt
      have d2 := stC2 y1
      have d3 := stC3 y1
      have d4 := stC4 y1
      have f2 := stC2 y2
      have f3 := stC3 y2
      have f4 := stC4 y2
      have v1 := (HS.out.bel b1).now.2.conv
      have v2 := (HT.out.bel b1).now.2.conv
      have HB1 := Lib.hid (HB.out.trans (b1.mono HB.out.size))
      clear y1 y2 b1
      go_wp2_with fail
      go_ret
      exact ⟨rfl, HB1.out⟩
  · obtain rfl : R = false := by cases R with | false => rfl | true => exact absurd (hR.1 rfl) (fun hh => e1 (by rw [hh]))
    have E1 := Lib.hid e1
    clear hR e1
    have hds := HD.out false ⟨fun h => (by cases h), fun h => absurd h E1.out⟩
    simp only [dval] at hds
    have HDS := Lib.hid hds
    clear hds
    go_enter Tryz.func21, Tryz.ntmps21
    go_wp2_with fail
    clear c0 c1 c2 c3 hw0
    refine HDS.out.mono ?_
    rintro e w1 ⟨rfl, b1⟩
    have y1 := HX.out.below b1 HX.out.lt
    have y2 := HY.out.below b1 HY.out.lt
    have d2 := stC2 y1
    have d3 := stC3 y1
    have d4 := stC4 y1
    have f2 := stC2 y2
    have f3 := stC3 y2
    have f4 := stC4 y2
    have v1 := (HS.out.bel b1).now.2.conv
    have v2 := (HT.out.bel b1).now.2.conv
    have HB1 := Lib.hid (HB.out.trans (b1.mono HB.out.size))
    clear y1 y2 b1
    go_wp2_with fail
    go_ret
    exact ⟨rfl, HB1.out⟩
end Go.Proofs.YtbggkfomfeeikaaGreatDoor
/-
  What the document's own Turn, Back, Four, Sum and Key answer is what mix.Turn, Back, Four, Sum and Key answer.
-/
namespace Go.Proofs.YtbggkfomfeeikaaGreatDoor
open Go.RowKit Go.Shelf
set_option maxRecDepth 100000

theorem rplus_any (x y : BitVec 32) (w : World) : Calls Tryz.prog 147 #[.int .u32 (x.toNat : Int), .int .u32 (y.toNat : Int)] w fun e w' => e = .returned (.int .u32 ((pl x y).toNat : Int)) ∧ w = w' := by
  have x0 : (0 : Int) ≤ (x.toNat : Int) := by omega
  have x1 : (x.toNat : Int) ≤ 4294967295 := by have := x.isLt; omega
  have y0 : (0 : Int) ≤ (y.toNat : Int) := by omega
  have y1 : (y.toNat : Int) ≤ 4294967295 := by have := y.isLt; omega
  have z0 : (0 : Int) ≤ ((pl x y).toNat : Int) := by omega
  have z1 : ((pl x y).toNat : Int) ≤ 4294967295 := by have := (pl x y).isLt; omega
  have e1 := add32 x y
  go_enter Tryz.func147, Tryz.ntmps147
  go_wp2
  go_ret
  exact ⟨rfl, rfl⟩
theorem rleft_any (x : BitVec 32) (n : Nat) (hn : n < 32) (w : World) : Calls Tryz.prog 148 #[.int .u32 (x.toNat : Int), .int .i64 n] w fun e w' => e = .returned (.int .u32 ((ro n x).toNat : Int)) ∧ w = w' := by
  have x0 : (0 : Int) ≤ (x.toNat : Int) := by omega
  have x1 : (x.toNat : Int) ≤ 4294967295 := by have := x.isLt; omega
  go_enter Tryz.func148, Tryz.ntmps148
  go_wp2_with fail
  go_loop [5, 6] (fun v i => ∃ k : Nat, k ≤ n ∧ i = .int .i64 k ∧ v = .int .i64 ((ro k x).toNat : Int)) (fun _ i => n - (intOf i).toNat)
  case atStart => exact ⟨0, Nat.zero_le _, rfl, by rw [ro_0]⟩
  case round =>
    obtain ⟨k, hk, rfl, rfl⟩ := hrel
    obtain ⟨v, hv⟩ : ∃ v : Nat, (ro k x).toNat = v := ⟨_, rfl⟩
    have hvl : v < 4294967296 := by rw [← hv]; exact (ro k x).isLt
    by_cases hlt : k < n
    · have hs := ro_succ k (by omega) x
      rw [hv] at hs ⊢
      have HS := Lib.hid hs; clear hs hv
      have v0 : (0 : Int) ≤ v := by omega
      have v1 : (v : Int) ≤ 4294967295 := by omega
      go_wp2
      go_round
      case rel => exact ⟨k + 1, by omega, by go_num, by rw [HS.out]; congr 1⟩
      case measure => simp [intOf]; omega
    · obtain rfl : k = n := by omega
      rw [hv]
      have v0 : (0 : Int) ≤ v := by omega
      have v1 : (v : Int) ≤ 4294967295 := by omega
      have HV := Lib.hid hv; clear hv
      go_wp2
      go_ret
      exact ⟨ret_int (by rw [HV.out]), rfl⟩

set_option maxHeartbeats 2000000 in
theorem rturn_any (x : W4) (w : World) : Calls Tryz.prog 137 #[ag x] w fun e w' => e = .returned (ag (turnW x)) ∧ Below w.heap.size w w' := by
  have r2 := xor32
  obtain ⟨a, b, c, d⟩ := x
  go_enter Tryz.func137, Tryz.ntmps137
  go_wp2_with fail
  refine (rplus_any _ _ _).mono ?_; rintro e w' ⟨rfl, rfl⟩
  go_wp2_with fail
  refine (rleft_any _ 15 (by omega) _).mono ?_; rintro e w' ⟨rfl, rfl⟩
  go_wp2_with fail
  refine (rplus_any _ _ _).mono ?_; rintro e w' ⟨rfl, rfl⟩
  go_wp2_with fail
  refine (rleft_any _ 11 (by omega) _).mono ?_; rintro e w' ⟨rfl, rfl⟩
  go_wp2_with fail
  refine (rplus_any _ _ _).mono ?_; rintro e w' ⟨rfl, rfl⟩
  go_wp2_with fail
  refine (rleft_any _ 9 (by omega) _).mono ?_; rintro e w' ⟨rfl, rfl⟩
  go_wp2_with fail
  refine (rplus_any _ _ _).mono ?_; rintro e w' ⟨rfl, rfl⟩
  go_wp2_with fail
  refine (rleft_any _ 6 (by omega) _).mono ?_; rintro e w' ⟨rfl, rfl⟩
  go_wp2_with fail
  exact bodyPost_ret (v := ag (turnW ⟨a, b, c, d⟩)) (by simp [results, Tryz.results137, go_sem, turnW, halfT]) rfl ⟨rfl, ((Below.refl _ w).alloc (Nat.le_refl _) _).alloc (by simp) _⟩
theorem rbyte_any (a : Option Addr) (len cap : Nat) (s : List UInt8) (i : Nat) (B : Nat) (w : World) (hA : Bsl w B a len cap s) (hi : i ≤ 1000000) (hl : len ≤ 1000000) :
    Calls Tryz.prog 146 #[.slice a len cap, .int .i64 i] w fun e w' => e = .returned (.int .u32 ((byteP s i).toNat : Int)) ∧ w = w' := by
  have hsl := hA.1
  have i0 : (0 : Int) ≤ i := by omega
  by_cases h1 : i < len
  · obtain ⟨b, off, rfl, hb, hc⟩ := hA.2.2.2.2 (by omega)
    have hcc := hc i (by omega)
    have e : byteP s i = s[i]'(by omega) := by unfold byteP; rw [dif_pos (by omega)]
    rw [e]
    obtain ⟨v, hv⟩ : ∃ v : Nat, (s[i]'(by omega)).toNat = v := ⟨_, rfl⟩
    rw [hv] at hcc ⊢
    have v0 : (0 : Int) ≤ v := by omega
    have v1 : (v : Int) ≤ 255 := by have := (s[i]'(by omega)).toNat_lt; omega
    have i1 : (i : Int) < len := by omega
    clear hv e hA hc hsl
    go_enter Tryz.func146, Tryz.ntmps146
    go_wp2
    go_ret
    exact ⟨rfl, rfl⟩
  · have i1 : ¬ (i : Int) < len := by omega
    by_cases h2 : i = len
    · have e : byteP s i = 1 := by unfold byteP; rw [dif_neg (by omega), if_pos (by omega)]
      rw [e]
      have i2 : ((i : Int) == len) = true := by simp; omega
      clear e hA hsl h1 h2
      go_enter Tryz.func146, Tryz.ntmps146
      go_wp2
      go_ret
      exact ⟨rfl, rfl⟩
    · have e : byteP s i = 0 := by unfold byteP; rw [dif_neg (by omega), if_neg (by omega)]
      rw [e]
      have i2 : ((i : Int) == len) = false := by simp; omega
      clear e hA hsl h1 h2
      go_enter Tryz.func146, Tryz.ntmps146
      go_wp2
      go_ret
      exact ⟨rfl, rfl⟩
theorem rword_any (a : Option Addr) (len cap : Nat) (s : List UInt8) (i : Nat) (B : Nat) (w : World) (hA : Bsl w B a len cap s) (hi : i + 3 ≤ 1000000) (hl : len ≤ 1000000) :
    Calls Tryz.prog 136 #[.slice a len cap, .int .i64 i] w fun e w' => e = .returned (.int .u32 ((wordP s i).toNat : Int)) ∧ w = w' := by
  rw [wordP_toNat]
  unfold quadP
  rw [leN4]
  have q0 := rbyte_any a len cap s i B w hA (by omega) hl
  have q1 := rbyte_any a len cap s (i + 1) B w hA (by omega) hl
  have q2 := rbyte_any a len cap s (i + 2) B w hA (by omega) hl
  have q3 := rbyte_any a len cap s (i + 3) B w hA (by omega) hl
  rw [show ((i + 1 : Nat) : Int) = (i : Int) + 1 by omega] at q1
  rw [show ((i + 2 : Nat) : Int) = (i : Int) + 2 by omega] at q2
  rw [show ((i + 3 : Nat) : Int) = (i : Int) + 3 by omega] at q3
  obtain ⟨b0, h0⟩ : ∃ b0 : Nat, (byteP s i).toNat = b0 := ⟨_, rfl⟩
  obtain ⟨b1, h1⟩ : ∃ b0 : Nat, (byteP s (i + 1)).toNat = b0 := ⟨_, rfl⟩
  obtain ⟨b2, h2⟩ : ∃ b0 : Nat, (byteP s (i + 2)).toNat = b0 := ⟨_, rfl⟩
  obtain ⟨b3, h3⟩ : ∃ b0 : Nat, (byteP s (i + 3)).toNat = b0 := ⟨_, rfl⟩
  have t0 := (byteP s i).toNat_lt
  have t1 := (byteP s (i + 1)).toNat_lt
  have t2 := (byteP s (i + 2)).toNat_lt
  have t3 := (byteP s (i + 3)).toNat_lt
  rw [h0] at t0 q0 ⊢
  rw [h1] at t1 q1 ⊢
  rw [h2] at t2 q2 ⊢
  rw [h3] at t3 q3 ⊢
  have u0 : (0 : Int) ≤ b0 := by omega
  have u1 : (0 : Int) ≤ b1 := by omega
  have u2 : (0 : Int) ≤ b2 := by omega
  have u3 : (0 : Int) ≤ b3 := by omega
  have v0 : (b0 : Int) ≤ 255 := by omega
  have v1 : (b1 : Int) ≤ 255 := by omega
  have v2 : (b2 : Int) ≤ 255 := by omega
  have v3 : (b3 : Int) ≤ 255 := by omega
  have i0 : (0 : Int) ≤ i := by omega
  have i1 : (i : Int) ≤ 1000000 := by omega
  have Q0 := Lib.hid q0; clear q0
  have Q1 := Lib.hid q1; clear q1
  have Q2 := Lib.hid q2; clear q2
  have Q3 := Lib.hid q3; clear q3
  clear h0 h1 h2 h3 hA
  go_enter Tryz.func136, Tryz.ntmps136
  go_wp2_with fail
  refine Q0.out.mono ?_; rintro e w' ⟨rfl, rfl⟩
  go_wp2_with fail
  refine Q1.out.mono ?_; rintro e w' ⟨rfl, rfl⟩
  go_wp2_with fail
  refine Q2.out.mono ?_; rintro e w' ⟨rfl, rfl⟩
  go_wp2_with fail
  refine Q3.out.mono ?_; rintro e w' ⟨rfl, rfl⟩
  go_wp2_with fail
  go_ret
  exact ⟨rfl, rfl⟩
end Go.Proofs.YtbggkfomfeeikaaGreatDoor
/-
  What the document's own Four, Sum and Key answer is what mix.Four, Sum and Key answer.
-/
namespace Go.Proofs.YtbggkfomfeeikaaGreatDoor
open Go.RowKit Go.Shelf
set_option maxRecDepth 100000

set_option maxHeartbeats 4000000 in
theorem rfour_any (a : Option Addr) (len cap : Nat) (s : List UInt8) (w : World) (hA : Bsl w w.heap.size a len cap s) (hl : len ≤ 100000) :
    Calls Tryz.prog 119 #[.slice a len cap] w fun e w' => e = .returned (ag (fourW s)) ∧ Below w.heap.size w w' := by
  have hmx : Tryz.prog.follows Departure.mixedOrders = true := by kernel_rfl
  have r2 := xor32
  have l0 : (0 : Int) ≤ len := by omega
  have l1 : (len : Int) ≤ 100000 := by omega
  obtain ⟨g, hg⟩ : ∃ g, w.heap.size = g := ⟨_, rfl⟩
  obtain ⟨W0, hW0⟩ : ∃ W0, ((w.alloc (Obj.cells #[Value.int IntKind.u32 0, Value.int IntKind.u32 0, Value.int IntKind.u32 0, Value.int IntKind.u32 0] 135)).alloc (Obj.cells #[Value.int IntKind.u32 1, Value.int IntKind.u32 2, Value.int IntKind.u32 3, Value.int IntKind.u32 4] 135)) = W0 := ⟨_, rfl⟩
  have hB0 : Below w.heap.size w W0 := by rw [← hW0]; exact ((Below.refl _ w).alloc (Nat.le_refl _) _).alloc (by simp) _
  have b0 : Blk W0 g 135 #[.int .u32 0, .int .u32 0, .int .u32 0, .int .u32 0] := by rw [← hW0, ← hg]; exact (Blk.new w _ _).alloc _
  have b1 : Blk W0 (g + 1) 135 (cl ⟨1, 2, 3, 4⟩) := by
    have := (Blk.new (w.alloc (Obj.cells #[Value.int IntKind.u32 0, Value.int IntKind.u32 0, Value.int IntKind.u32 0, Value.int IntKind.u32 0] 135)) 135 (cl ⟨1, 2, 3, 4⟩))
    rw [World.size_alloc, hg] at this
    rw [← hW0]
    exact this
  have wd : ∀ (i : Nat) (W : World), i ≤ 200000 → Below w.heap.size w W → Calls Tryz.prog 136 #[.slice a len cap, .int .i64 i] W fun e w' => e = .returned (.int .u32 ((wordP s i).toNat : Int)) ∧ w' = W := fun i W hi hW =>
    (rword_any a len cap s i _ W (hA.below hW) (by omega) (by omega)).mono fun _ _ h => ⟨h.1, h.2.symm⟩
  have hsl := hA.1
  have WD := Lib.hid wd; clear wd hA
  have HSL := Lib.hid hsl; clear hsl
  have HW0 := Lib.hid hW0; clear hW0
  have HBe := Lib.hid hB0; clear hB0
  have HB0 := Lib.hid b0; clear b0
  have HB1 := Lib.hid b1; clear b1
  go_enter Tryz.func119, Tryz.ntmps119
  go_wp2_with fail
  rw [HW0.out]
  have HG := Lib.hid hg; clear hg
  go_loopw [4] (fun i wr => ∃ k : Nat, k ≤ len / 8 + 1 ∧ i = .int .i64 ((8 * k : Nat) : Int) ∧ Blk wr (g + 1) 135 (cl (behind s k)) ∧ Blk wr g 135 #[.int .u32 0, .int .u32 0, .int .u32 0, .int .u32 0] ∧ Below w.heap.size w wr) (fun i _ => 200000 - (intOf i).toNat)
  case atStart => exact ⟨0, Nat.zero_le _, rfl, HB1.out, HB0.out, HBe.out⟩
  case round =>
    obtain ⟨k, hk, rfl, hx, hr, hbe⟩ := hrel
    obtain ⟨m, hm⟩ : ∃ m : Nat, 8 * k = m := ⟨_, rfl⟩
    rw [hm]
    have m0 : (0 : Int) ≤ m := by omega
    have m1 : (m : Int) ≤ 200000 := by omega
    by_cases hlt : m ≤ len
    · have m2 : (m : Int) ≤ len := by omega
      have m3 : IntKind.i64.wrap ((m : Int) + 4) = (m : Int) + 4 := IntWalk.i64_in _ (by omega)
      obtain ⟨x, hxx⟩ : ∃ x, behind s k = x := ⟨_, rfl⟩
      rw [hxx] at hx
      obtain ⟨p1, hp1⟩ : ∃ p1, wordP s m = p1 := ⟨_, rfl⟩
      obtain ⟨p2, hp2⟩ : ∃ p2, wordP s (m + 4) = p2 := ⟨_, rfl⟩
      have hnx : behind s (k + 1) = turnsW 4 ⟨xo x.a p1, x.b, xo x.c p2, x.d⟩ := by rw [behind, hxx, hm, hp1, hp2]; rfl
      obtain ⟨w1, hw1⟩ : ∃ w1, wr.drew = w1 := ⟨_, rfl⟩
      have hx1 : Blk w1 (g + 1) 135 (cl x) := hw1 ▸ hx.drew
      have hr1 : Blk w1 g 135 _ := hw1 ▸ hr.drew
      have he1 : Below w.heap.size w w1 := hw1 ▸ hbe.drew
      have q1 := WD.out m w1 (by omega) he1
      rw [hp1] at q1
      have HM := Lib.hid hm; clear hm
      have HNX := Lib.hid hnx; clear hnx hxx
      have HP2 := Lib.hid hp2; clear hp2 hp1
      have c0 := hx1.cell 0
      have f := fun i => hx1.frozen i
      have HW1 := Lib.hid hw1; clear hw1
      have HX1 := Lib.hid hx1; clear hx1
      have HR1 := Lib.hid hr1; clear hr1
      have HE1 := Lib.hid he1; clear he1
      have Q1 := Lib.hid q1; clear q1
      clear hx hr hbe
      go_wp2_with fail
      refine region_tail 7 hmx (by kernel_rfl) HW1.out ?_
      simp only [List.take_succ_cons, List.take_zero, List.drop_succ_cons, List.drop_zero]
      repeat still_step
      still_call (Q1.out)
      repeat still_step
      refine wpStill_nil ?_
      go_wp2_with fail
      obtain ⟨w2, hw2⟩ : ∃ w2, (w1.setCell ⟨g + 1, 0, none⟩ (.int .u32 ((xo x.a p1).toNat : Int))).drew = w2 := ⟨_, rfl⟩
      have hx2 : Blk w2 (g + 1) 135 (cl ⟨xo x.a p1, x.b, x.c, x.d⟩) := hw2 ▸ (HX1.out.set_ 0 _).drew
      have hr2 : Blk w2 g 135 _ := hw2 ▸ (HR1.out.far (by simp) _).drew
      have he2 : Below w.heap.size w w2 := hw2 ▸ (HE1.out.setCell (p := ⟨g + 1, 0, none⟩) (by rw [HG.out]; simp) _).drew
      have q2 := WD.out (m + 4) w2 (by omega) he2
      rw [HP2.out, show ((m + 4 : Nat) : Int) = (m : Int) + 4 by omega] at q2
      clear c0 f
      have c0 := hx2.cell 0
      have c1 := hx2.cell 1
      have c2 := hx2.cell 2
      have c3 := hx2.cell 3
      have f := fun i => hx2.frozen i
      have HW2 := Lib.hid hw2; clear hw2
      have HX2 := Lib.hid hx2; clear hx2
      have HR2 := Lib.hid hr2; clear hr2
      have HE2 := Lib.hid he2; clear he2
      have Q2 := Lib.hid q2; clear q2
      refine region_tail 8 hmx (by kernel_rfl) HW2.out ?_
      simp only [List.take_succ_cons, List.take_zero, List.drop_succ_cons, List.drop_zero]
      repeat still_step
      still_call (Q2.out)
      repeat still_step
      refine wpStill_nil ?_
      go_wp2_with fail
      obtain ⟨w3, hw3⟩ : ∃ w3, w2.setCell ⟨g + 1, 2, none⟩ (.int .u32 ((xo x.c p2).toNat : Int)) = w3 := ⟨_, rfl⟩
      have hr3 : Blk w3 g 135 _ := hw3 ▸ HR2.out.far (by simp) _
      have hx3 : Blk w3 (g + 1) 135 (cl ⟨xo x.a p1, x.b, xo x.c p2, x.d⟩) := hw3 ▸ HX2.out.set_ 2 _
      have he3 : Below w.heap.size w w3 := hw3 ▸ HE2.out.setCell (p := ⟨g + 1, 2, none⟩) (by rw [HG.out]; simp) _
      rw [hw3]
      obtain ⟨y, hy⟩ : ∃ y : W4, (⟨xo x.a p1, x.b, xo x.c p2, x.d⟩ : W4) = y := ⟨_, rfl⟩
      have HNY : Hid (behind s (k + 1) = turnsW 4 y) := Lib.hid (by rw [HNX.out, hy])
      rw [hy] at hx3
      have ey : (Value.agg #[.int .u32 ((xo x.a p1).toNat : Int), .int .u32 (x.b.toNat : Int), .int .u32 ((xo x.c p2).toNat : Int), .int .u32 (x.d.toNat : Int)]) = ag y := by rw [← hy]
      clear hw3 c0 c1 c2 c3 f
      refine (rturn_any ⟨xo x.a p1, x.b, xo x.c p2, x.d⟩ w3).mono ?_
      rintro e w4 ⟨rfl, b4⟩
      rw [hy]
      clear hy ey
      have HX3 := Lib.hid (hx3.below b4 hx3.lt)
      have HR3 := Lib.hid (hr3.below b4 hr3.lt)
      have HE3 := Lib.hid (he3.trans (b4.mono he3.size)); clear hx3 hr3 he3 b4
      go_wp2_with fail
      refine (rturn_any (turnW y) w4).mono ?_
      rintro e w5 ⟨rfl, b5⟩
      have HX4 := Lib.hid (HX3.out.below b5 HX3.out.lt)
      have HR4 := Lib.hid (HR3.out.below b5 HR3.out.lt)
      have HE4 := Lib.hid (HE3.out.trans (b5.mono HE3.out.size)); clear b5
      go_wp2_with fail
      refine (rturn_any (turnW (turnW y)) w5).mono ?_
      rintro e w6 ⟨rfl, b6⟩
      have HX5 := Lib.hid (HX4.out.below b6 HX4.out.lt)
      have HR5 := Lib.hid (HR4.out.below b6 HR4.out.lt)
      have HE5 := Lib.hid (HE4.out.trans (b6.mono HE4.out.size)); clear b6
      go_wp2_with fail
      refine (rturn_any (turnW (turnW (turnW y))) w6).mono ?_
      rintro e w7 ⟨rfl, b7⟩
      have hx6 := HX5.out.below b7 HX5.out.lt
      have HR6 := Lib.hid (HR5.out.below b7 HR5.out.lt)
      have HE6 := Lib.hid (HE5.out.trans (b7.mono HE5.out.size)); clear b7
      obtain ⟨z, hz⟩ : ∃ z, turnW (turnW (turnW (turnW y))) = z := ⟨_, rfl⟩
      rw [hz]
      have HNZ : Hid (behind s (k + 1) = z) := Lib.hid (by rw [HNY.out, ← hz]; rfl)
      clear hz
      have c0 := hx6.cell 0
      have c1 := hx6.cell 1
      have c2 := hx6.cell 2
      have c3 := hx6.cell 3
      have f := fun i => hx6.frozen i
      have HX6 := Lib.hid hx6; clear hx6
      go_wp2_with fail
      go_roundw
      case rel => exact ⟨k + 1, by have := HM.out; omega, by have := HM.out; congr 1; omega, by rw [HNZ.out]; exact HX6.out.set4 _ _ _ _, (((HR6.out.far (by simp) _).far (by simp) _).far (by simp) _).far (by simp) _, below_set4 HE6.out (by rw [HG.out]; omega) _ _ _ _⟩
      case measure => simp [intOf]; omega
    · have hkk : k = len / 8 + 1 := by omega
      obtain ⟨x, hxx⟩ : ∃ x, behind s k = x := ⟨_, rfl⟩
      rw [hxx] at hx
      have hfw : fourW s = turnsW 8 ⟨x.a, xo x.b (BitVec.ofNat 32 len), x.c, x.d⟩ := by
        unfold fourW
        rw [HSL.out, ← hkk, hxx]
      have hxl : ∀ x : BitVec 32, bits .xor .u32 (x.toNat : Int) (len : Int) = ((xo x (BitVec.ofNat 32 len)).toNat : Int) := fun x => by
        have e : (BitVec.ofNat 32 len).toNat = len := by rw [BitVec.toNat_ofNat]; exact Nat.mod_eq_of_lt (by omega)
        have := xor32 x (BitVec.ofNat 32 len)
        rwa [e] at this
      have HFW := Lib.hid hfw; clear hfw hxx hkk
      have m2 : ¬ (m : Int) ≤ len := by omega
      have c0 := hx.cell 0
      have c1 := hx.cell 1
      have c2 := hx.cell 2
      have c3 := hx.cell 3
      have f := fun i => hx.frozen i
      have HM := Lib.hid hm; clear hm
      have HX := Lib.hid hx; clear hx
      have HR := Lib.hid hr; clear hr
      have HE := Lib.hid hbe; clear hbe
      go_wp2_with fail
      obtain ⟨w3, hw3⟩ : ∃ w3, wr.setCell ⟨g + 1, 1, none⟩ (.int .u32 ((xo x.b (BitVec.ofNat 32 len)).toNat : Int)) = w3 := ⟨_, rfl⟩
      have hr3 : Blk w3 g 135 _ := hw3 ▸ HR.out.far (by simp) _
      have hx3 : Blk w3 (g + 1) 135 (cl ⟨x.a, xo x.b (BitVec.ofNat 32 len), x.c, x.d⟩) := hw3 ▸ HX.out.set_ 1 _
      have he3 : Below w.heap.size w w3 := hw3 ▸ HE.out.setCell (p := ⟨g + 1, 1, none⟩) (by rw [HG.out]; simp) _
      rw [hw3]
      obtain ⟨y, hy⟩ : ∃ y : W4, (⟨x.a, xo x.b (BitVec.ofNat 32 len), x.c, x.d⟩ : W4) = y := ⟨_, rfl⟩
      have HNY : Hid (fourW s = turnsW 8 y) := Lib.hid (by rw [HFW.out, hy])
      rw [hy] at hx3
      clear hw3 c0 c1 c2 c3 f
      refine (rturn_any ⟨x.a, xo x.b (BitVec.ofNat 32 len), x.c, x.d⟩ w3).mono ?_
      rintro e w4 ⟨rfl, b4⟩
      rw [hy]
      clear hy
      have HX4 := Lib.hid (hx3.below b4 hx3.lt)
      have HR4 := Lib.hid (hr3.below b4 hr3.lt)
      have HE4 := Lib.hid (he3.trans (b4.mono he3.size)); clear hx3 hr3 he3 b4
      go_wp2_with fail
      refine (rturn_any (turnW y) w4).mono ?_
      rintro e w5 ⟨rfl, bb⟩
      have HX5 := Lib.hid (HX4.out.below bb HX4.out.lt)
      have HR5 := Lib.hid (HR4.out.below bb HR4.out.lt)
      have HE5 := Lib.hid (HE4.out.trans (bb.mono HE4.out.size)); clear bb
      go_wp2_with fail
      refine (rturn_any (turnW (turnW y)) w5).mono ?_
      rintro e w6 ⟨rfl, bb⟩
      have HX6 := Lib.hid (HX5.out.below bb HX5.out.lt)
      have HR6 := Lib.hid (HR5.out.below bb HR5.out.lt)
      have HE6 := Lib.hid (HE5.out.trans (bb.mono HE5.out.size)); clear bb
      go_wp2_with fail
      refine (rturn_any (turnW (turnW (turnW y))) w6).mono ?_
      rintro e w7 ⟨rfl, bb⟩
      have HX7 := Lib.hid (HX6.out.below bb HX6.out.lt)
      have HR7 := Lib.hid (HR6.out.below bb HR6.out.lt)
      have HE7 := Lib.hid (HE6.out.trans (bb.mono HE6.out.size)); clear bb
      obtain ⟨z, hz⟩ : ∃ z, turnW (turnW (turnW (turnW y))) = z := ⟨_, rfl⟩
      rw [hz]
      have HNZ : Hid (fourW s = turnsW 4 z) := Lib.hid (by rw [HNY.out, ← hz]; rfl)
      clear hz
      have c0 := HX7.out.cell 0
      have c1 := HX7.out.cell 1
      have c2 := HX7.out.cell 2
      have c3 := HX7.out.cell 3
      have f := fun i => HX7.out.frozen i
      go_wp2_with fail
      obtain ⟨w8, hw8⟩ : ∃ w8, ((((w7.setCell ⟨g + 1, 0, none⟩ (.int .u32 (z.a.toNat : Int))).setCell ⟨g + 1, 1, none⟩ (.int .u32 (z.b.toNat : Int))).setCell ⟨g + 1, 2, none⟩ (.int .u32 (z.c.toNat : Int))).setCell ⟨g + 1, 3, none⟩ (.int .u32 (z.d.toNat : Int))) = w8 := ⟨_, rfl⟩
      have hr8 : Blk w8 g 135 _ := hw8 ▸ (((HR7.out.far (by simp) _).far (by simp) _).far (by simp) _).far (by simp) _
      have he8 : Below w.heap.size w w8 := hw8 ▸ below_set4 HE7.out (by rw [HG.out]; omega) _ _ _ _
      rw [hw8]
      clear hw8 c0 c1 c2 c3 f
      have HR8 := Lib.hid hr8; clear hr8
      have HE8 := Lib.hid he8; clear he8
      refine (rturn_any z w8).mono ?_
      rintro e w9 ⟨rfl, bb⟩
      have HR9 := Lib.hid (HR8.out.below bb HR8.out.lt)
      have HE9 := Lib.hid (HE8.out.trans (bb.mono HE8.out.size)); clear bb
      go_wp2_with fail
      refine (rturn_any (turnW z) w9).mono ?_
      rintro e w10 ⟨rfl, bb⟩
      have HR10 := Lib.hid (HR9.out.below bb HR9.out.lt)
      have HE10 := Lib.hid (HE9.out.trans (bb.mono HE9.out.size)); clear bb
      go_wp2_with fail
      refine (rturn_any (turnW (turnW z)) w10).mono ?_
      rintro e w11 ⟨rfl, bb⟩
      have HR11 := Lib.hid (HR10.out.below bb HR10.out.lt)
      have HE11 := Lib.hid (HE10.out.trans (bb.mono HE10.out.size)); clear bb
      go_wp2_with fail
      refine (rturn_any (turnW (turnW (turnW z))) w11).mono ?_
      rintro e w12 ⟨rfl, bb⟩
      have HR12 := Lib.hid (HR11.out.below bb HR11.out.lt)
      have HE12 := Lib.hid (HE11.out.trans (bb.mono HE11.out.size)); clear bb
      obtain ⟨v, hv⟩ : ∃ v, turnW (turnW (turnW (turnW z))) = v := ⟨_, rfl⟩
      rw [hv]
      have HNV : Hid (fourW s = v) := Lib.hid (by rw [HNZ.out, ← hv]; rfl)
      clear hv
      have d0 := HR12.out.cell 0
      have d1 := HR12.out.cell 1
      have d2 := HR12.out.cell 2
      have d3 := HR12.out.cell 3
      have f := fun i => HR12.out.frozen i
      go_wp2_with fail
      have hR := HR12.out.set4 (.int .u32 (v.a.toNat : Int)) (.int .u32 (v.b.toNat : Int)) (.int .u32 (v.c.toNat : Int)) (.int .u32 (v.d.toNat : Int))
      have e0 := hR.cell 0
      have e1 := hR.cell 1
      have e2 := hR.cell 2
      have e3 := hR.cell 3
      have E := below_set4 HE12.out (g := g) (by rw [HG.out]; exact Nat.le_refl _) (.int .u32 (v.a.toNat : Int)) (.int .u32 (v.b.toNat : Int)) (.int .u32 (v.c.toNat : Int)) (.int .u32 (v.d.toNat : Int))
      clear hR
      exact bodyPost_ret (v := ag v) (by simp [results, Tryz.results119, go_sem, e0, e1, e2, e3]) rfl ⟨by rw [HNV.out], E⟩

theorem rsum_any (a : Option Addr) (len cap : Nat) (s : List UInt8) (w : World) (hA : Bsl w w.heap.size a len cap s) (hlen : len ≤ 100000) :
    Calls Tryz.prog 88 #[.slice a len cap] w fun e W' => e = .returned (.int .u32 ((fourW s).a.toNat : Int)) ∧ Below w.heap.size w W' := by
  have hf := rfour_any a len cap s w hA hlen
  have HF := Lib.hid hf; clear hf hA
  obtain ⟨x, hx⟩ : ∃ x, fourW s = x := ⟨_, rfl⟩
  rw [hx] at HF ⊢
  clear hx
  have hi : ∀ W : World, (Instr.index 135 (ag x) (.int .i64 0)).run Tryz.prog W = .ok (.int .u32 (x.a.toNat : Int)) W := fun W => by kernel_rfl
  go_enter Tryz.func88, Tryz.ntmps88
  go_wp2_with fail
  refine HF.out.mono ?_
  rintro e W1 ⟨rfl, b1⟩
  have HB := Lib.hid b1; clear b1
  go_wp2_with fail
  go_ret
  exact ⟨rfl, HB.out⟩
end Go.Proofs.YtbggkfomfeeikaaGreatDoor
/-
  The document's own Put of layer 13: a block is laid, if there is room.
-/
namespace Go.Proofs.YtbggkfomfeeikaaGreatDoor
open Go.RowKit Go.Shelf
set_option maxRecDepth 100000

theorem rsumOf_any (a : Option Addr) (len cap : Nat) (s : List UInt8) (w : World) (hA : Bsl w w.heap.size a len cap s) (hlen : len ≤ 100000) : Calls Tryz.prog 88 #[.slice a len cap] w fun e W' => e = .returned (.int .u32 ((sumOf s : Nat) : Int)) ∧ Below w.heap.size w W' := rsum_any a len cap s w hA hlen
end Go.Proofs.YtbggkfomfeeikaaGreatDoor
/-
  The document's own Seen, Look, Opened and Open of layer 13.
-/
namespace Go.Proofs.YtbggkfomfeeikaaGreatDoor
open Go.RowKit Go.Shelf
set_option maxRecDepth 100000

/-- The cells of a pointer. -/
abbrev ptA (p : Pt) : Array Value := #[.int .i64 p.1, .int .u32 (p.2.1 : Int), .int .u32 (p.2.2.1 : Int), .int .u32 (p.2.2.2.1 : Int), .int .u32 (p.2.2.2.2 : Int)]
theorem outBE_no (c : Nat) {w w' : World} (hb : Below w.heap.size w w') : OutBE ([], c) w (.returned (.tuple #[.slice none 0 0, .int .i64 c])) w' := ⟨_, rfl, World.ownsRow_nil _ _ _ _, hb⟩
theorem seenO_len {S : StL} {p : Pt} (hm : MayS S) (hp : MayP p) {B : List UInt8} (h : seenO S p = (B, 0)) : B.length = 256 := by
  unfold seenO at h
  split at h
  · cases h
  · rename_i hp0
    obtain ⟨k, h1, _, h2⟩ := mayP_at hp hp0
    split at h
    · cases h
      rw [show p.1.toNat = k by omega]
      exact leftD_length hm.1 _ h2
    · cases h
set_option maxHeartbeats 4000000 in
theorem rtSeen_any (L : Nat) (x : SAt) (S : StL) (p : Pt) (w : World) (h : StP L w x S) (hm : MayS S) (hmp : MayP p) (_hL : L ≤ w.heap.size) : Calls Tryz.prog 60 #[stV x S, ptV p] w (OutBE (seenO S p) w) := by
  have hmx : Tryz.prog.follows Departure.mixedOrders = true := by kernel_rfl
  obtain ⟨w0, hw0, b0, z0, x0, q0⟩ := two_al w (stC x S) (ptA p) 30 32
  obtain ⟨g, hg⟩ : ∃ g, w.heap.size = g := ⟨_, rfl⟩
  obtain ⟨g1, hg1⟩ : ∃ g1, g + 1 = g1 := ⟨_, rfl⟩
  have h0 := h.bel b0
  have hn := rpNone_any p w0
  rw [hg] at x0 q0 z0 b0
  rw [hg1] at q0
  have c0 := stC0 x0
  have c1 := stC1 x0
  have c2 := stC2 x0
  have c3 := stC3 x0
  have c4 := stC4 x0
  have d0 := bx0 q0
  have d1 := bx1 q0
  have d2 := bx2 q0
  have d3 := bx3 q0
  have d4 := bx4 q0
  have HX := Lib.hid x0
  have HQ := Lib.hid q0
  have HB := Lib.hid b0
  have HS := Lib.hid h0
  have HG := Lib.hid hg
  have HW := Lib.hid (show g ≤ w0.heap.size by omega)
  simp only [stC, ptA] at hw0
  clear h h0 x0 q0 b0 z0
  unfold seenO
  by_cases hp : p = p0
  · rw [if_pos hp]
    have he : eqP p p0 = true := (eqP_iff p p0).2 hp
    rw [he] at hn
    have HN := Lib.hid hn
    clear hn he hp hm hmp
    go_enter Tryz.func60, Tryz.ntmps60
    go_wp2_with fail
    clear c0 c1 c2 c3 c4 d0 d1 d2 d3 d4 hw0
    refine HN.out.mono ?_
    rintro e w1 ⟨rfl, b1⟩
    replace HX := Lib.hid (HX.out.below b1 HX.out.lt)
    replace HQ := Lib.hid (HQ.out.below b1 HQ.out.lt)
    replace HS := Lib.hid (HS.out.bel b1)
    replace HB := Lib.hid (HB.out.trans (b1.mono HW.out))
    replace HW := Lib.hid (Nat.le_trans HW.out b1.size)
    clear b1
    go_wp2_with fail
    go_ret2
    exact outBE_no 6 (by rw [HG.out]; exact HB.out)
  · rw [if_neg hp]
    have he : eqP p p0 = false := by
      cases hq : eqP p p0 with
      | false => rfl
      | true => exact absurd ((eqP_iff p p0).1 hq) hp
    rw [he] at hn
    have HN := Lib.hid hn
    obtain ⟨k, hk, k12, k256⟩ := mayP_at hmp hp
    have hkt : p.1.toNat = k := by omega
    rw [hkt]
    have hln := leftD_length hm.1 (fun _ => true) k256
    obtain ⟨B, hBk⟩ : ∃ B, seenS S k = B := ⟨_, rfl⟩
    have hln2 : B.length = 256 := by rw [← hBk]; exact hln
    rw [hBk]
    obtain ⟨O, hO⟩ : ∃ O, (if sumOf B = p.2.2.2.2 then (B, 0) else ([], 130) : List UInt8 × Nat) = O := ⟨_, rfl⟩
    rw [hO]
    have HOO := Lib.hid hO
    have hsn : ∀ W, StP L W x S → Calls Tryz.prog 87 #[dval x.d S.1, .int .i64 k] W (OwnS B W) := fun W hs => by
      have := rdSeen_any x.d S.1 k W hs.now.1 (by rw [hm.1.1.1]; exact k256) (by rw [hln]; omega)
      rw [show leftD S.1 (fun _ => true) k = B from hBk] at this
      exact this
    simp only [dval] at hsn
    have HSN := Lib.hid hsn
    have HL2 := Lib.hid hln2
    have HKK := Lib.hid hk
    clear hn he hp hm hmp hk hkt hln hsn hln2 hBk hO
    go_enter Tryz.func60, Tryz.ntmps60
    go_wp2_with fail
    clear c0 c1 c2 c3 c4 d0 d1 d2 d3 d4 hw0
    refine HN.out.mono ?_
    rintro e w1 ⟨rfl, b1⟩
    replace HX := Lib.hid (HX.out.below b1 HX.out.lt)
    replace HQ := Lib.hid (HQ.out.below b1 HQ.out.lt)
    replace HS := Lib.hid (HS.out.bel b1)
    replace HB := Lib.hid (HB.out.trans (b1.mono HW.out))
    replace HW := Lib.hid (Nat.le_trans HW.out b1.size)
    clear b1 HN
    have c0 := stC0 HX.out
    have c1 := stC1 HX.out
    have d0 := bx0 HQ.out
    rw [HKK.out] at d0
    go_wp2_with fail
    clear c0 c1 d0
    refine (HSN.out w1 HS.out).mono ?_
    rintro e w2 ⟨v, rfl, ho, b2⟩
    rw [HL2.out] at ho
    obtain ⟨ab, cb, rfl⟩ := own_slice ho
    have HO := Lib.hid ho
    replace HX := Lib.hid (HX.out.below b2 HX.out.lt)
    replace HQ := Lib.hid (HQ.out.below b2 HQ.out.lt)
    replace HS := Lib.hid (HS.out.bel b2)
    replace HB := Lib.hid (HB.out.trans (b2.mono HW.out))
    replace HW := Lib.hid (Nat.le_trans HW.out b2.size)
    clear b2 ho HSN
    go_wp2_with fail
    obtain ⟨wd, hwd⟩ : ∃ wd, w2.drew = wd := ⟨_, rfl⟩
    have bb : Below w2.heap.size w2 wd := by rw [← hwd]; exact (Below.refl _ w2).drew
    replace HO := Lib.hid (own_below HO.out bb)
    replace HX := Lib.hid (HX.out.below bb HX.out.lt)
    replace HQ := Lib.hid (HQ.out.below bb HQ.out.lt)
    replace HS := Lib.hid (HS.out.bel bb)
    replace HB := Lib.hid (HB.out.trans (bb.mono HW.out))
    replace HW := Lib.hid (Nat.le_trans HW.out bb.size)
    clear bb
    have HSU := Lib.hid (rsumOf_any ab 256 cb B wd (own_bsl HO.out) (by omega))
    have hc4 := bx4 HQ.out
    obtain ⟨u, hu⟩ : ∃ u : Nat, p.2.2.2.2 = u := ⟨_, rfl⟩
    obtain ⟨m, hmm⟩ : ∃ m : Nat, sumOf B = m := ⟨_, rfl⟩
    rw [hu] at hc4
    rw [hmm] at HSU
    have HO5 := HOO.out
    rw [hu, hmm] at HO5
    refine wpI_start (fun X => X.cell? ⟨g1, 4, none⟩ = some (.int .u32 (u : Int))) [0, 2, 3, 1, 4] hmx rfl hwd ?_
    clear hu hmm hwd
    have HO5' := Lib.hid HO5
    clear HO5
    iterate 3 (
      refine wpI_read (v := ?_) hc4 rfl (by kernel_rfl) (by kernel_rfl) (by kernel_rfl) (fun _ _ _ h => h) (.inl ⟨by rfl, ?_⟩) ?_
      rotate_left
      · intro X hX
        go_simp
        with_reducible rfl
      try simp only [Act.put, List.setIfInBounds_toArray, List.set_cons_zero, List.set_cons_succ])
    refine wpI_lone rfl (by kernel_rfl) (fun K hK => ?_)
    go_simp
    refine HSU.out.mono ?_
    rintro ev w3 ⟨rfl, b3⟩
    have hc5 : w3.cell? ⟨g1, 4, none⟩ = some (.int .u32 (u : Int)) := (b3.cell (p := ⟨g1, 4, none⟩) HQ.out.lt).trans hc4
    replace HO := Lib.hid (own_below HO.out b3)
    replace HX := Lib.hid (HX.out.below b3 HX.out.lt)
    replace HQ := Lib.hid (HQ.out.below b3 HQ.out.lt)
    replace HS := Lib.hid (HS.out.bel b3)
    replace HB := Lib.hid (HB.out.trans (b3.mono HW.out))
    replace HW := Lib.hid (Nat.le_trans HW.out b3.size)
    refine hK _ _ hc5 ?_
    clear hK K hc4 b3 HSU
    try simp only [Act.put, List.setIfInBounds_toArray, List.set_cons_zero, List.set_cons_succ]
    by_cases hmu : m = u
    · have HO5 := HO5'.out
      rw [if_pos hmu] at HO5
      subst HO5
      have he : ((m : Int) != (u : Int)) = false := by simp; omega
      clear hmu
      iterate 1 (
        refine wpI_read (v := ?_) hc5 rfl (by kernel_rfl) (by kernel_rfl) (by kernel_rfl) (fun _ _ _ h => h) (.inl ⟨by rfl, ?_⟩) ?_
        rotate_left
        · intro X hX
          go_simp
          with_reducible rfl
        try simp only [Act.put, List.setIfInBounds_toArray, List.set_cons_zero, List.set_cons_succ])
      refine wpI_done (by kernel_rfl) ?_
      have HO0 := Lib.hid (own_nil w3 w3.heap.size)
      have HRF := Lib.hid (Below.refl w3.heap.size w3)
      clear he hc5
      go_wp2_with (at_builtin
                   refine wpList_append_bsl rfl (.const (.slice none 0 0)) (.tmp 19) rfl w3.heap.size _ 0 _ rfl HO0.out _ ab 256 cb B rfl (own_bsl HO.out) (by omega) HRF.out.size ?_
                   intro v4 w4 ho4 hg4
                   rw [Nat.zero_add, List.nil_append] at ho4
                   have b4 := app_below HRF.out HO0.out hg4 HRF.out.size; clear hg4
                   have HO4 := Lib.hid (own_mono ho4 HW.out)
                   have HB4 := Lib.hid (HB.out.trans (b4.mono HW.out))
                   clear ho4 b4)
      go_ret2
      exact ⟨_, rfl, by rw [HG.out, HL2.out]; exact HO4.out, by rw [HG.out]; exact HB4.out⟩
    · have HO5 := HO5'.out
      rw [if_neg hmu] at HO5
      subst HO5
      have he : ((m : Int) != (u : Int)) = true := by simp; omega
      clear hmu
      iterate 1 (
        refine wpI_read (v := ?_) hc5 rfl (by kernel_rfl) (by kernel_rfl) (by kernel_rfl) (fun _ _ _ h => h) (.inl ⟨by rfl, ?_⟩) ?_
        rotate_left
        · intro X hX
          go_simp
          with_reducible rfl
        try simp only [Act.put, List.setIfInBounds_toArray, List.set_cons_zero, List.set_cons_succ])
      refine wpI_done (by kernel_rfl) ?_
      clear he hc5
      go_wp2_with fail
      go_ret2
      exact outBE_no 130 (by rw [HG.out]; exact HB.out)
end Go.Proofs.YtbggkfomfeeikaaGreatDoor
/-
  Store's own: wrong, wrongToSeal, wrongPtr, with; nothing that was there is written.
-/
namespace Go.Proofs.YtbggkfomfeeikaaGreatDoor
open Go.RowKit Go.Shelf
set_option maxRecDepth 100000

/-- What is wrong with a store or a pointer. -/
noncomputable def wrongPO (S : StL) (p : Pt) : Nat := open Classical in if MayS S ∧ MayP p then if p = p0 then 6 else 0 else 8
set_option maxHeartbeats 1000000 in
theorem stWrongPtr_any (L : Nat) (x : SAt) (S : StL) (p : Pt) (w : World) (h : StP L w x S) (z : Nat) (hz : wrongPO S p = z) : Calls Tryz.prog 79 #[stV x S, ptV p] w fun e w' => e = .returned (.int .i64 (z : Int)) ∧ Below w.heap.size w w' := by
  obtain ⟨w0, hw0, b0, z0, x0, q0⟩ := two_al w (stC x S) (ptA p) 30 32
  have h0 := h.bel b0
  have c0 := stC0 x0
  have c1 := stC1 x0
  have c2 := stC2 x0
  have c3 := stC3 x0
  have c4 := stC4 x0
  have d0 := bx0 q0
  have d1 := bx1 q0
  have d2 := bx2 q0
  have d3 := bx3 q0
  have d4 := bx4 q0
  have HQ := Lib.hid q0
  have HB := Lib.hid b0
  have HMY := fun R hR => stMayBe_any L x S w0 h0 R hR
  have hpm := fun W => Check_any p W
  simp only [stC, ptA] at hw0
  clear h h0 x0 q0 b0 z0
  unfold wrongPO at hz
  by_cases hms : MayS S
  · have HM := Lib.hid (HMY true ⟨fun _ => hms, fun _ => rfl⟩)
    clear HMY
    by_cases hmp : MayP p
    · rw [if_pos ⟨hms, hmp⟩] at hz
      rw [show pcheckO p = 0 by unfold pcheckO; rw [if_pos hmp]] at hpm
      have HC := Lib.hid hpm
      clear hpm hms hmp
      by_cases hp : p = p0
      · rw [if_pos hp] at hz
        have he : eqP p p0 = true := (eqP_iff p p0).2 hp
        subst hz
        clear hp
        obtain ⟨pa, pb, pc, pd, pe⟩ := p
        have heq := eqPt_zero pa pb pc pd pe
        rw [he] at heq
        clear he
        go_enter Tryz.func79, Tryz.ntmps79
        go_wp2_with fail
        refine HM.out.mono ?_
        rintro e w1 ⟨rfl, b1⟩
        replace HQ := Lib.hid (HQ.out.below b1 HQ.out.lt)
        replace HB := Lib.hid (HB.out.trans (b1.mono HB.out.size))
        clear b1 c0 c1 c2 c3 c4 d0 d1 d2 d3 d4
        have d0 := bx0 HQ.out
        have d1 := bx1 HQ.out
        have d2 := bx2 HQ.out
        have d3 := bx3 HQ.out
        have d4 := bx4 HQ.out
        go_wp2_with fail
        refine (HC.out w1).mono ?_
        rintro e w2 ⟨rfl, b2⟩
        replace HQ := Lib.hid (HQ.out.below b2 HQ.out.lt)
        replace HB := Lib.hid (HB.out.trans (b2.mono HB.out.size))
        clear b2 d0 d1 d2 d3 d4
        have d0 := bx0 HQ.out
        have d1 := bx1 HQ.out
        have d2 := bx2 HQ.out
        have d3 := bx3 HQ.out
        have d4 := bx4 HQ.out
        go_wp2_with fail
        go_ret
        exact ⟨rfl, HB.out⟩
      · rw [if_neg hp] at hz
        have he : eqP p p0 = false := by
          cases hq : eqP p p0 with
          | false => rfl
          | true => exact absurd ((eqP_iff p p0).1 hq) hp
        subst hz
        clear hp
        obtain ⟨pa, pb, pc, pd, pe⟩ := p
        have heq := eqPt_zero pa pb pc pd pe
        rw [he] at heq
        clear he
        go_enter Tryz.func79, Tryz.ntmps79
        go_wp2_with fail
        refine HM.out.mono ?_
        rintro e w1 ⟨rfl, b1⟩
        replace HQ := Lib.hid (HQ.out.below b1 HQ.out.lt)
        replace HB := Lib.hid (HB.out.trans (b1.mono HB.out.size))
        clear b1 c0 c1 c2 c3 c4 d0 d1 d2 d3 d4
        have d0 := bx0 HQ.out
        have d1 := bx1 HQ.out
        have d2 := bx2 HQ.out
        have d3 := bx3 HQ.out
        have d4 := bx4 HQ.out
        go_wp2_with fail
        refine (HC.out w1).mono ?_
        rintro e w2 ⟨rfl, b2⟩
        replace HQ := Lib.hid (HQ.out.below b2 HQ.out.lt)
        replace HB := Lib.hid (HB.out.trans (b2.mono HB.out.size))
        clear b2 d0 d1 d2 d3 d4
        have d0 := bx0 HQ.out
        have d1 := bx1 HQ.out
        have d2 := bx2 HQ.out
        have d3 := bx3 HQ.out
        have d4 := bx4 HQ.out
        go_wp2_with fail
        go_ret
        exact ⟨rfl, HB.out⟩
    · rw [if_neg (fun hh => hmp hh.2)] at hz
      rw [show pcheckO p = 8 by unfold pcheckO; rw [if_neg hmp]] at hpm
      have HC := Lib.hid hpm
      subst hz
      clear hpm hms hmp
      go_enter Tryz.func79, Tryz.ntmps79
      go_wp2_with fail
      refine HM.out.mono ?_
      rintro e w1 ⟨rfl, b1⟩
      replace HQ := Lib.hid (HQ.out.below b1 HQ.out.lt)
      replace HB := Lib.hid (HB.out.trans (b1.mono HB.out.size))
      clear b1 c0 c1 c2 c3 c4 d0 d1 d2 d3 d4
      have d0 := bx0 HQ.out
      have d1 := bx1 HQ.out
      have d2 := bx2 HQ.out
      have d3 := bx3 HQ.out
      have d4 := bx4 HQ.out
      go_wp2_with fail
      refine (HC.out w1).mono ?_
      rintro e w2 ⟨rfl, b2⟩
      replace HQ := Lib.hid (HQ.out.below b2 HQ.out.lt)
      replace HB := Lib.hid (HB.out.trans (b2.mono HB.out.size))
      clear b2 d0 d1 d2 d3 d4
      have d0 := bx0 HQ.out
      have d1 := bx1 HQ.out
      have d2 := bx2 HQ.out
      have d3 := bx3 HQ.out
      have d4 := bx4 HQ.out
      go_wp2_with fail
      go_ret
      exact ⟨rfl, HB.out⟩
  · rw [if_neg (fun hh => hms hh.1)] at hz
    have HM := Lib.hid (HMY false ⟨fun h => (by cases h), fun h => absurd h hms⟩)
    subst hz
    clear HMY hpm hms
    go_enter Tryz.func79, Tryz.ntmps79
    go_wp2_with fail
    refine HM.out.mono ?_
    rintro e w1 ⟨rfl, b1⟩
    replace HQ := Lib.hid (HQ.out.below b1 HQ.out.lt)
    replace HB := Lib.hid (HB.out.trans (b1.mono HB.out.size))
    clear b1 c0 c1 c2 c3 c4 d0 d1 d2 d3 d4
    have d0 := bx0 HQ.out
    have d1 := bx1 HQ.out
    have d2 := bx2 HQ.out
    have d3 := bx3 HQ.out
    have d4 := bx4 HQ.out
    go_wp2_with fail
    go_ret
    exact ⟨rfl, HB.out⟩
end Go.Proofs.YtbggkfomfeeikaaGreatDoor
/-
  Store's own: Look, Open; what they answer is new memory, and nothing that was there is written.
-/
namespace Go.Proofs.YtbggkfomfeeikaaGreatDoor
open Go.RowKit Go.Shelf
set_option maxRecDepth 100000

theorem wrongPO_no {S : StL} {p : Pt} (h : wrongPO S p = 0) : MayS S ∧ MayP p ∧ p ≠ p0 := by
  unfold wrongPO at h
  split at h
  · rename_i hm
    split at h
    · cases h
    · exact ⟨hm.1, hm.2, by assumption⟩
  · cases h
theorem lookO_wrong {S : StL} {p : Pt} {z : Nat} (h : wrongPO S p = z) (hz : z ≠ 0) : lookO S p = ([], z) := by
  unfold wrongPO at h
  unfold lookO
  split at h
  · rw [if_pos (by assumption)]
    split at h
    · unfold seenO
      rw [if_pos (by assumption), ← h]
    · exact absurd h.symm hz
  · rw [if_neg (by assumption), ← h]
set_option maxHeartbeats 4000000 in
theorem stLook_all (L : Nat) (x : SAt) (S : StL) (p : Pt) (w : World) (h : StP L w x S) (_hwp : WfP p) (_hL : L ≤ w.heap.size) : Calls Tryz.prog 54 #[stV x S, ptV p] w (OutBE (lookO S p) w) := by
  have hmx : Tryz.prog.follows Departure.mixedOrders = true := by kernel_rfl
  obtain ⟨w0, hw0, b0, z0, x0, q0⟩ := two_al w (stC x S) (ptA p) 30 32
  obtain ⟨g, hg⟩ : ∃ g, w.heap.size = g := ⟨_, rfl⟩
  obtain ⟨g1, hg1⟩ : ∃ g1, g + 1 = g1 := ⟨_, rfl⟩
  have h0 := h.bel b0
  rw [hg] at x0 q0 z0 b0
  rw [hg1] at q0
  have c0 := stC0 x0
  have c1 := stC1 x0
  have c2 := stC2 x0
  have c3 := stC3 x0
  have c4 := stC4 x0
  have d0 := bx0 q0
  have d1 := bx1 q0
  have d2 := bx2 q0
  have d3 := bx3 q0
  have d4 := bx4 q0
  have HX := Lib.hid x0
  have HQ := Lib.hid q0
  have HB := Lib.hid b0
  have HS := Lib.hid h0
  have HG := Lib.hid hg
  have HW := Lib.hid (show g ≤ w0.heap.size by omega)
  simp only [stC, ptA] at hw0
  clear h h0 x0 q0 b0 z0
  obtain ⟨z, hz⟩ : ∃ z, wrongPO S p = z := ⟨_, rfl⟩
  have HWR := Lib.hid (stWrongPtr_any L x S p w0 HS.out z hz)
  obtain ⟨o, ho⟩ : ∃ o, lookO S p = o := ⟨_, rfl⟩
  rw [ho]
  by_cases hz0 : z = 0
  · subst hz0
    obtain ⟨hm, hmp, hp⟩ := wrongPO_no hz
    rw [lookO_may hm hmp] at ho
    unfold seenO at ho
    rw [if_neg hp] at ho
    obtain ⟨k, hk, k12, k256⟩ := mayP_at hmp hp
    have hkt : p.1.toNat = k := by omega
    rw [hkt] at ho
    have hln := leftD_length hm.1 (fun _ => true) k256
    obtain ⟨B, hBk⟩ : ∃ B, seenS S k = B := ⟨_, rfl⟩
    have hln2 : B.length = 256 := by rw [← hBk]; exact hln
    rw [hBk] at ho
    have HOO := Lib.hid ho
    have hrd : readO S.1 (k : Int) = (B, 0) := by
      unfold readO
      rw [if_pos hm.1, if_pos (by omega), Int.toNat_natCast, ← hBk]
      rfl
    have hsn : ∀ W, StP L W x S → Calls Tryz.prog 80 #[dval x.d S.1, .int .i64 (k : Int)] W (ToldL (B, 0) W) := fun W hs => by
      have := dRead_any x.d S.1 (k : Int) W hs.now.1
      rw [hrd] at this
      exact this
    simp only [dval] at hsn
    have HSN := Lib.hid hsn
    have HL2 := Lib.hid hln2
    have HKK := Lib.hid hk
    clear hm hmp hp hz hk hkt hln hsn hln2 hBk ho hrd
    go_enter Tryz.func54, Tryz.ntmps54
    go_wp2_with fail
    clear c0 c1 c2 c3 c4 d0 d1 d2 d3 d4 hw0
    refine HWR.out.mono ?_
    rintro e w1 ⟨rfl, b1⟩
    replace HX := Lib.hid (HX.out.below b1 HX.out.lt)
    replace HQ := Lib.hid (HQ.out.below b1 HQ.out.lt)
    replace HS := Lib.hid (HS.out.bel b1)
    replace HB := Lib.hid (HB.out.trans (b1.mono HW.out))
    replace HW := Lib.hid (Nat.le_trans HW.out b1.size)
    clear b1 HWR
    have c0 := stC0 HX.out
    have c1 := stC1 HX.out
    have d0 := bx0 HQ.out
    rw [HKK.out] at d0
    go_wp2_with fail
    clear c0 c1 d0
    refine (HSN.out w1 HS.out).mono ?_
    rintro e w2 ⟨v, rfl, ho, b2⟩
    simp only at ho
    rw [HL2.out] at ho
    obtain ⟨ab, cb, rfl⟩ := own_slice ho
    have HO := Lib.hid (own_mono ho HW.out)
    replace HX := Lib.hid (HX.out.below b2 HX.out.lt)
    replace HQ := Lib.hid (HQ.out.below b2 HQ.out.lt)
    replace HS := Lib.hid (HS.out.bel b2)
    replace HB := Lib.hid (HB.out.trans (b2.mono HW.out))
    replace HW := Lib.hid (Nat.le_trans HW.out b2.size)
    clear b2 ho HSN
    go_wp2_with fail
    obtain ⟨wd, hwd⟩ : ∃ wd, w2.drew = wd := ⟨_, rfl⟩
    have bb : Below w2.heap.size w2 wd := by rw [← hwd]; exact (Below.refl _ w2).drew
    replace HO := Lib.hid (own_below HO.out bb)
    replace HX := Lib.hid (HX.out.below bb HX.out.lt)
    replace HQ := Lib.hid (HQ.out.below bb HQ.out.lt)
    replace HS := Lib.hid (HS.out.bel bb)
    replace HB := Lib.hid (HB.out.trans (bb.mono HW.out))
    replace HW := Lib.hid (Nat.le_trans HW.out bb.size)
    clear bb
    have hsu := sum_any ab 256 cb B wd (own_bsl HO.out) (by omega)
    rw [show (fourW B).a.toNat = sumOf B from rfl] at hsu
    have hc4 := bx4 HQ.out
    obtain ⟨u, hu⟩ : ∃ u : Nat, p.2.2.2.2 = u := ⟨_, rfl⟩
    obtain ⟨m, hmm⟩ : ∃ m : Nat, sumOf B = m := ⟨_, rfl⟩
    rw [hu] at hc4
    rw [hmm] at hsu
    have HSU := Lib.hid hsu
    have HO5 := HOO.out
    rw [hu, hmm] at HO5
    refine wpI_start (fun X => X.cell? ⟨g1, 4, none⟩ = some (.int .u32 (u : Int))) [0, 2, 3, 1, 4] hmx rfl hwd ?_
    clear hu hmm hwd hsu
    have HO5' := Lib.hid HO5
    clear HO5
    iterate 3 (
      refine wpI_read (v := ?_) hc4 rfl (by kernel_rfl) (by kernel_rfl) (by kernel_rfl) (fun _ _ _ h => h) (.inl ⟨by rfl, ?_⟩) ?_
      rotate_left
      · intro X hX
        go_simp
        with_reducible rfl
      try simp only [Act.put, List.setIfInBounds_toArray, List.set_cons_zero, List.set_cons_succ])
    refine wpI_lone rfl (by kernel_rfl) (fun K hK => ?_)
    go_simp
    refine HSU.out.mono ?_
    rintro ev w3 ⟨rfl, b3⟩
    have hc5 : w3.cell? ⟨g1, 4, none⟩ = some (.int .u32 (u : Int)) := (b3.cell (p := ⟨g1, 4, none⟩) HQ.out.lt).trans hc4
    replace HO := Lib.hid (own_below HO.out b3)
    replace HX := Lib.hid (HX.out.below b3 HX.out.lt)
    replace HQ := Lib.hid (HQ.out.below b3 HQ.out.lt)
    replace HS := Lib.hid (HS.out.bel b3)
    replace HB := Lib.hid (HB.out.trans (b3.mono HW.out))
    replace HW := Lib.hid (Nat.le_trans HW.out b3.size)
    refine hK _ _ hc5 ?_
    clear hK K hc4 b3 HSU
    try simp only [Act.put, List.setIfInBounds_toArray, List.set_cons_zero, List.set_cons_succ]
    by_cases hmu : m = u
    · have HO5 := HO5'.out
      rw [if_pos hmu] at HO5
      subst HO5
      have he : ((m : Int) != (u : Int)) = false := by simp; omega
      clear hmu
      iterate 1 (
        refine wpI_read (v := ?_) hc5 rfl (by kernel_rfl) (by kernel_rfl) (by kernel_rfl) (fun _ _ _ h => h) (.inl ⟨by rfl, ?_⟩) ?_
        rotate_left
        · intro X hX
          go_simp
          with_reducible rfl
        try simp only [Act.put, List.setIfInBounds_toArray, List.set_cons_zero, List.set_cons_succ])
      refine wpI_done (by kernel_rfl) ?_
      clear he hc5
      go_wp2_with fail
      go_ret2
      exact ⟨_, rfl, by rw [HG.out, HL2.out]; exact HO.out, by rw [HG.out]; exact HB.out⟩
    · have HO5 := HO5'.out
      rw [if_neg hmu] at HO5
      subst HO5
      have he : ((m : Int) != (u : Int)) = true := by simp; omega
      clear hmu
      iterate 1 (
        refine wpI_read (v := ?_) hc5 rfl (by kernel_rfl) (by kernel_rfl) (by kernel_rfl) (fun _ _ _ h => h) (.inl ⟨by rfl, ?_⟩) ?_
        rotate_left
        · intro X hX
          go_simp
          with_reducible rfl
        try simp only [Act.put, List.setIfInBounds_toArray, List.set_cons_zero, List.set_cons_succ])
      refine wpI_done (by kernel_rfl) ?_
      clear he hc5
      go_wp2_with fail
      go_ret2
      exact outBE_no 130 (by rw [HG.out]; exact HB.out)
  · rw [lookO_wrong hz hz0] at ho
    subst ho
    have e1 : ((z : Int) != 0) = true := by simp; omega
    have e2 : ¬ ((z : Int) = 0) := by omega
    clear hz hz0
    go_enter Tryz.func54, Tryz.ntmps54
    go_wp2_with fail
    clear c0 c1 c2 c3 c4 d0 d1 d2 d3 d4 hw0
    refine HWR.out.mono ?_
    rintro e w1 ⟨rfl, b1⟩
    replace HX := Lib.hid (HX.out.below b1 HX.out.lt)
    replace HQ := Lib.hid (HQ.out.below b1 HQ.out.lt)
    replace HS := Lib.hid (HS.out.bel b1)
    replace HB := Lib.hid (HB.out.trans (b1.mono HW.out))
    replace HW := Lib.hid (Nat.le_trans HW.out b1.size)
    clear b1 HWR
    go_wp2_with fail
    go_ret2
    exact outBE_no z (by rw [HG.out]; exact HB.out)
end Go.Proofs.YtbggkfomfeeikaaGreatDoor
/-
  The document's own May, Check and Same of layer 14.
-/
namespace Go.Proofs.YtbggkfomfeeikaaGreatDoor
open Go.RowKit Go.Shelf
set_option maxRecDepth 100000

section
variable {w : World} {g : Nat} {t : TypeId} {c0 c1 c2 c3 : Value}
theorem ox0 (h : Blk w g t #[c0, c1, c2, c3]) : w.cell? ⟨g, 0, none⟩ = some c0 := h.cell 0
theorem ox1 (h : Blk w g t #[c0, c1, c2, c3]) : w.cell? ⟨g, 1, none⟩ = some c1 := h.cell 1
theorem ox2 (h : Blk w g t #[c0, c1, c2, c3]) : w.cell? ⟨g, 2, none⟩ = some c2 := h.cell 2
theorem ox3 (h : Blk w g t #[c0, c1, c2, c3]) : w.cell? ⟨g, 3, none⟩ = some c3 := h.cell 3
end
set_option maxHeartbeats 4000000 in
theorem roMay_any (a : Option Addr) (c : Nat) (O : ObL) (w : World) (h : Pts w w.heap.size a O.2.2.2.length c O.2.2.2) (hw : WfOb O) (R : Bool) (hR : R = true ↔ MayOb O) : Calls Tryz.prog 90 #[obV a c O] w fun e w' => e = .returned (.bool R) ∧ Below w.heap.size w w' := by
  obtain ⟨k, l, s, Lp⟩ := O
  simp only at hR h
  obtain ⟨n, hn⟩ : ∃ n, Lp.length = n := ⟨_, rfl⟩
  have HN := Lib.hid hn
  have HR := Lib.hid hR
  simp only [obV]
  rw [hn] at h ⊢
  obtain ⟨kz, hkz⟩ : ∃ z : Int, (k : Int) = z := ⟨_, rfl⟩
  have HK := Lib.hid hkz
  rw [hkz]
  have hnc := h.2.1
  have hcm := h.2.2.1
  have n0 : (0 : Int) ≤ n := by omega
  have n9 : (n : Int) ≤ 9223372036854775807 := by unfold maxLen at hcm; omega
  have xb := Blk.new w 40 #[.int .u8 kz, .int .i64 l, .int .i64 s, .slice a n c]
  have b0 := (Below.refl w.heap.size w).alloc (Nat.le_refl _) (.cells #[.int .u8 kz, .int .i64 l, .int .i64 s, .slice a n c] 40)
  obtain ⟨w0, hw0⟩ : ∃ w0, w.alloc (.cells #[.int .u8 kz, .int .i64 l, .int .i64 s, .slice a n c] 40) = w0 := ⟨_, rfl⟩
  rw [hw0] at xb b0
  have c0 := ox0 xb
  have c1 := ox1 xb
  have c2 := ox2 xb
  have c3 := ox3 xb
  have HX := Lib.hid xb
  have HB := Lib.hid b0
  have HP := Lib.hid h
  clear h hn hR hkz xb b0 hnc hcm
  clear hw
  by_cases q1 : kz < 1
  · have q1' : decide (kz < 1) = true := decide_eq_true q1
    obtain rfl : R = false := by
      cases R with
      | false => rfl
      | true =>
        have := (HR.out.1 rfl).1
        unfold HeadOb at this
        have hk := HK.out
        have hn := HN.out
        simp only at this
        omega
    clear HR HK HN
    go_enter Tryz.func90, Tryz.ntmps90
    go_wp2_with fail
    go_ret
    exact ⟨rfl, HB.out⟩
  · have q1' : decide (kz < 1) = false := decide_eq_false q1
    by_cases q2 : 7 < kz
    · have q2' : decide (7 < kz) = true := decide_eq_true q2
      obtain rfl : R = false := by
        cases R with
        | false => rfl
        | true =>
          have := (HR.out.1 rfl).1
          unfold HeadOb at this
          have hk := HK.out
          have hn := HN.out
          simp only at this
          omega
      clear HR HK HN
      go_enter Tryz.func90, Tryz.ntmps90
      go_wp2_with fail
      go_ret
      exact ⟨rfl, HB.out⟩
    · have q2' : decide (7 < kz) = false := decide_eq_false q2
      by_cases q3 : l < 0
      · have q3' : decide (l < 0) = true := decide_eq_true q3
        obtain rfl : R = false := by
          cases R with
          | false => rfl
          | true =>
            have := (HR.out.1 rfl).1
            unfold HeadOb at this
            have hk := HK.out
            have hn := HN.out
            simp only at this
            omega
        clear HR HK HN
        go_enter Tryz.func90, Tryz.ntmps90
        go_wp2_with fail
        go_ret
        exact ⟨rfl, HB.out⟩
      · have q3' : decide (l < 0) = false := decide_eq_false q3
        by_cases q4 : 255 < l
        · have q4' : decide (255 < l) = true := decide_eq_true q4
          obtain rfl : R = false := by
            cases R with
            | false => rfl
            | true =>
              have := (HR.out.1 rfl).1
              unfold HeadOb at this
              have hk := HK.out
              have hn := HN.out
              simp only at this
              omega
          clear HR HK HN
          go_enter Tryz.func90, Tryz.ntmps90
          go_wp2_with fail
          go_ret
          exact ⟨rfl, HB.out⟩
        · have q4' : decide (255 < l) = false := decide_eq_false q4
          by_cases q5 : s < 0
          · have q5' : decide (s < 0) = true := decide_eq_true q5
            obtain rfl : R = false := by
              cases R with
              | false => rfl
              | true =>
                have := (HR.out.1 rfl).1
                unfold HeadOb at this
                have hk := HK.out
                have hn := HN.out
                simp only at this
                omega
            clear HR HK HN
            go_enter Tryz.func90, Tryz.ntmps90
            go_wp2_with fail
            go_ret
            exact ⟨rfl, HB.out⟩
          · have q5' : decide (s < 0) = false := decide_eq_false q5
            by_cases q6 : 3840 < s
            · have q6' : decide (3840 < s) = true := decide_eq_true q6
              obtain rfl : R = false := by
                cases R with
                | false => rfl
                | true =>
                  have := (HR.out.1 rfl).1
                  unfold HeadOb at this
                  have hk := HK.out
                  have hn := HN.out
                  simp only at this
                  omega
              clear HR HK HN
              go_enter Tryz.func90, Tryz.ntmps90
              go_wp2_with fail
              go_ret
              exact ⟨rfl, HB.out⟩
            · have q6' : decide (3840 < s) = false := decide_eq_false q6
              by_cases q7 : n = 15
              · subst q7
                have HH : Hid (HeadOb (k, l, s, Lp)) := Lib.hid (by
                  have hk := HK.out
                  have hn := HN.out
                  unfold HeadOb
                  simp only
                  omega)
                clear HK
                go_enter Tryz.func90, Tryz.ntmps90
                go_wp2_with fail
                clear c0 c1 c2 c3 hw0 q1 q1' q2 q2' q3 q3' q4 q4' q5 q5' q6 q6'
                go_loopw [3] (fun i wr => ∃ j : Nat, j ≤ 15 ∧ i = .int .i64 j ∧ (∀ t, t < j → MayP (Lp.getD t p0)) ∧ Below w0.heap.size w0 wr) (fun i _ => 15 - (intOf i).toNat)
                case atStart => exact ⟨0, Nat.zero_le _, rfl, fun j hj => absurd hj (Nat.not_lt_zero _), Below.refl _ _⟩
                case round =>
                  obtain ⟨j, hj, rfl, hmay, hb⟩ := hrel
                  have j0 : (0 : Int) ≤ j := by omega
                  have HBR := Lib.hid hb
                  have HM := Lib.hid hmay
                  have c3 := ox3 (HX.out.below hb HX.out.lt)
                  clear hb hmay
                  by_cases hlt : j < 15
                  · have j1 : (j : Int) < 15 := by omega
                    obtain ⟨bp, op_, ea, hblt, hwf, p0_, p1_, p2_, p3_, p4_⟩ := ((HP.out.below (HB.out.trans (HBR.out.mono HB.out.size)))).cells j hlt
                    obtain ⟨P, hP⟩ : ∃ P, Lp.getD j p0 = P := ⟨_, rfl⟩
                    rw [hP] at hwf p0_ p1_ p2_ p3_ p4_
                    rw [ea] at c3
                    clear ea
                    have hmp := rpMay_any P wr
                    have HPE := Lib.hid hP
                    clear hP hblt hwf
                    by_cases h : MayP P
                    · rw [decide_eq_true h] at hmp
                      have HH1 := Lib.hid h
                      obtain ⟨a', b', c', d', e'⟩ := P
                      have HW := Lib.hid hmp
                      clear h hmp
                      go_wp2_with (go_at_call 58
                                   refine HW.out.mono ?_
                                   rintro ev w1 ⟨rfl, b1⟩
                                   have HB1 := Lib.hid (HBR.out.trans (b1.mono HBR.out.size))
                                   clear b1)
                      go_roundw
                      case rel =>
                        refine ⟨j + 1, by omega, by go_num, fun t ht => ?_, HB1.out⟩
                        by_cases e : t = j
                        · subst e
                          rw [HPE.out]
                          exact HH1.out
                        · exact HM.out t (by omega)
                      case measure => simp [intOf]; omega
                    · rw [decide_eq_false h] at hmp
                      obtain rfl : R = false := by
                        cases R with
                        | false => rfl
                        | true =>
                          have hall := (HR.out.1 rfl).2
                          have hi : j < Lp.length := by rw [HN.out]; exact hlt
                          have hg : Lp[j] = P := by
                            rw [← HPE.out, List.getD_eq_getElem?_getD, List.getElem?_eq_getElem hi]
                            rfl
                          exact absurd (hg ▸ hall Lp[j] (List.getElem_mem hi)) h
                      obtain ⟨a', b', c', d', e'⟩ := P
                      have HW := Lib.hid hmp
                      clear h hmp
                      go_wp2_with (go_at_call 58
                                   refine HW.out.mono ?_
                                   rintro ev w1 ⟨rfl, b1⟩
                                   have HB1 := Lib.hid (HBR.out.trans (b1.mono HBR.out.size))
                                   clear b1)
                      go_ret
                      exact ⟨rfl, HB.out.trans (HB1.out.mono HB.out.size)⟩
                  · have j1 : (15 : Int) ≤ j := by omega
                    have hall : ∀ p ∈ Lp, MayP p := fun p hp => by
                      obtain ⟨i, hi, rfl⟩ := List.getElem_of_mem hp
                      have := HM.out i (by rw [HN.out] at hi; omega)
                      rwa [List.getD_eq_getElem?_getD, List.getElem?_eq_getElem hi] at this
                    obtain rfl : R = true := HR.out.2 ⟨HH.out, hall⟩
                    clear hlt hj hall
                    go_wp2_with fail
                    go_ret
                    exact ⟨rfl, HB.out.trans (HBR.out.mono HB.out.size)⟩
              · have q7' : ((n : Int) != 15) = true := by simp; omega
                obtain rfl : R = false := by
                  cases R with
                  | false => rfl
                  | true =>
                    have := (HR.out.1 rfl).1
                    unfold HeadOb at this
                    have hk := HK.out
                    have hn := HN.out
                    simp only at this
                    omega
                clear HR HK HN
                go_enter Tryz.func90, Tryz.ntmps90
                go_wp2_with fail
                go_ret
                exact ⟨rfl, HB.out⟩
set_option maxHeartbeats 2000000 in
theorem roSame_any (a : Option Addr) (c : Nat) (O : ObL) (b : Option Addr) (d : Nat) (M : ObL) (w : World) (h : Pts w w.heap.size a O.2.2.2.length c O.2.2.2) (h' : Pts w w.heap.size b M.2.2.2.length d M.2.2.2) (R : Bool) (hR : R = true ↔ O = M) : Calls Tryz.prog 20 #[obV a c O, obV b d M] w fun e w' => e = .returned (.bool R) ∧ Below w.heap.size w w' := by
  obtain ⟨k, l, s, Lp⟩ := O
  obtain ⟨k', l', s', Mp⟩ := M
  simp only at h h'
  simp only [obV]
  have b0 : Below w.heap.size w ((w.alloc (.cells #[.int .u8 (k : Int), .int .i64 l, .int .i64 s, .slice a Lp.length c] 40)).alloc (.cells #[.int .u8 (k' : Int), .int .i64 l', .int .i64 s', .slice b Mp.length d] 40)) := ((Below.refl w.heap.size w).alloc (Nat.le_refl _) _).alloc (by rw [World.size_alloc]; omega) _
  have xa := (Blk.new w 40 #[.int .u8 (k : Int), .int .i64 l, .int .i64 s, .slice a Lp.length c]).alloc (.cells #[.int .u8 (k' : Int), .int .i64 l', .int .i64 s', .slice b Mp.length d] 40)
  have xb := Blk.new (w.alloc (.cells #[.int .u8 (k : Int), .int .i64 l, .int .i64 s, .slice a Lp.length c] 40)) 40 #[.int .u8 (k' : Int), .int .i64 l', .int .i64 s', .slice b Mp.length d]
  rw [World.size_alloc] at xb
  obtain ⟨w0, hw0⟩ : ∃ w0, (w.alloc (.cells #[.int .u8 (k : Int), .int .i64 l, .int .i64 s, .slice a Lp.length c] 40)).alloc (.cells #[.int .u8 (k' : Int), .int .i64 l', .int .i64 s', .slice b Mp.length d] 40) = w0 := ⟨_, rfl⟩
  rw [hw0] at b0 xa xb
  have c0 := ox0 xa
  have c1 := ox1 xa
  have c2 := ox2 xa
  have c3 := ox3 xa
  have d0 := ox0 xb
  have d1 := ox1 xb
  have d2 := ox2 xb
  have d3 := ox3 xb
  have HB := Lib.hid b0
  have HS := Lib.hid (rpSame_any a Lp.length c Lp b Mp.length d Mp w0 (h.step b0) (h'.step b0))
  have HR := Lib.hid hR
  clear b0 xa xb h h' hR
  by_cases e : k = k'
  · have f1 : ((k : Int) == k') = true := by simp [e]
    have E1 := Lib.hid e
    clear e
    by_cases e : l = l'
    · have f2 : (l == l') = true := by simp [e]
      have E2 := Lib.hid e
      clear e
      by_cases e : s = s'
      · have f3 : (s == s') = true := by simp [e]
        have hs := HS.out
        have hRd : decide (Lp = Mp) = R := by
          cases R with
          | true =>
            have := HR.out.1 rfl
            simp only [Prod.mk.injEq] at this
            exact decide_eq_true this.2.2.2
          | false => exact decide_eq_false (fun hh => by have := HR.out.2 (by rw [E1.out, E2.out, e, hh]); cases this)
        rw [hRd] at hs
        have HS2 := Lib.hid hs
        clear hs hRd HS HR E1 E2 e
        go_enter Tryz.func20, Tryz.ntmps20
        go_wp2_with fail
        clear c0 c1 c2 c3 d0 d1 d2 d3 hw0
        refine HS2.out.mono ?_
        rintro e w1 ⟨rfl, b1⟩
        have HB1 := Lib.hid (HB.out.trans (b1.mono HB.out.size))
        clear b1
        go_wp2_with fail
        go_ret
        exact ⟨rfl, HB1.out⟩
      · have f3 : (s == s') = false := by simp [e]
        obtain rfl : R = false := by
          cases R with
          | false => rfl
          | true =>
            have := HR.out.1 rfl
            simp only [Prod.mk.injEq] at this
            exact absurd this.2.2.1 e
        clear HR e
        go_enter Tryz.func20, Tryz.ntmps20
        go_wp2_with fail
        go_ret
        exact ⟨rfl, HB.out⟩
    · have f2 : (l == l') = false := by simp [e]
      obtain rfl : R = false := by
        cases R with
        | false => rfl
        | true =>
          have := HR.out.1 rfl
          simp only [Prod.mk.injEq] at this
          exact absurd this.2.1 e
      clear HR e
      go_enter Tryz.func20, Tryz.ntmps20
      go_wp2_with fail
      go_ret
      exact ⟨rfl, HB.out⟩
  · have f1 : ((k : Int) == k') = false := by simp; omega
    obtain rfl : R = false := by
      cases R with
      | false => rfl
      | true =>
        have := HR.out.1 rfl
        simp only [Prod.mk.injEq] at this
        exact absurd this.1 e
    clear HR e
    go_enter Tryz.func20, Tryz.ntmps20
    go_wp2_with fail
    go_ret
    exact ⟨rfl, HB.out⟩
end Go.Proofs.YtbggkfomfeeikaaGreatDoor
/-
  obj's own: whether an object may be (closures over its parts, slices.ContainsFunc over its pointers), Check, and Same with slices.Equal.
-/
namespace Go.Proofs.YtbggkfomfeeikaaGreatDoor
open Go.RowKit Go.Shelf
set_option maxRecDepth 100000

theorem obWithin_any (n lo hi : Int) (w : World) (R : Bool) (hR : R = true ↔ lo ≤ n ∧ n ≤ hi) : Calls Tryz.prog 72 #[.int .i64 n, .int .i64 lo, .int .i64 hi] w fun e w' => e = .returned (.bool R) ∧ w = w' := by
  by_cases h1 : lo ≤ n
  · by_cases h2 : n ≤ hi
    · obtain rfl : R = true := hR.2 ⟨h1, h2⟩
      clear hR
      go_enter Tryz.func72, Tryz.ntmps72
      go_wp2_with fail
      go_ret
      exact ⟨rfl, rfl⟩
    · obtain rfl : R = false := by cases R with | false => rfl | true => exact absurd (hR.1 rfl).2 h2
      clear hR
      have h3 : decide (n ≤ hi) = false := decide_eq_false h2
      go_enter Tryz.func72, Tryz.ntmps72
      go_wp2_with fail
      go_ret
      exact ⟨rfl, rfl⟩
  · obtain rfl : R = false := by cases R with | false => rfl | true => exact absurd (hR.1 rfl).1 h1
    clear hR
    have h3 : decide (lo ≤ n) = false := decide_eq_false h1
    go_enter Tryz.func72, Tryz.ntmps72
    go_wp2_with fail
    go_ret
    exact ⟨rfl, rfl⟩
theorem obWrong_any (p : Pt) (w : World) (R : Bool) (hR : R = true ↔ ¬ MayP p) : Calls Tryz.prog 73 #[ptV p] w fun e w' => e = .returned (.bool R) ∧ Below w.heap.size w w' := by
  have hb1 : Below w.heap.size w (w.alloc (.cells (ptC p).toArray 32)) := (Below.refl _ w).alloc (Nat.le_refl _) _
  have HB := Lib.hid hb1; clear hb1
  have hc := Check_any p (w.alloc (.cells (ptC p).toArray 32))
  rw [pcheckO] at hc
  by_cases h : MayP p
  · rw [if_pos h] at hc
    obtain rfl : R = false := by cases R with | false => rfl | true => exact absurd h (hR.1 rfl)
    clear hR h
    obtain ⟨a, b, c, d, e⟩ := p
    have HM := Lib.hid hc; clear hc
    go_enter Tryz.func73, Tryz.ntmps73
    go_wp2_with (go_at_call 50; refine HM.out.mono ?_; rintro ev w1 ⟨rfl, b1⟩; have HB1 := Lib.hid (HB.out.trans (b1.mono (by simp [ptC]))); clear b1)
    go_ret
    exact ⟨rfl, HB1.out⟩
  · rw [if_neg h] at hc
    obtain rfl : R = true := hR.2 h
    clear hR h
    obtain ⟨a, b, c, d, e⟩ := p
    have HM := Lib.hid hc; clear hc
    go_enter Tryz.func73, Tryz.ntmps73
    go_wp2_with (go_at_call 50; refine HM.out.mono ?_; rintro ev w1 ⟨rfl, b1⟩; have HB1 := Lib.hid (HB.out.trans (b1.mono (by simp [ptC]))); clear b1)
    go_ret
    exact ⟨rfl, HB1.out⟩
def IxP (R : Bool) (z : Int) : Prop := (R = true → z = -1) ∧ (R = false → 0 ≤ z)
set_option maxHeartbeats 2000000 in
theorem obIndex_any (a : Option Addr) (n c : Nat) (L : List Pt) (w : World) (hL : Pts w w.heap.size a n c L) (R : Bool) (hR : R = true ↔ ∀ p ∈ L, MayP p) : Calls Tryz.prog 103 #[.slice a n c, .func (.func 73) #[] #[]] w fun e w' => ∃ z : Int, e = .returned (.int .i64 z) ∧ IxP R z ∧ Below w.heap.size w w' := by
  have n0 : (0 : Int) ≤ n := by omega
  have n1 : (n : Int) ≤ 9223372036854775807 := by have h1 := hL.2.1; have h2 := hL.2.2.1; unfold maxLen at h2; omega
  have HN := Lib.hid hL.1
  have HP := Lib.hid hL
  have HR := Lib.hid hR
  clear hL hR
  go_enter Tryz.func103, Tryz.ntmps103
  go_wp2_with fail
  go_loopw [8] (fun i wr => ∃ j : Nat, j ≤ n ∧ i = .int .i64 j ∧ (∀ t, t < j → MayP (L.getD t p0)) ∧ Below w.heap.size w wr) (fun i _ => n - (intOf i).toNat)
  case atStart => exact ⟨0, Nat.zero_le _, rfl, fun j hj => absurd hj (Nat.not_lt_zero _), Below.refl _ _⟩
  case round =>
    obtain ⟨j, hj, rfl, hmay, hb⟩ := hrel
    have j0 : (0 : Int) ≤ j := by omega
    have HBR := Lib.hid hb
    have HM := Lib.hid hmay
    clear hb hmay
    by_cases hlt : j < n
    · have j1 : (j : Int) < n := by omega
      obtain ⟨bp, op_, ea, hblt, hwf, p0_, p1_, p2_, p3_, p4_⟩ := (HP.out.below HBR.out).cells j hlt
      obtain ⟨P, hP⟩ : ∃ P, L.getD j p0 = P := ⟨_, rfl⟩
      rw [hP] at hwf p0_ p1_ p2_ p3_ p4_
      subst ea
      have HPE := Lib.hid hP
      clear hP hblt hwf
      by_cases h : MayP P
      · have HW := Lib.hid (obWrong_any P wr false ⟨fun x => (by cases x), fun x => absurd h x⟩)
        have HH1 := Lib.hid h
        obtain ⟨a', b', c', d', e'⟩ := P
        clear h
        go_wp2_with fail
        refine HW.out.mono ?_
        rintro ev w1 ⟨rfl, b1⟩
        have HB1 := Lib.hid (HBR.out.trans (b1.mono HBR.out.size))
        clear b1
        go_wp2_with fail
        go_roundw
        case rel =>
          refine ⟨j + 1, by omega, by go_num, fun t ht => ?_, HB1.out⟩
          by_cases e : t = j
          · subst e
            rw [HPE.out]
            exact HH1.out
          · exact HM.out t (by omega)
        case measure => simp [intOf]; omega
      · have HW := Lib.hid (obWrong_any P wr true ⟨fun _ => h, fun _ => rfl⟩)
        obtain rfl : R = false := by
          cases R with
          | false => rfl
          | true =>
            have hi : j < L.length := by rw [HN.out]; exact hlt
            have hg : L[j] = P := by
              rw [← HPE.out, List.getD_eq_getElem?_getD, List.getElem?_eq_getElem hi]
              rfl
            exact absurd (hg ▸ HR.out.1 rfl L[j] (List.getElem_mem hi)) h
        obtain ⟨a', b', c', d', e'⟩ := P
        clear h
        go_wp2_with fail
        refine HW.out.mono ?_
        rintro ev w1 ⟨rfl, b1⟩
        have HB1 := Lib.hid (HBR.out.trans (b1.mono HBR.out.size))
        clear b1
        go_wp2_with fail
        go_ret
        exact ⟨_, rfl, ⟨fun x => (by cases x), fun _ => by omega⟩, HB1.out⟩
    · obtain rfl : j = n := by omega
      have hall : ∀ p ∈ L, MayP p := fun p hp => by
        obtain ⟨i, hi, rfl⟩ := List.getElem_of_mem hp
        have := HM.out i (by rw [HN.out] at hi; omega)
        rwa [List.getD_eq_getElem?_getD, List.getElem?_eq_getElem hi] at this
      obtain rfl : R = true := HR.out.2 hall
      clear hlt hj hall
      go_wp2_with fail
      go_ret
      exact ⟨_, rfl, ⟨fun _ => rfl, fun x => (by cases x)⟩, HBR.out⟩
theorem obContains_any (a : Option Addr) (n c : Nat) (L : List Pt) (w : World) (hL : Pts w w.heap.size a n c L) (R : Bool) (hR : R = true ↔ ∀ p ∈ L, MayP p) : Calls Tryz.prog 74 #[.slice a n c, .func (.func 73) #[] #[]] w fun e w' => e = .returned (.bool (!R)) ∧ Below w.heap.size w w' := by
  have HX := Lib.hid (obIndex_any a n c L w hL R hR)
  clear hL hR
  cases R with
  | true =>
    go_enter Tryz.func74, Tryz.ntmps74
    go_wp2_with fail
    refine HX.out.mono ?_
    rintro e w1 ⟨z, rfl, hz, b1⟩
    obtain rfl : z = -1 := hz.1 rfl
    have HB1 := Lib.hid b1
    clear b1 hz
    go_wp2_with fail
    go_ret
    exact ⟨rfl, HB1.out⟩
  | false =>
    go_enter Tryz.func74, Tryz.ntmps74
    go_wp2_with fail
    refine HX.out.mono ?_
    rintro e w1 ⟨z, rfl, hz, b1⟩
    have hz0 : 0 ≤ z := hz.2 rfl
    have HB1 := Lib.hid b1
    clear b1 hz
    go_wp2_with fail
    go_ret
    exact ⟨rfl, HB1.out⟩
set_option maxHeartbeats 2000000 in
theorem obMay_any (a : Option Addr) (c : Nat) (O : ObL) (w : World) (h : Pts w w.heap.size a O.2.2.2.length c O.2.2.2) (hw : WfOb O) (R : Bool) (hR : R = true ↔ MayOb O) : Calls Tryz.prog 46 #[obV a c O] w fun e w' => e = .returned (.bool R) ∧ Below w.heap.size w w' := by
  obtain ⟨k, l, s, Lp⟩ := O
  simp only at hR h
  obtain ⟨n, hn⟩ : ∃ n, Lp.length = n := ⟨_, rfl⟩
  have HN := Lib.hid hn
  have HR := Lib.hid hR
  have hk8 := hw.1
  simp only at hk8
  simp only [obV]
  rw [hn] at h ⊢
  obtain ⟨kz, hkz⟩ : ∃ z : Int, (k : Int) = z := ⟨_, rfl⟩
  have HK := Lib.hid hkz
  rw [hkz]
  have kz0 : 0 ≤ kz := by omega
  have kz1 : kz ≤ 255 := by omega
  have hnc := h.2.1
  have hcm := h.2.2.1
  have n0 : (0 : Int) ≤ n := by omega
  have n9 : (n : Int) ≤ 9223372036854775807 := by unfold maxLen at hcm; omega
  have xb := Blk.new w 40 #[.int .u8 kz, .int .i64 l, .int .i64 s, .slice a n c]
  have b0 := (Below.refl w.heap.size w).alloc (Nat.le_refl _) (.cells #[.int .u8 kz, .int .i64 l, .int .i64 s, .slice a n c] 40)
  obtain ⟨w0, hw0⟩ : ∃ w0, w.alloc (.cells #[.int .u8 kz, .int .i64 l, .int .i64 s, .slice a n c] 40) = w0 := ⟨_, rfl⟩
  rw [hw0] at xb b0
  have c0 := ox0 xb
  have c1 := ox1 xb
  have c2 := ox2 xb
  have c3 := ox3 xb
  have HB := Lib.hid b0
  have HP := Lib.hid (h.step b0)
  clear h hn hR hkz xb b0 hnc hcm hw hk8
  by_cases q1 : 1 ≤ kz ∧ kz ≤ 7
  · by_cases q2 : 0 ≤ l ∧ l ≤ 255
    · by_cases q3 : 0 ≤ s ∧ s ≤ 3840
      · by_cases q4 : n = 15
        · subst q4
          have hall : R = true ↔ ∀ p ∈ Lp, MayP p := by
            rw [HR.out]
            refine ⟨fun h => h.2, fun h => ⟨?_, h⟩⟩
            have hk := HK.out
            have hn := HN.out
            unfold HeadOb
            simp only
            omega
          have HC := Lib.hid (obContains_any a 15 c Lp w0 HP.out R hall)
          clear HR HK HN HP hall
          go_enter Tryz.func46, Tryz.ntmps46
          go_wp2_with fail
          clear hw0
          refine (obWithin_any kz 1 7 w0 true ⟨fun _ => q1, fun _ => rfl⟩).mono ?_
          rintro e w1 ⟨rfl, rfl⟩
          go_wp2_with fail
          refine (obWithin_any l 0 255 w0 true ⟨fun _ => q2, fun _ => rfl⟩).mono ?_
          rintro e w1 ⟨rfl, rfl⟩
          go_wp2_with fail
          refine (obWithin_any s 0 3840 w0 true ⟨fun _ => q3, fun _ => rfl⟩).mono ?_
          rintro e w1 ⟨rfl, rfl⟩
          go_wp2_with fail
          refine HC.out.mono ?_
          rintro e w1 ⟨rfl, b1⟩
          have HB1 := Lib.hid (HB.out.trans (b1.mono HB.out.size))
          clear b1
          go_wp2_with fail
          go_ret
          exact ⟨by simp, HB1.out⟩
        · have q4' : ((n : Int) == 15) = false := by simp; omega
          obtain rfl : R = false := by
            cases R with
            | false => rfl
            | true =>
              have := (HR.out.1 rfl).1
              unfold HeadOb at this
              have hk := HK.out
              have hn := HN.out
              simp only at this
              omega
          clear HR HK HN HP
          go_enter Tryz.func46, Tryz.ntmps46
          go_wp2_with fail
          clear hw0
          refine (obWithin_any kz 1 7 w0 true ⟨fun _ => q1, fun _ => rfl⟩).mono ?_
          rintro e w1 ⟨rfl, rfl⟩
          go_wp2_with fail
          refine (obWithin_any l 0 255 w0 true ⟨fun _ => q2, fun _ => rfl⟩).mono ?_
          rintro e w1 ⟨rfl, rfl⟩
          go_wp2_with fail
          refine (obWithin_any s 0 3840 w0 true ⟨fun _ => q3, fun _ => rfl⟩).mono ?_
          rintro e w1 ⟨rfl, rfl⟩
          go_wp2_with fail
          go_ret
          exact ⟨rfl, HB.out⟩
      · obtain rfl : R = false := by
          cases R with
          | false => rfl
          | true =>
            have := (HR.out.1 rfl).1
            unfold HeadOb at this
            have hk := HK.out
            have hn := HN.out
            simp only at this
            omega
        clear HR HK HN HP
        go_enter Tryz.func46, Tryz.ntmps46
        go_wp2_with fail
        clear hw0
        refine (obWithin_any kz 1 7 w0 true ⟨fun _ => q1, fun _ => rfl⟩).mono ?_
        rintro e w1 ⟨rfl, rfl⟩
        go_wp2_with fail
        refine (obWithin_any l 0 255 w0 true ⟨fun _ => q2, fun _ => rfl⟩).mono ?_
        rintro e w1 ⟨rfl, rfl⟩
        go_wp2_with fail
        refine (obWithin_any s 0 3840 w0 false ⟨fun x => (by cases x), fun x => absurd x q3⟩).mono ?_
        rintro e w1 ⟨rfl, rfl⟩
        go_wp2_with fail
        go_ret
        exact ⟨rfl, HB.out⟩
    · obtain rfl : R = false := by
        cases R with
        | false => rfl
        | true =>
          have := (HR.out.1 rfl).1
          unfold HeadOb at this
          have hk := HK.out
          have hn := HN.out
          simp only at this
          omega
      clear HR HK HN HP
      go_enter Tryz.func46, Tryz.ntmps46
      go_wp2_with fail
      clear hw0
      refine (obWithin_any kz 1 7 w0 true ⟨fun _ => q1, fun _ => rfl⟩).mono ?_
      rintro e w1 ⟨rfl, rfl⟩
      go_wp2_with fail
      refine (obWithin_any l 0 255 w0 false ⟨fun x => (by cases x), fun x => absurd x q2⟩).mono ?_
      rintro e w1 ⟨rfl, rfl⟩
      go_wp2_with fail
      go_ret
      exact ⟨rfl, HB.out⟩
  · obtain rfl : R = false := by
      cases R with
      | false => rfl
      | true =>
        have := (HR.out.1 rfl).1
        unfold HeadOb at this
        have hk := HK.out
        have hn := HN.out
        simp only at this
        omega
    clear HR HK HN HP
    go_enter Tryz.func46, Tryz.ntmps46
    go_wp2_with fail
    clear hw0
    refine (obWithin_any kz 1 7 w0 false ⟨fun x => (by cases x), fun x => absurd x q1⟩).mono ?_
    rintro e w1 ⟨rfl, rfl⟩
    go_wp2_with fail
    go_ret
    exact ⟨rfl, HB.out⟩
end Go.Proofs.YtbggkfomfeeikaaGreatDoor
/-
  obj's heads, arrays of sixteen bytes: loads and stores of them whole, two compared as one; headOf and objectOf.
-/
namespace Go.Proofs.YtbggkfomfeeikaaGreatDoor
open Go.RowKit Go.Shelf
set_option maxRecDepth 100000

theorem ar_one16 (s : List UInt8) : (ar s).all (·.oneCell') = true := by
  refine Array.all_eq_true_iff_forall_mem.2 fun v hv => ?_
  simp only [ar, vals, List.mem_toArray, List.mem_map] at hv
  obtain ⟨x, _, rfl⟩ := hv
  rfl
/-- Sixteen noughts. -/
def zs : List UInt8 := List.replicate 16 0
/-- Sixteen noughts. -/
def zs16 : List UInt8 := List.replicate 16 0
theorem zs16_length : zs16.length = 16 := rfl
theorem infoA16 : (Tryz.prog.info? 82).map (·.size) = some 16 := by kernel_rfl
theorem arrayAt16 (a : Option Addr) (n c : Nat) (h : 16 ≤ n) (w : World) : (Instr.arrayAt 82 (.slice a n c)).run Tryz.prog w = .ok (.pointer a) w :=
  run_arrayAt w 82 5 16 a n c Tryz.underlying82 h
theorem sliceAt16_2 (g : Nat) (w : World) : (Instr.sliceAt 82 (.pointer (some ⟨g, 0, none⟩)) (some (.int .i64 2)) none none).run Tryz.prog w = .ok (.slice (some ⟨g, 2, none⟩) 14 14) w := by kernel_rfl

section
variable {P : Program} {ops : Array Oper} {Q : Exit → Act → World → Prop} {a : Act} {w : World} {rest : List Oper}
/-- The next operation is a load; a store. -/
theorem at_load16 {d : Option Tmp} {t ty : TypeId} {x : Operand} {pos : String} {af : Array Edge} (h : wpList P ops Q (⟨d, .load t x, ty, pos, af, none⟩ :: rest) a w) : wpList P ops Q (⟨d, .load t x, ty, pos, af, none⟩ :: rest) a w := h
theorem at_store16 {d : Option Tmp} {t ty : TypeId} {x y : Operand} {pos : String} {af : Array Edge} (h : wpList P ops Q (⟨d, .store t x y, ty, pos, af, none⟩ :: rest) a w) : wpList P ops Q (⟨d, .store t x y, ty, pos, af, none⟩ :: rest) a w := h
end
section
variable {ops : Array Oper} {Q : Exit → Act → World → Prop} {a : Act} {w : World} {rest : List Oper} {o : Oper}
theorem wpList_load16_bsl (hgd : o.guard = none) (x : Operand) (ho : o.op = .load 82 x) (g off cap B : Nat) (s : List UInt8) (hx : a.eval x = .pointer (some ⟨g, off, none⟩)) (hb : Bsl w B (some ⟨g, off, none⟩) 16 cap s)
    (h : wpList Tryz.prog ops Q rest (a.put o.dst (.agg (ar s))) w) : wpList Tryz.prog ops Q (o :: rest) a w :=
  wpList_load_mid hgd 82 x ho g off hx (vals s) _ (hb.range (by omega)) Tryz.underlying82 rfl (by rw [infoA16]; simp [vals, hb.1]) h
theorem wpList_load16 (hgd : o.guard = none) (x : Operand) (ho : o.op = .load 82 x) (g : Nat) (s : List UInt8) (hx : a.eval x = .pointer (some ⟨g, 0, none⟩)) (hb : Blk w g 82 (ar s)) (hs : s.length = 16)
    (h : wpList Tryz.prog ops Q rest (a.put o.dst (.agg (ar s))) w) : wpList Tryz.prog ops Q (o :: rest) a w :=
  wpList_load_row hgd 82 x ho g hx 82 (ar s) (0, 0) _ hb Tryz.underlying82 rfl (by rw [infoA16, ar_size, hs]) h
theorem wpList_store16 (hgd : o.guard = none) (x y : Operand) (ho : o.op = .store 82 x y) (g : Nat) (s old : List UInt8) (hx : a.eval x = .pointer (some ⟨g, 0, none⟩)) (hy : a.eval y = .agg (ar s)) (hs : s.length = 16) (hb : Blk w g 82 (ar old)) (hold : old.length = 16)
    (h : ∀ w', Blk w' g 82 (ar s) → w.grownBy w' (some g) → wpList Tryz.prog ops Q rest (a.put o.dst undef) w') : wpList Tryz.prog ops Q (o :: rest) a w :=
  wpList_store_row hgd 82 x y ho g (ar s) hx hy 82 (ar old) hb (by rw [infoA16, ar_size, hs]) (by rw [ar_size, ar_size, hs, hold]) (ar_one16 s)
    (h _ hb.setRow ⟨rfl, rfl, rfl, by simp, fun k _ hk => setRow_other w g k _ (fun e => hk (by rw [e]))⟩)
/-- copy(array[off:], src), where what is copied fits. -/
theorem wpList_copy_arr (hgd : o.guard = none) (d s : Operand)
    (ho : o.op = .call { callee := .builtin .copy, args := #[d, s], argTypes := #[27, 27] }) (ty : TypeId)
    (g off m n cap : Nat) (hd : a.eval d = .slice (some ⟨g, off, none⟩) m cap) (t : List UInt8) (hg : Blk w g ty (ar t))
    (B : Nat) (A : Option Addr) (c : Nat) (news : List UInt8) (hs : a.eval s = .slice A n c) (hb : Bsl w B A n c news) (hn : 0 < n) (hnm : n ≤ m) (hfit : off + n ≤ t.length)
    (h : ∀ w', Blk w' g ty (ar (ovrL t off news)) → w.grownBy w' (some g) → w'.heap.size = w.heap.size → wpList Tryz.prog ops Q rest (a.put o.dst (.int .i64 n)) w') : wpList Tryz.prog ops Q (o :: rest) a w := by
  obtain ⟨h1, h2, h3, h4, h5⟩ := hb
  obtain ⟨b, of, rfl, _, hc⟩ := h5 hn
  have hl : (vals news).length = n := by simp [vals, h1]
  refine wpList_copy_own hgd d s 27 27 ho 5 Tryz.underlying27 infoB1 g off m cap ⟨b, of, none⟩ n c hd hs (ar t) ty hg (vals news) (by rw [hl]; exact (Nat.min_eq_left hnm).symm) (fun j v hv => ?_) (by rw [hl, ar_size]; exact hfit) (fun v hv => ?_) ?_
  · obtain ⟨hj, rfl⟩ := vals_get hv
    have : (⟨b, of, none⟩ : Addr).add j = ⟨b, of + j, none⟩ := by unfold Addr.add; split <;> simp_all
    rw [this]
    exact hc j hj
  · obtain ⟨y, _, rfl⟩ := List.mem_map.1 hv
    rfl
  · have e : ((ar t).toList.take off ++ (vals news ++ (ar t).toList.drop (off + (vals news).length))).toArray = ar (ovrL t off news) := by
      rw [hl]
      simp [ar, ovrL, vals, h1]
    rw [e]
    have hx : (goInt (vals news).length) = .int .i64 n := by rw [hl]; rfl
    rw [hx]
    exact h _ (Blk.setRow hg) ⟨rfl, rfl, rfl, by simp [World.setRow], fun i hi hne => setRow_other w g i _ (fun e => hne (by rw [e]))⟩ (by simp [World.setRow])
end
theorem result16 {fn : Func} {p : Tmp} (h : fn.results = #[.cell p 82]) (tmps : Array Value) (w : World) (g : Nat) (s : List UInt8) (hp : tmps.getD p undef = .pointer (some ⟨g, 0, none⟩)) (hb : Blk w g 82 (ar s)) (hs : s.length = 16) :
    (results fn tmps).run Tryz.prog w = .ok (.agg (ar s)) w :=
  results_cell_row h tmps w g 82 (ar s) (0, 0) _ hp hb Tryz.underlying82 rfl (by rw [infoA16, ar_size, hs])
theorem eqItems_ar (s t : List UInt8) (w : World) : ∀ is : List Nat, (∀ i ∈ is, i < s.length ∧ i < t.length) → (Op.eqItems 9999 5 1 (ar s) (ar t) is).run Tryz.prog w = .ok (decide (∀ i ∈ is, s.getD i 0 = t.getD i 0)) w
  | [], _ => by simp [Op.eqItems]
  | i :: is, h => by
    obtain ⟨h1, h2⟩ := h i (List.mem_cons_self ..)
    have ih := eqItems_ar s t w is fun j hj => h j (List.mem_cons_of_mem _ hj)
    have g1 := ar_get s i h1
    have g2 := ar_get t i h2
    have e1 : (part 5 (ar s) (i * 1)).run Tryz.prog w = .ok (.int .u8 ((s[i]).toNat : Int)) w := run_part_plain w (by kernel_rfl) (by rw [Nat.mul_one]; exact g1)
    have e2 : (part 5 (ar t) (i * 1)).run Tryz.prog w = .ok (.int .u8 ((t[i]).toNat : Int)) w := run_part_plain w (by kernel_rfl) (by rw [Nat.mul_one]; exact g2)
    have e3 := run_equalIn_int (P := Tryz.prog) w 9998 5 .u8 .u8 ((s[i]).toNat : Int) ((t[i]).toNat : Int) Tryz.underlying5
    simp only [Op.eqItems, Sem.run_bind, e1, e2, e3, Result.andThen_ok]
    have q1 : s.getD i 0 = s[i] := by rw [List.getD_eq_getElem?_getD, List.getElem?_eq_getElem h1]; rfl
    have q2 : t.getD i 0 = t[i] := by rw [List.getD_eq_getElem?_getD, List.getElem?_eq_getElem h2]; rfl
    by_cases hq : s[i] = t[i]
    · rw [hq]
      simp only [BEq.rfl, Bool.not_true, Bool.false_eq_true, if_false, ih]
      congr 1
      rw [decide_eq_decide]
      simp only [List.mem_cons, forall_eq_or_imp, q1, q2, hq, true_and]
    · have hne : (((s[i]).toNat : Int) == ((t[i]).toNat : Int)) = false := by
        simp only [beq_eq_false_iff_ne, ne_eq]
        intro e
        exact hq (UInt8.toNat_inj.1 (by omega))
      rw [hne]
      simp only [Bool.not_false, if_true, Sem.run_pure]
      congr 1
      symm
      rw [decide_eq_false_iff_not]
      intro hall
      exact hq (by rw [← q1, ← q2]; exact hall i (List.mem_cons_self ..))
/-- Two arrays of sixteen bytes, compared as one. -/
theorem eq16 (s t : List UInt8) (hs : s.length = 16) (ht : t.length = 16) (w : World) : (Op.equalIn 10000 82 (.agg (ar s)) (.agg (ar t))).run Tryz.prog w = .ok (decide (s = t)) w := by
  obtain ⟨i0, hi, _⟩ := info_parts infoU8
  have hc : Tryz.prog.cellsOf 5 = 1 := by kernel_rfl
  rw [run_equalIn_array w 9999 (ar s) (ar t) Tryz.underlying82 hi, hc, eqItems_ar s t w (List.range 16) fun i h => by rw [hs, ht]; exact ⟨List.mem_range.1 h, List.mem_range.1 h⟩]
  congr 1
  rw [decide_eq_decide]
  constructor
  · intro h
    refine List.ext_getElem (by rw [hs, ht]) fun i h1 h2 => ?_
    have := h i (List.mem_range.2 (by omega))
    rwa [List.getD_eq_getElem?_getD, List.getD_eq_getElem?_getD, List.getElem?_eq_getElem h1, List.getElem?_eq_getElem h2] at this
  · rintro rfl _ _
    rfl
/-- code.Put of a number of two bytes. -/
theorem obPut_any (s : Nat) (hs : s < 65536) (w : World) : Calls Tryz.prog 76 #[.int .i64 (s : Int), .int .i64 2] w fun e w' => ∃ g, e = .returned (.tuple #[.slice (some ⟨g, 0, none⟩) 2 2, .int .i64 0]) ∧ Bsl w' w'.heap.size (some ⟨g, 0, none⟩) 2 2 (leB 2 s) ∧ Below w.heap.size w w' := by
  refine (put_at s 2 2 rfl (by omega) (by omega) (by omega) w).mono ?_
  rintro e w1 ⟨rfl, h2, b2, s2⟩
  exact ⟨_, rfl, bsl_of_holds (cap := 2) (leB_length 2 s) (Nat.le_refl _) (by unfold maxLen; omega) s2 h2, b2⟩
/-- The head's sixteen bytes. -/
def hd16 (k l s : Nat) : List UInt8 := [UInt8.ofNat k, UInt8.ofNat l] ++ leB 2 s ++ List.replicate 12 0
theorem hd16_length (k l s : Nat) : (hd16 k l s).length = 16 := by simp [hd16, leB_length]
theorem hd16_ovr (k l s : Nat) : ovrL ([UInt8.ofNat k, UInt8.ofNat l] ++ List.replicate 14 0) 2 (leB 2 s) = hd16 k l s := by
  unfold ovrL hd16
  rw [leB_length]
  simp
set_option maxHeartbeats 1000000 in
theorem obHead_any (a : Option Addr) (c : Nat) (k l s n : Nat) (w : World) (hk : k < 256) (hl : l < 256) (hs : s < 65536) : Calls Tryz.prog 48 #[.agg #[.int .u8 (k : Int), .int .i64 (l : Int), .int .i64 (s : Int), .slice a n c]] w fun e w' => e = .returned (.agg (ar (hd16 k l s))) ∧ Below w.heap.size w w' := by
  obtain ⟨W, hW⟩ : ∃ W, ((w.alloc (.cells #[.int .u8 (k : Int), .int .i64 (l : Int), .int .i64 (s : Int), .slice a n c] 40)).alloc (.cells (ar zs16) 82)).alloc (.cells (ar ([UInt8.ofNat k, UInt8.ofNat l] ++ List.replicate 14 0)) 82) = W := ⟨_, rfl⟩
  have hb : Below w.heap.size w W := by rw [← hW]; exact below_alloc3' _ _ _ _
  have hx : Blk W (w.heap.size + 1) 82 (ar zs16) := by
    rw [← hW]
    have := (Blk.new (w.alloc (.cells #[.int .u8 (k : Int), .int .i64 (l : Int), .int .i64 (s : Int), .slice a n c] 40)) 82 (ar zs16)).alloc (.cells (ar ([UInt8.ofNat k, UInt8.ofNat l] ++ List.replicate 14 0)) 82)
    rwa [World.size_alloc] at this
  have hy : Blk W (w.heap.size + 1 + 1) 82 (ar ([UInt8.ofNat k, UInt8.ofNat l] ++ List.replicate 14 0)) := by
    rw [← hW]
    have := Blk.new ((w.alloc (.cells #[.int .u8 (k : Int), .int .i64 (l : Int), .int .i64 (s : Int), .slice a n c] 40)).alloc (.cells (ar zs16) 82)) 82 (ar ([UInt8.ofNat k, UInt8.ofNat l] ++ List.replicate 14 0))
    rwa [World.size_alloc, World.size_alloc] at this
  have hzs : w.heap.size + 1 + 1 < W.heap.size := hy.lt
  have e1 : ar zs16 = #[.int .u8 0, .int .u8 0, .int .u8 0, .int .u8 0, .int .u8 0, .int .u8 0, .int .u8 0, .int .u8 0, .int .u8 0, .int .u8 0, .int .u8 0, .int .u8 0, .int .u8 0, .int .u8 0, .int .u8 0, .int .u8 0] := rfl
  have e2 : ar ([UInt8.ofNat k, UInt8.ofNat l] ++ List.replicate 14 0) = #[.int .u8 (k : Int), .int .u8 (l : Int), .int .u8 0, .int .u8 0, .int .u8 0, .int .u8 0, .int .u8 0, .int .u8 0, .int .u8 0, .int .u8 0, .int .u8 0, .int .u8 0, .int .u8 0, .int .u8 0, .int .u8 0, .int .u8 0] := by
    have : ar ([UInt8.ofNat k, UInt8.ofNat l] ++ List.replicate 14 0) = #[.int .u8 ((UInt8.ofNat k).toNat : Int), .int .u8 ((UInt8.ofNat l).toNat : Int), .int .u8 0, .int .u8 0, .int .u8 0, .int .u8 0, .int .u8 0, .int .u8 0, .int .u8 0, .int .u8 0, .int .u8 0, .int .u8 0, .int .u8 0, .int .u8 0, .int .u8 0, .int .u8 0] := rfl
    rw [this, ob8_of _ hk, ob8_of _ hl]
  rw [e1, e2] at hW
  have hp := obPut_any s hs W
  have HP := Lib.hid hp
  have HB := Lib.hid hb
  have HX := Lib.hid hx
  have HY := Lib.hid hy
  have HZ := Lib.hid hzs
  have HW := Lib.hid hW
  clear hp hb hx hy hzs hW e1 e2 hs
  have sl := sliceAt16_2
  go_enter Tryz.func48, Tryz.ntmps48
  go_wp2_with fail
  rw [HW.out]
  refine HP.out.mono ?_
  rintro e w1 ⟨g, rfl, hs1, b1⟩
  have HS1 := Lib.hid hs1
  have HX1 := Lib.hid (HX.out.below b1 (by have := HZ.out; omega))
  have HY1 := Lib.hid (HY.out.below b1 HZ.out)
  have HB1 := Lib.hid (HB.out.trans (b1.mono HB.out.size))
  clear hs1 b1
  go_wp2_with (first
    | (with_reducible refine copyAt ?_
       refine wpList_copy_arr rfl (.tmp 18) (.tmp 19) rfl 82 (w.heap.size + 1 + 1) 2 14 2 14 rfl ([UInt8.ofNat k, UInt8.ofNat l] ++ List.replicate 14 0) HY1.out w1.heap.size (some ⟨g, 0, none⟩) 2 (leB 2 s) rfl HS1.out (by omega) (by omega) (by simp) ?_
       intro w2 x2 g2 _
       rw [hd16_ovr] at x2
       have HY2 := Lib.hid x2
       have HX2 := Lib.hid (HX1.out.grown g2 (fun e => by injection e; omega))
       have HB2 := Lib.hid (below_only HB1.out (by omega) g2 HB1.out.size)
       clear x2 g2)
    | (with_reducible refine at_load16 ?_
       refine wpList_load16 rfl (.tmp 3) rfl (w.heap.size + 1 + 1) (hd16 k l s) rfl HY2.out (hd16_length k l s) ?_)
    | (with_reducible refine at_store16 ?_
       refine wpList_store16 rfl (.tmp 2) (.tmp 21) rfl (w.heap.size + 1) (hd16 k l s) zs16 rfl rfl (hd16_length k l s) HX2.out zs16_length ?_
       intro w3 hx3 hg3
       have HX3 := Lib.hid hx3
       have HB3 := Lib.hid (below_only HB2.out (by omega) hg3 HB2.out.size)
       clear hx3 hg3))
  exact bodyPost_ret (v := .agg (ar (hd16 k l s))) (result16 rfl _ _ (w.heap.size + 1) _ rfl HX3.out (hd16_length k l s)) rfl ⟨rfl, HB3.out⟩
/-- What objectOf answers. -/
def hdO (h : List UInt8) : Nat × Nat × Nat := ((h.getD 0 0).toNat, (h.getD 1 0).toNat, leN ((h.drop 2).take 2))
set_option maxHeartbeats 1000000 in
theorem obObject_any (h : List UInt8) (hl : h.length = 16) (a : Option Addr) (n c : Nat) (w : World) : Calls Tryz.prog 84 #[.agg (ar h), .slice a n c] w fun e w' => e = .returned (.agg #[.int .u8 ((hdO h).1 : Int), .int .i64 ((hdO h).2.1 : Int), .int .i64 ((hdO h).2.2 : Int), .slice a n c]) ∧ Below w.heap.size w w' := by
  obtain ⟨W, hW⟩ : ∃ W, (w.alloc (.cells (ar h) 82)).alloc (.cells #[.int .u8 0, .int .i64 0, .int .i64 0, .slice none 0 0] 40) = W := ⟨_, rfl⟩
  have hb : Below w.heap.size w W := by rw [← hW]; exact ((Below.refl _ w).alloc (Nat.le_refl _) _).alloc (by rw [World.size_alloc]; omega) _
  have hx : Blk W w.heap.size 82 (ar h) := by rw [← hW]; exact (Blk.new w _ _).alloc _
  have hz : Blk W (w.heap.size + 1) 40 #[.int .u8 0, .int .i64 0, .int .i64 0, .slice none 0 0] := by
    rw [← hW]
    have := Blk.new (w.alloc (.cells (ar h) 82)) 40 #[.int .u8 0, .int .i64 0, .int .i64 0, .slice none 0 0]
    rwa [World.size_alloc] at this
  have hA : Bsl W W.heap.size (some ⟨w.heap.size, 0, none⟩) 16 16 h := hx.bsl hl (by omega)
  have HG := Lib.hid (callsIn_wide.1 (get_in 3 (Nat.le_refl _) w.heap.size 0 16 16 2 2 h hl (Nat.le_refl _) (by omega) (by omega) (by omega) (by omega) W hx.lt (by obtain ⟨b, off, e, _, hc⟩ := hA.2.2.2.2 (by omega); cases e; exact hc)))
  have HB := Lib.hid hb
  have HX := Lib.hid hx
  have HZ := Lib.hid hz
  have HW := Lib.hid hW
  have hho : hdO h = ((h.getD 0 0).toNat, (h.getD 1 0).toNat, leN ((h.drop 2).take 2)) := rfl
  obtain ⟨x0, hx0⟩ : ∃ n, (h.getD 0 0).toNat = n := ⟨_, rfl⟩
  obtain ⟨x1, hx1⟩ : ∃ n, (h.getD 1 0).toNat = n := ⟨_, rfl⟩
  obtain ⟨x2, hx2⟩ : ∃ n, leN ((h.drop 2).take 2) = n := ⟨_, rfl⟩
  have y0 := (h.getD 0 0).toNat_lt
  have y1 := (h.getD 1 0).toNat_lt
  rw [hx0] at y0
  rw [hx1] at y1
  rw [hx0, hx1, hx2] at hho
  rw [hho]
  simp only
  rw [hx2] at HG
  have HX0 := Lib.hid hx0
  have HX1 := Lib.hid hx1
  clear hb hx hz hA hW hho hx0 hx1 hx2
  go_enter Tryz.func84, Tryz.ntmps84
  go_wp2_with fail
  rw [HW.out]
  refine HG.out.mono ?_
  rintro e w1 ⟨rfl, b1⟩
  have hx1 := HX.out.below b1 HX.out.lt
  have hA1 := hx1.bsl hl (by omega)
  have k0 := hA1.cellD 0 (by omega)
  have k1 := hA1.cellD 1 (by omega)
  rw [HX0.out] at k0
  rw [HX1.out] at k1
  have hz1 := HZ.out.below b1 HZ.out.lt
  have m0 := ox0 hz1
  have m1 := ox1 hz1
  have m2 := ox2 hz1
  have m3 := ox3 hz1
  have hfz := fun i => hz1.frozen i
  have xz := hz1.set4 (.int .u8 (x0 : Int)) (.int .i64 (x1 : Int)) (.int .i64 (x2 : Int)) (.slice a n c)
  have bz := below_set4 (HB.out.trans (b1.mono HB.out.size)) (show w.heap.size ≤ w.heap.size + 1 by omega) (.int .u8 (x0 : Int)) (.int .i64 (x1 : Int)) (.int .i64 (x2 : Int)) (.slice a n c)
  obtain ⟨wz, hwz⟩ : ∃ X, (((w1.setCell ⟨w.heap.size + 1, 0, none⟩ (.int .u8 (x0 : Int))).setCell ⟨w.heap.size + 1, 1, none⟩ (.int .i64 (x1 : Int))).setCell ⟨w.heap.size + 1, 2, none⟩ (.int .i64 (x2 : Int))).setCell ⟨w.heap.size + 1, 3, none⟩ (.slice a n c) = X := ⟨_, rfl⟩
  rw [hwz] at xz bz
  have HXZ := Lib.hid xz
  have HBZ := Lib.hid bz
  clear xz bz hz1 hA1 hx1 b1
  rw [Nat.zero_add] at k0 k1
  go_wp2_with fail
  clear m0 m1 m2 m3 hfz hwz k0 k1
  have e0 := ox0 HXZ.out
  have e1 := ox1 HXZ.out
  have e2 := ox2 HXZ.out
  have e3 := ox3 HXZ.out
  refine bodyPost_ret (v := .agg #[.int .u8 (x0 : Int), .int .i64 (x1 : Int), .int .i64 (x2 : Int), .slice a n c]) (by simp [results, Tryz.f84, go_sem, e0, e1, e2, e3]) rfl ?_
  exact ⟨rfl, HBZ.out⟩
end Go.Proofs.YtbggkfomfeeikaaGreatDoor
/-
  obj.Write, whatever object it is handed; nothing that was there is written.
-/
namespace Go.Proofs.YtbggkfomfeeikaaGreatDoor
open Go.RowKit Go.Shelf
set_option maxRecDepth 100000

section
variable {ops : Array Oper} {Q : Exit → Act → World → Prop} {a : Act} {w : World} {rest : List Oper} {o : Oper}
end
theorem head_bytes (k l s : Nat) (Lp : List Pt) (hs : s < 65536) : hd16 k l s = headB (k, (l : Int), (s : Int), Lp) ++ List.replicate 12 0 := by
  have e0 : byteAt s 0 = UInt8.ofNat (s % 256) := UInt8.toNat_inj.1 (by rw [byteAt_toNat, ob8_of _ (by omega)]; simp)
  have e1 : byteAt s 1 = UInt8.ofNat (s / 256) := UInt8.toNat_inj.1 (by rw [byteAt_toNat, ob8_of _ (by omega)]; omega)
  show [UInt8.ofNat k, UInt8.ofNat l] ++ [byteAt s 0, byteAt s 1] ++ List.replicate 12 0 = _
  rw [e0, e1]
  rfl
end Go.Proofs.YtbggkfomfeeikaaGreatDoor
/-
  append(b, make([]byte, m)...) where b is a row of the call's own.
-/
namespace Go.Proofs.YtbggkfomfeeikaaGreatDoor
open Go.RowKit Go.Shelf
set_option maxRecDepth 100000

theorem zero_cells (m : Nat) : Builtin.zeroCells (Value.int .u8 0).cells m = (vals (List.replicate m 0)).toArray := by
  apply Array.ext
  · simp [Builtin.zeroCells, Value.cells, vals]
  · intro i h1 h2
    simp [Builtin.zeroCells, Value.cells, vals, Nat.mod_one]
theorem run_app_noughts {w : World} (base ty : Nat) (v : Value) (n : Nat) (xs : List UInt8) (hown : w.ownsRow base 5 1 v n (vals xs)) (m : Nat) (hn : 0 < n) (hm : 0 < m) (hnm : n + m ≤ 100000) (hbase : base ≤ w.heap.size) :
    ∃ v' w', (Builtin.append_ #[27, 3] ty #[v, .int .i64 (m : Int)]).run Tryz.prog w = .ok v' w' ∧ w'.ownsRow base 5 1 v' (n + m) (vals (xs ++ List.replicate m 0)) ∧ w.grownBy w' v.ownBlock := by
  obtain ⟨i0, hi, hz0, hz1, hz2⟩ := info_parts infoU8
  have ht : Tryz.prog.underlying 27 = some (.slice 5) := Tryz.underlying27
  have htn : Tryz.prog.underlying 3 = some (.int .i64) := Tryz.underlying3
  have hw : IntKind.i64.wrap (m : Int) = m := by rw [IntKind.wrap_i64]; omega
  have hneg : ¬ ((m : Int) < 0) := by omega
  have h48i : ¬ (281474976710656 < (m : Int) * (i0.bytes : Int)) := by rw [hz2]; omega
  have hm0 : ¬ (m = 0) := by omega
  have hxl : xs.length = n := by have := hown.1; simpa [vals] using this
  rcases hown.2 with ⟨rfl, h0⟩ | ⟨g, cap, cur, rfl, hbg, hg, hnc, hcm, hcs, htake⟩
  · omega
  · have hcat : vals (xs ++ List.replicate m 0) = vals xs ++ vals (List.replicate m 0) := by simp [vals]
    have hvl : (vals (List.replicate m (0 : UInt8))).length = m := by simp [vals]
    have hlen : (vals xs ++ vals (List.replicate m 0)).length = (n + m) * 1 := by rw [List.length_append, hvl, hown.1]; omega
    by_cases hroom : n + m ≤ cap
    · have hst := run_storeCells_at Tryz.prog g (n * 1) 5 (vals (List.replicate m 0)) 0 cur w hg (by rw [hvl, hcs]; omega) (fun u hu => by obtain ⟨y, _, rfl⟩ := List.mem_map.1 hu; rfl)
      simp only [Nat.add_zero, Nat.mul_one] at hst
      refine ⟨.slice (some ⟨g, 0, none⟩) (n + m) cap, w.setRow g (cur.toList.take (n * 1) ++ vals (List.replicate m 0) ++ cur.toList.drop (n * 1 + (vals (List.replicate m (0 : UInt8))).length)).toArray, ?_, ?_, ?_⟩
      rotate_left
      · rw [hcat]
        refine ⟨hlen, .inr ⟨g, cap, _, rfl, hbg, setRow_heap w g cur _ 5 _ hg, hroom, hcm, ?_, ?_⟩⟩
        · simp only [List.size_toArray, List.length_append, List.length_take, List.length_drop, Array.length_toList, hvl]
          omega
        · rw [htake, ← hlen]
          exact List.take_left
      · exact ⟨rfl, rfl, rfl, by simp [World.setRow], fun k _ hk => setRow_other w g k _ (fun e => hk (by simp [Value.ownBlock, e]))⟩
      · simp [Builtin.append_, run_underlying ht, run_underlying htn, sizeOf, typeInfo, zeroValue, hi, hz0, hz1, asInt, asIntOf, hw, hneg, h48i, hm0, hroom, zero_cells, Addr.add_lit]
        rw [hst]
        simp [Result.andThen]
    · have hold := run_firstCells_some (P := Tryz.prog) w.drew 1 n ⟨g, 0, none⟩ n cap (vals xs) hown.1 (by simpa using hown.cells (g := g) rfl)
      have hge := grownCap_ge w (n + m) cap 5
      have hcm2 : grownCap w (n + m) cap 5 ≤ maxLen := grownCap_le_maxLen w (n + m) cap 5 (by unfold maxLen; omega)
      have h63' : ¬ (9223372036854775807 < ((n : Int) + (m : Int))) := by omega
      have h48' : ¬ (281474976710656 < Builtin.nextslicecap (n + m) cap * i0.bytes) := by
        have := growslice_fits (need := n + m) (old := cap) (bytes := 1) (by omega) (by omega)
        rw [hz2]
        omega
      refine ⟨.slice (some ⟨w.heap.size, 0, none⟩) (n + m) (grownCap w (n + m) cap 5), w.drew.alloc (.cells ((vals xs).toArray ++ (vals (List.replicate m 0)).toArray ++ Builtin.zeroCells (Value.int .u8 0).cells (grownCap w (n + m) cap 5 - (n + m))) 5), ?_, ?_, ?_⟩
      · simp [Builtin.append_, run_underlying ht, run_underlying htn, sizeOf, typeInfo, zeroValue, hi, hz0, hz1, asInt, asIntOf, hw, hneg, h48i, hm0, hroom, h63', h48', Question.forced, zero_cells, hold, newRow, grownCap]
      · rw [hcat]
        refine ⟨hlen, .inr ⟨w.heap.size, _, _, rfl, hbase, heap_alloc_new w.drew _, hge, hcm2, ?_, ?_⟩⟩
        · simp only [Array.size_append, List.size_toArray, size_zeroCells, hown.1, hvl]
          simp [Value.cells]
          omega
        · simp only [Array.toList_append, List.append_assoc]
          rw [← List.append_assoc, ← hlen]
          exact List.take_left
      · exact ⟨rfl, rfl, rfl, by simp, fun k hk _ => heap_alloc_old w.drew _ hk⟩
end Go.Proofs.YtbggkfomfeeikaaGreatDoor
/-
  The document's own Block and Write of layer 14.
-/
namespace Go.Proofs.YtbggkfomfeeikaaGreatDoor
open Go.RowKit Go.Shelf
set_option maxRecDepth 100000

theorem own_fresh (w : World) (s : List UInt8) (hs : s.length ≤ 1000) : (w.alloc (.cells (ar s) 5)).ownsRow w.heap.size 5 1 (.slice (some ⟨w.heap.size, 0, none⟩) s.length s.length) s.length (vals s) := by
  exact ⟨by simp [vals], .inr ⟨w.heap.size, s.length, _, rfl, Nat.le_refl _, heap_alloc_new w _, Nat.le_refl _, by unfold maxLen; omega, by simp [ar, vals], by simp [ar, vals, List.take_of_length_le]⟩⟩
theorem head_cells (k l s : Nat) (hk : k < 256) (hl : l < 256) (hs : s ≤ 3840) (L : List Pt) : ar (headB (k, (l : Int), (s : Int), L)) = #[.int .u8 (k : Int), .int .u8 (l : Int), .int .u8 ((s : Int) % 256), .int .u8 ((s : Int) / 256)] := by
  unfold ar vals headB
  simp only [Int.toNat_natCast, List.map_cons, List.map_nil]
  rw [ob8_of _ hk, ob8_of _ hl, ob8_of _ (by omega), ob8_of _ (by omega)]
  simp only [Int.natCast_emod, Int.natCast_ediv]
  rfl
set_option maxHeartbeats 4000000 in
theorem roBlock_any (a : Option Addr) (c : Nat) (O : ObL) (w : World) (h : Pts w w.heap.size a O.2.2.2.length c O.2.2.2) (hm : MayOb O) : Calls Tryz.prog 91 #[obV a c O] w (OwnV 256 (blockOb O) w) := by
  have hwfa : ∀ p ∈ O.2.2.2, WfP p := fun p hp => h.wf hp
  obtain ⟨k, l, s, Lp⟩ := O
  obtain ⟨⟨hk, hl, hs, hn⟩, hall⟩ := hm
  simp only at hk hl hs hn hall h hwfa
  obtain ⟨l, rfl⟩ : ∃ n : Nat, l = (n : Int) := ⟨l.toNat, by omega⟩
  obtain ⟨s, rfl⟩ : ∃ n : Nat, s = (n : Int) := ⟨s.toNat, by omega⟩
  have hce := head_cells k l s (by omega) (by omega) (by omega) Lp
  have hbl : blockOb (k, (l : Int), (s : Int), Lp) = headB (k, (l : Int), (s : Int), Lp) ++ List.replicate 12 0 ++ dataTo Lp 15 := rfl
  obtain ⟨H, hH⟩ : ∃ H, headB (k, (l : Int), (s : Int), Lp) = H := ⟨_, rfl⟩
  have hHl : H.length = 4 := by rw [← hH]; rfl
  rw [hH] at hce hbl
  rw [hbl]
  simp only [obV]
  rw [hn] at h ⊢
  have xb := Blk.new w 40 #[.int .u8 (k : Int), .int .i64 (l : Int), .int .i64 (s : Int), .slice a 15 c]
  have b0 := (Below.refl w.heap.size w).alloc (Nat.le_refl _) (.cells #[.int .u8 (k : Int), .int .i64 (l : Int), .int .i64 (s : Int), .slice a 15 c] 40)
  obtain ⟨w0, hw0⟩ : ∃ w0, w.alloc (.cells #[.int .u8 (k : Int), .int .i64 (l : Int), .int .i64 (s : Int), .slice a 15 c] 40) = w0 := ⟨_, rfl⟩
  rw [hw0] at xb b0
  have c0 := ox0 xb
  have c1 := ox1 xb
  have c2 := ox2 xb
  have c3 := ox3 xb
  have l0 : (0 : Int) ≤ l := by omega
  have l1 : (l : Int) < 256 := by omega
  have s0 : (0 : Int) ≤ s := by omega
  have s1 : (s : Int) ≤ 3840 := by omega
  have HX := Lib.hid xb
  have HB := Lib.hid b0
  have HP := Lib.hid (h.step b0)
  have HAL := Lib.hid hall
  have HWF := Lib.hid hwfa
  have HN := Lib.hid hn
  have ho1 := own_fresh w0 H (by omega)
  rw [hce, hHl] at ho1
  have HO1 := Lib.hid ho1
  have hb1 := (Below.refl w0.heap.size w0).alloc (Nat.le_refl _) (.cells #[.int .u8 (k : Int), .int .u8 (l : Int), .int .u8 ((s : Int) % 256), .int .u8 ((s : Int) / 256)] 5)
  have HB1 := Lib.hid hb1
  have HHL := Lib.hid hHl
  clear h hk hl hs hn hall hwfa hce hbl hH hHl xb b0 ho1 hb1
  go_enter Tryz.func91, Tryz.ntmps91
  go_wp2_with (at_builtin
               obtain ⟨vB, wB, hB1, oB, gB⟩ := run_app_noughts w0.heap.size 27 _ 4 H HO1.out 12 (by omega) (by omega) (by omega) HB1.out.size
               refine Lib.wpList_append_run _ rfl (.tmp 19) (.const (.int .i64 12)) 27 3 rfl (.slice (some ⟨w0.heap.size, 0, none⟩) 4 4) (.int .i64 12) rfl rfl vB wB hB1 ?_
               have HBB := Lib.hid (app_below HB1.out HO1.out gB HB1.out.size)
               have HOB := Lib.hid oB
               clear oB gB hB1)
  clear c0 c1 c2 c3 l0 l1 s0 s1 hw0
  go_loopw [3, 4] (fun v i wr => ∃ j : Nat, j ≤ 15 ∧ i = .int .i64 j ∧ wr.ownsRow w0.heap.size 5 1 v (16 + 16 * j) (vals (H ++ List.replicate 12 0 ++ dataTo Lp j)) ∧ Below w0.heap.size w0 wr) (fun _ i _ => 15 - (intOf i).toNat)
  case atStart => exact ⟨0, Nat.zero_le _, rfl, by have := HOB.out; simpa [dataTo] using this, HBB.out⟩
  case round =>
    obtain ⟨j, hj, rfl, ho, hb⟩ := hrel
    have j0 : (0 : Int) ≤ j := by omega
    have HO := Lib.hid ho
    have HBR := Lib.hid hb
    have c3 := ox3 (HX.out.below hb HX.out.lt)
    clear ho hb
    obtain ⟨v, hv⟩ : ∃ v : Value, u3 = v := ⟨_, rfl⟩
    rw [hv] at HO ⊢
    clear hv
    by_cases hlt : j < 15
    · have j1 : (j : Int) < 15 := by omega
      obtain ⟨bp, op_, ea, hblt, hwf, p0_, p1_, p2_, p3_, p4_⟩ := (HP.out.below HBR.out).cells j hlt
      have hst := dataTo_step Lp j
      have hmP : MayP (Lp.getD j p0) := by
        have hi : j < Lp.length := by rw [HN.out]; exact hlt
        rw [List.getD_eq_getElem?_getD, List.getElem?_eq_getElem hi]
        exact HAL.out _ (List.getElem_mem hi)
      obtain ⟨P, hP⟩ : ∃ P, Lp.getD j p0 = P := ⟨_, rfl⟩
      rw [hP] at hwf p0_ p1_ p2_ p3_ p4_ hst hmP
      rw [ea] at c3
      have HBY := Lib.hid (rpBytes_any P hwf hmP.room wr)
      have HST := Lib.hid hst
      clear ea hst hmP hP hblt hwf
      obtain ⟨a', b', c', d', e'⟩ := P
      go_wp2_with fail
      clear c3 p0_ p1_ p2_ p3_ p4_
      refine HBY.out.mono ?_
      rintro ev w1 ⟨x1, rfl, o1, b1⟩
      obtain ⟨A1, C1, rfl, s1⟩ := own_to o1
      have HBA := Lib.hid (HBR.out.trans (b1.mono HBR.out.size))
      have HOA := Lib.hid (own_below HO.out b1)
      have HS1 := Lib.hid s1
      clear o1 b1 s1
      go_wp2_with (at_builtin
                   refine wpList_append_bsl rfl (.tmp 25) (.tmp 31) rfl w0.heap.size v (16 + 16 * j) _ rfl HOA.out w1.heap.size A1 16 C1 _ rfl HS1.out (by omega) HBA.out.size ?_
                   intro v2 w2 h2 hg2
                   rw [List.append_assoc _ (dataTo Lp j), ← HST.out] at h2
                   have HO2 := Lib.hid h2
                   have HB2 := Lib.hid (app_below HBA.out HOA.out hg2 HBA.out.size)
                   clear h2 hg2)
      go_roundw
      case rel => exact ⟨j + 1, by omega, by go_num, by rw [Nat.mul_add, Nat.mul_one, ← Nat.add_assoc]; exact HO2.out, HB2.out⟩
      case measure => simp [intOf]; omega
    · obtain rfl : j = 15 := by omega
      go_wp2_with fail
      go_ret
      exact ⟨_, rfl, own_mono HO.out HB.out.size, HB.out.trans (HBR.out.mono HB.out.size)⟩
end Go.Proofs.YtbggkfomfeeikaaGreatDoor
/-
  The document's own Read of layer 14.
-/
namespace Go.Proofs.YtbggkfomfeeikaaGreatDoor
open Go.RowKit Go.Shelf
set_option maxRecDepth 100000

theorem outOb_no (c : Nat) {w w' : World} (hb : Below w.heap.size w w') : OutOb (ob0, c) w (.returned (.tuple #[.agg #[.int .u8 0, .int .i64 0, .int .i64 0, .slice none 0 0], .int .i64 c])) w' := ⟨_, rfl, prow_nil _ _, hb⟩
theorem slice_ob (W : World) (b off cap j : Nat) (h : j < 15) (hc : 256 ≤ cap) : (Instr.slice 27 (.slice (some ⟨b, off, none⟩) 256 cap) (some (.int .i64 (16 + 16 * (j : Int)))) (some (.int .i64 (32 + 16 * (j : Int)))) none).run Tryz.prog W = .ok (.slice (some ⟨b, off + (16 + 16 * j), none⟩) 16 (cap - (16 + 16 * j))) W := by
  have := slice_lh W b off 256 cap (16 + 16 * j) 16 (by omega) (by omega)
  rw [show ((16 + 16 * j : Nat) : Int) + (16 : Nat) = 32 + 16 * (j : Int) by omega, show ((16 + 16 * j : Nat) : Int) = 16 + 16 * (j : Int) by omega] at this
  exact this
theorem far4 {w : World} {g g' : Nat} {t : TypeId} {cs : Array Value} (h : Blk w g' t cs) (hne : g' ≠ g) (v0 v1 v2 v3 : Value) : Blk ((((w.setCell ⟨g, 0, none⟩ v0).setCell ⟨g, 1, none⟩ v1).setCell ⟨g, 2, none⟩ v2).setCell ⟨g, 3, none⟩ v3) g' t cs :=
  (((h.far (p := ⟨g, 0, none⟩) hne v0).far (p := ⟨g, 1, none⟩) hne v1).far (p := ⟨g, 2, none⟩) hne v2).far (p := ⟨g, 3, none⟩) hne v3
set_option maxHeartbeats 8000000 in
theorem roRead_any (a : Option Addr) (c : Nat) (b : List UInt8) (w : World) (hA : Bsl w w.heap.size a b.length c b) : Calls Tryz.prog 62 #[.slice a b.length c] w (OutOb (oreadO b) w) := by
  have hmx : Tryz.prog.follows Departure.mixedOrders = true := by kernel_rfl
  have hl9 := hA.len_le
  have l0 : (0 : Int) ≤ b.length := by omega
  have xb := Blk.new w 40 #[.int .u8 0, .int .i64 0, .int .i64 0, .slice none 0 0]
  have b0 := (Below.refl w.heap.size w).alloc (Nat.le_refl _) (.cells #[.int .u8 0, .int .i64 0, .int .i64 0, .slice none 0 0] 40)
  obtain ⟨w0, hw0⟩ : ∃ w0, w.alloc (.cells #[.int .u8 0, .int .i64 0, .int .i64 0, .slice none 0 0] 40) = w0 := ⟨_, rfl⟩
  have hz0 : w0.heap.size = w.heap.size + 1 := by rw [← hw0, World.size_alloc]
  rw [hw0] at xb b0
  obtain ⟨g, hg⟩ : ∃ g, w.heap.size = g := ⟨_, rfl⟩
  have HGE := Lib.hid (show w.heap.size ≤ g by omega)
  have HG0 := Lib.hid (show g < w0.heap.size by omega)
  rw [hg] at xb
  have HZ := Lib.hid xb
  have HB := Lib.hid b0
  have HA := Lib.hid hA
  clear xb b0 hA hz0
  by_cases h : b.length = 256
  · have HL := Lib.hid h
    have hA := HA.out
    rw [h] at hA ⊢
    obtain ⟨bb, off, rfl, hbb, _⟩ := hA.2.2.2.2 (by omega)
    have hcap := hA.2.1
    have k0 := hA.cellD 0 (by omega)
    have k1 := hA.cellD 1 (by omega)
    have k2 := hA.cellD 2 (by omega)
    have k3 := hA.cellD 3 (by omega)
    have y0 := (b.getD 0 0).toNat_lt
    have y1 := (b.getD 1 0).toNat_lt
    have y2 := (b.getD 2 0).toNat_lt
    have y3 := (b.getD 3 0).toNat_lt
    have hho : headOb b = ((b.getD 0 0).toNat, ((b.getD 1 0).toNat : Int), ((b.getD 2 0).toNat : Int) + 256 * ((b.getD 3 0).toNat : Int)) := rfl
    obtain ⟨x0, hx0⟩ : ∃ n, (b.getD 0 0).toNat = n := ⟨_, rfl⟩
    obtain ⟨x1, hx1⟩ : ∃ n, (b.getD 1 0).toNat = n := ⟨_, rfl⟩
    obtain ⟨x2, hx2⟩ : ∃ n, (b.getD 2 0).toNat = n := ⟨_, rfl⟩
    obtain ⟨x3, hx3⟩ : ∃ n, (b.getD 3 0).toNat = n := ⟨_, rfl⟩
    rw [hx0] at k0 y0 hho
    rw [hx1] at k1 y1 hho
    rw [hx2] at k2 y2 hho
    rw [hx3] at k3 y3 hho
    rw [Nat.add_zero] at k0
    have HHO := Lib.hid hho
    have HAA := Lib.hid hA
    have e1 : (((256 : Nat) : Int) != 256) = false := rfl
    have xu2 : (0 : Int) ≤ x2 := by omega
    have xu2' : (x2 : Int) ≤ 255 := by omega
    have xu3 : (0 : Int) ≤ x3 := by omega
    have xu3' : (x3 : Int) ≤ 255 := by omega
    have xu1' : (x1 : Int) ≤ 255 := by omega
    have v1_ : IntKind.i64.wrap (x1 : Int) = x1 := by rw [IntKind.wrap_i64]; omega
    have v2_ : IntKind.i64.wrap (x2 : Int) = x2 := by rw [IntKind.wrap_i64]; omega
    have v3_ : IntKind.i64.wrap (x3 : Int) = x3 := by rw [IntKind.wrap_i64]; omega
    have v4_ : IntKind.i64.wrap (256 * (x3 : Int)) = 256 * (x3 : Int) := by rw [IntKind.wrap_i64]; omega
    have v5_ : IntKind.i64.wrap ((x2 : Int) + 256 * (x3 : Int)) = (x2 : Int) + 256 * (x3 : Int) := by rw [IntKind.wrap_i64]; omega
    have HK := Lib.hid (And.intro k0 (And.intro k1 (And.intro k2 k3)))
    clear h HA hA hho hx0 hx1 hx2 hx3 k0 k1 k2 k3 y0 y1 y2 y3
    go_enter Tryz.func62, Tryz.ntmps62
    go_wp2_with fail
    try rw [hw0]
    try rw [hg]
    obtain ⟨wd, hwd⟩ : ∃ wd, w0.drew = wd := ⟨_, rfl⟩
    have bb0 : Below w0.heap.size w0 wd := by rw [← hwd]; exact (Below.refl _ w0).drew
    replace HZ := Lib.hid (HZ.out.below bb0 HZ.out.lt)
    replace HB := Lib.hid (HB.out.trans (bb0.mono HB.out.size))
    have HGD := Lib.hid (Nat.lt_of_lt_of_le HG0.out bb0.size)
    have bw : Below w.heap.size w wd := HB.out
    have C0 := fun X (hX : Below wd.heap.size wd X) => ((bw.trans (hX.mono bw.size)).cell (p := ⟨bb, off, none⟩) hbb).trans HK.out.1
    have C1 := fun X (hX : Below wd.heap.size wd X) => ((bw.trans (hX.mono bw.size)).cell (p := ⟨bb, off + 1, none⟩) hbb).trans HK.out.2.1
    have C2 := fun X (hX : Below wd.heap.size wd X) => ((bw.trans (hX.mono bw.size)).cell (p := ⟨bb, off + 2, none⟩) hbb).trans HK.out.2.2.1
    have C3 := fun X (hX : Below wd.heap.size wd X) => ((bw.trans (hX.mono bw.size)).cell (p := ⟨bb, off + 3, none⟩) hbb).trans HK.out.2.2.2
    have hwd0 := Below.refl wd.heap.size wd
    refine wpI_start (Below wd.heap.size wd) [0, 1, 2, 3, 4, 5, 6, 7, 8, 9, 10, 11, 12, 13, 14, 15, 16, 17, 18, 19] hmx rfl hwd ?_
    clear hwd bb0 hw0 hg bw
    iterate 18 (
      refine wpI_read (v := ?_) hwd0 rfl (by kernel_rfl) (by kernel_rfl) (by kernel_rfl) (fun _ _ _ h => h) (.inl ⟨by rfl, ?_⟩) ?_
      rotate_left
      · intro X hX
        have j0 := C0 X hX
        have j1 := C1 X hX
        have j2 := C2 X hX
        have j3 := C3 X hX
        clear hX
        go_simp
        with_reducible rfl
      try simp only [Act.put, List.setIfInBounds_toArray, List.set_cons_zero, List.set_cons_succ])
    clear C0 C1 C2 C3 HK e1 l0 hl9 v1_ v2_ v3_ v4_ v5_ xu1'
    refine wpI_lone rfl (by kernel_rfl) (fun K hK => ?_)
    go_simp
    have bq := (Below.refl wd.heap.size wd).alloc (Nat.le_refl _) (.cells #[.int .u8 0, .int .i64 0, .int .i64 0, .slice none 0 0] 40)
    have hx := Blk.new wd 40 #[.int .u8 0, .int .i64 0, .int .i64 0, .slice none 0 0]
    obtain ⟨w1, hn⟩ : ∃ X, wd.alloc (.cells #[.int .u8 0, .int .i64 0, .int .i64 0, .slice none 0 0] 40) = X := ⟨_, rfl⟩
    obtain ⟨g4, hg4⟩ : ∃ X, wd.heap.size = X := ⟨_, rfl⟩
    have hz1 : w1.heap.size = wd.heap.size + 1 := by rw [← hn, World.size_alloc]
    rw [hn] at bq hx ⊢
    have hsb := bq
    rw [hg4] at hx ⊢
    have HG4 := Lib.hid (show g < g4 ∧ w.heap.size ≤ g4 ∧ g4 < w1.heap.size by have := HGD.out; have := HGE.out; omega)
    replace HZ := Lib.hid (HZ.out.below bq HZ.out.lt)
    replace HB := Lib.hid (HB.out.trans (bq.mono HB.out.size))
    refine hK _ _ hsb ?_
    clear hK K hn hwd0 bq hz1
    try simp only [Act.put, List.setIfInBounds_toArray, List.set_cons_zero, List.set_cons_succ]
    refine wpI_lone rfl (by kernel_rfl) (fun K hK => ?_)
    have m0 := ox0 hx
    have m1 := ox1 hx
    have m2 := ox2 hx
    have m3 := ox3 hx
    have hfz := fun i => hx.frozen i
    have xo := hx.set4 (.int .u8 (x0 : Int)) (.int .i64 (x1 : Int)) (.int .i64 ((x2 : Int) + 256 * (x3 : Int))) (.slice none 0 0)
    have bo := below_set4 hsb (Nat.le_of_eq hg4) (.int .u8 (x0 : Int)) (.int .i64 (x1 : Int)) (.int .i64 ((x2 : Int) + 256 * (x3 : Int))) (.slice none 0 0)
    have bB := below_set4 HB.out HG4.out.2.1 (.int .u8 (x0 : Int)) (.int .i64 (x1 : Int)) (.int .i64 ((x2 : Int) + 256 * (x3 : Int))) (.slice none 0 0)
    have hfar := far4 HZ.out (show g ≠ g4 by have := HG4.out.1; omega) (.int .u8 (x0 : Int)) (.int .i64 (x1 : Int)) (.int .i64 ((x2 : Int) + 256 * (x3 : Int))) (.slice none 0 0)
    obtain ⟨w2, hn⟩ : ∃ X, (((w1.setCell ⟨g4, 0, none⟩ (.int .u8 (x0 : Int))).setCell ⟨g4, 1, none⟩ (.int .i64 (x1 : Int))).setCell ⟨g4, 2, none⟩ (.int .i64 ((x2 : Int) + 256 * (x3 : Int)))).setCell ⟨g4, 3, none⟩ (.slice none 0 0) = X := ⟨_, rfl⟩
    have hz2 : w2.heap.size = w1.heap.size := by rw [← hn]; simp [World.setCell]
    rw [hn] at xo bo bB hfar
    go_simp
    refine hK _ _ bo ?_
    have HX := Lib.hid xo
    replace HZ := Lib.hid hfar
    replace HB := Lib.hid bB
    have HB2 := Lib.hid (show g4 < w2.heap.size by rw [hz2]; exact HG4.out.2.2)
    clear hK K hn hx hsb xo bo bB hfar hfz m0 m1 m2 m3 hz2 hg4 HGD HG0
    try simp only [Act.put, List.setIfInBounds_toArray, List.set_cons_zero, List.set_cons_succ]
    refine wpI_done (by kernel_rfl) ?_
    go_wp2_with fail
    go_loopw [5] (fun i wr => ∃ (j : Nat) (v : Value), j ≤ 15 ∧ i = .int .i64 j ∧ (∀ t, t < j → MayP (getP (winOb b t))) ∧ Blk wr g4 40 #[.int .u8 (x0 : Int), .int .i64 (x1 : Int), .int .i64 ((x2 : Int) + 256 * (x3 : Int)), v] ∧ Blk wr g 40 #[.int .u8 0, .int .i64 0, .int .i64 0, .slice none 0 0] ∧ PRow wr w2.heap.size v (ptsOb b j) ∧ w2.heap.size ≤ wr.heap.size ∧ Below w.heap.size w wr) (fun i _ => 15 - (intOf i).toNat)
    case atStart => exact ⟨0, _, Nat.zero_le _, rfl, fun t ht => absurd ht (Nat.not_lt_zero _), HX.out, HZ.out, prow_nil _ _, Nat.le_refl _, HB.out⟩
    case round =>
      clear HX HZ HB xu2 xu2' xu3 xu3'
      obtain ⟨j, v, hj, rfl, hmay, hx, hz, hrow, hsz, hb⟩ := hrel
      have j0 : (0 : Int) ≤ j := by omega
      have HX := Lib.hid hx
      have HZ := Lib.hid hz
      have HR := Lib.hid hrow
      have HS := Lib.hid hsz
      have HB := Lib.hid hb
      have HM := Lib.hid hmay
      clear hmay hx hz hrow hsz hb
      by_cases hlt : j < 15
      · have j1 : (j : Int) < 15 := by omega
        have hsl := fun W => slice_ob W bb off c j hlt hcap
        have hbw := ((HAA.out.below HB.out).more HB.out.size).win (16 + 16 * j) 16 (by omega)
        have hrd := rpRead_any _ 16 _ _ wr hbw
        have hlen : ((b.drop (16 + 16 * j)).take 16).length = 16 := win_length (by have := HL.out; omega)
        rw [preadO, if_pos hlen] at hrd
        rw [show (b.drop (16 + 16 * j)).take 16 = winOb b j from rfl] at hrd
        have hst := ptsOb_step b j
        have hwf := wf_getP (winOb b j)
        obtain ⟨P, hP⟩ : ∃ P, getP (winOb b j) = P := ⟨_, rfl⟩
        rw [hP] at hrd hst hwf
        have HST := Lib.hid hst
        have HPE := Lib.hid hP
        have HWF := Lib.hid hwf
        have HPL := Lib.hid (ptsOb_length b j)
        clear hst hP hwf hlen hbw
        by_cases hm : MayP P
        · rw [if_pos hm] at hrd
          have HMP := Lib.hid hm
          clear hm
          obtain ⟨a', b', c', d', e'⟩ := P
          have HRD := Lib.hid hrd
          clear hrd
          go_wp2_with (first
            | (go_at_call 89
               refine HRD.out.mono ?_
               rintro ev w1 ⟨rfl, b1⟩
               have bx := (Below.refl w1.heap.size w1).alloc (Nat.le_refl _) (.cells (ptC (a', b', c', d', e')).toArray 32)
               have by_ := bx.alloc bx.size (.cells (ptC (a', b', c', d', e')).toArray 32)
               have bz := b1.trans (by_.mono b1.size)
               have HB1 := Lib.hid (HB.out.trans (bz.mono HB.out.size))
               have HO1 := Lib.hid (HR.out.below bz)
               have HX1 := Lib.hid (HX.out.below bz HX.out.lt)
               have HZ1 := Lib.hid (HZ.out.below bz HZ.out.lt)
               have HS1 := Lib.hid (Nat.le_trans HS.out bz.size)
               have hpt := one_pts (w1.alloc (.cells (ptC (a', b', c', d', e')).toArray 32)) (a', b', c', d', e') HWF.out
               rw [World.size_alloc, World.size_alloc] at hpt
               have HPT := Lib.hid hpt
               have hx1 := HX.out.below b1 HX.out.lt
               have c3 : ∀ o : Obj, (w1.alloc o).cell? ⟨g4, 3, none⟩ = some v := fun o => ox3 (hx1.below ((Below.refl w1.heap.size w1).alloc (Nat.le_refl _) o) hx1.lt)
               clear hx1
               clear hpt
               clear b1 bx by_ bz)
            | (at_builtin
               refine wpList_append_prow rfl (.tmp 50) (.tmp 52) rfl w2.heap.size v _ rfl HO1.out _ _ 1 1 [(a', b', c', d', e')] rfl HPT.out (by rw [HPL.out]; omega) HS1.out ?_
               intro v2 w4 h2 hg2
               rw [← HST.out] at h2
               obtain ⟨av2, cv2, rfl, _⟩ := h2.pts
               have hb4 := app_below (Below.refl w2.heap.size _) HO1.out.1 hg2 HS1.out
               have hx4 := HX1.out.below hb4 (show g4 < w2.heap.size from HB2.out)
               have hz4 := HZ1.out.below hb4 (show g < w2.heap.size by have := HB2.out; have := HG4.out.1; omega)
               have hf4 := fun i => hx4.frozen i
               have c3' := ox3 hx4
               have hb4' := HB1.out.trans (hb4.mono (show w.heap.size ≤ w2.heap.size by have := HB2.out; have := HG4.out.2.1; omega))
               have HB5 := Lib.hid (hb4'.setCell (p := ⟨g4, 3, none⟩) HG4.out.2.1 (.slice av2 (ptsOb b (j + 1)).length cv2))
               have HX5 := Lib.hid (show Blk (w4.setCell ⟨g4, 3, none⟩ (.slice av2 (ptsOb b (j + 1)).length cv2)) g4 40 #[.int .u8 (x0 : Int), .int .i64 (x1 : Int), .int .i64 ((x2 : Int) + 256 * (x3 : Int)), .slice av2 (ptsOb b (j + 1)).length cv2] from hx4.set_ 3 (.slice av2 (ptsOb b (j + 1)).length cv2))
               have HZ5 := Lib.hid (hz4.far (p := ⟨g4, 3, none⟩) (show g ≠ g4 by have := HG4.out.1; omega) (.slice av2 (ptsOb b (j + 1)).length cv2))
               have HR5 := Lib.hid (h2.own (only_setCell (World.grownBy.refl w4 (some g4)) (p := ⟨g4, 3, none⟩) (.inl rfl) (.slice av2 (ptsOb b (j + 1)).length cv2)) (fun k hk e => by have h1 := (h2.1.lt k hk).1; have h3 := HB2.out; omega))
               have HS5 := Lib.hid (show w2.heap.size ≤ (w4.setCell ⟨g4, 3, none⟩ (.slice av2 (ptsOb b (j + 1)).length cv2)).heap.size from Nat.le_trans HS1.out (Nat.le_trans hb4.size (by simp [World.setCell])))
               clear h2 hg2 hb4 hx4 hz4 hb4'))
          go_roundw
          case rel =>
            refine ⟨j + 1, _, by omega, by go_num, fun t ht => ?_, HX5.out, HZ5.out, HR5.out, HS5.out, HB5.out⟩
            by_cases e : t = j
            · subst e
              rw [HPE.out]
              exact HMP.out
            · exact HM.out t (by omega)
          case measure => simp [intOf]; omega
        · rw [if_neg hm] at hrd
          have hno : oreadO b = (ob0, 8) := by
            unfold oreadO
            rw [if_pos HL.out, if_neg]
            rintro ⟨⟨_, hall⟩, _⟩
            refine hm ?_
            rw [← HPE.out]
            exact hall _ (List.mem_map.2 ⟨j, List.mem_range.2 hlt, rfl⟩)
          rw [hno]
          clear hm hno
          have HRD := Lib.hid hrd
          clear hrd
          go_wp2_with fail
          refine HRD.out.mono ?_
          rintro ev w1 ⟨rfl, b1⟩
          have bx := (Below.refl w1.heap.size w1).alloc (Nat.le_refl _) (.cells #[.int .i64 0, .int .u32 0, .int .u32 0, .int .u32 0, .int .u32 0] 32)
          have bz := b1.trans (bx.mono b1.size)
          have hz5 := HZ.out.below bz HZ.out.lt
          have hb5 := HB.out.trans (bz.mono HB.out.size)
          have m0 := ox0 hz5
          have m1 := ox1 hz5
          have m2 := ox2 hz5
          have m3 := ox3 hz5
          have hfz := fun i => hz5.frozen i
          have xz := hz5.set4 (.int .u8 0) (.int .i64 0) (.int .i64 0) (.slice none 0 0)
          have bz5 := below_set4 hb5 HGE.out (.int .u8 0) (.int .i64 0) (.int .i64 0) (.slice none 0 0)
          obtain ⟨wz, hwz⟩ : ∃ X, ((((w1.alloc (.cells #[.int .i64 0, .int .u32 0, .int .u32 0, .int .u32 0, .int .u32 0] 32)).setCell ⟨g, 0, none⟩ (.int .u8 0)).setCell ⟨g, 1, none⟩ (.int .i64 0)).setCell ⟨g, 2, none⟩ (.int .i64 0)).setCell ⟨g, 3, none⟩ (.slice none 0 0) = X := ⟨_, rfl⟩
          rw [hwz] at xz bz5
          have HXZ := Lib.hid xz
          have HBZ := Lib.hid bz5
          clear b1 bx bz hz5 hb5 xz bz5
          go_wp2_with fail
          clear m0 m1 m2 m3 hfz hwz
          have e0 := ox0 HXZ.out
          have e1 := ox1 HXZ.out
          have e2 := ox2 HXZ.out
          have e3 := ox3 HXZ.out
          refine bodyPost_ret (v := .tuple #[.agg #[.int .u8 0, .int .i64 0, .int .i64 0, .slice none 0 0], .int .i64 8]) (by simp [results, Tryz.f62, go_sem, e0, e1, e2, e3]) rfl ?_
          exact outOb_no 8 HBZ.out
      · obtain rfl : j = 15 := by omega
        clear hlt hj HM
        obtain ⟨av, cv, rfl, hpts⟩ := HR.out.pts
        have hxo : Blk wr g4 40 (obC av cv (decOb b)) := by
          have := HX.out
          unfold decOb
          rw [HHO.out]
          exact this
        have hro : PRow wr w2.heap.size (.slice av (decOb b).2.2.2.length cv) (decOb b).2.2.2 := HR.out
        have hpo : Pts wr wr.heap.size av (decOb b).2.2.2.length cv (decOb b).2.2.2 := hpts
        have hwo := decOb_wf b
        have hor : ∀ (h : MayOb (decOb b) ∧ blockOb (decOb b) = b), oreadO b = (decOb b, 0) := fun h => by unfold oreadO; rw [if_pos HL.out, if_pos h]
        have hon : ∀ (h : ¬ (MayOb (decOb b) ∧ blockOb (decOb b) = b)), oreadO b = (ob0, 8) := fun h => by unfold oreadO; rw [if_pos HL.out, if_neg h]
        rw [show (.slice av (ptsOb b 15).length cv : Value) = .slice av (decOb b).2.2.2.length cv from rfl] at HR
        obtain ⟨O, hO⟩ : ∃ O, decOb b = O := ⟨_, rfl⟩
        rw [hO] at hxo hro hpo hwo hor hon
        have HX' := Lib.hid hxo
        have HRO := Lib.hid hro
        have HPO := Lib.hid hpo
        have HOR := Lib.hid hor
        have HON := Lib.hid hon
        clear hpts hxo hro hpo hor hon hO HX HR
        go_wp2_with fail
        obtain ⟨wd, hwd⟩ : ∃ X, wr.drew = X := ⟨_, rfl⟩
        have bb0 : Below wr.heap.size wr wd := by rw [← hwd]; exact (Below.refl _ wr).drew
        replace HX' := Lib.hid (HX'.out.below bb0 HX'.out.lt)
        replace HRO := Lib.hid (HRO.out.below bb0)
        replace HPO := Lib.hid (HPO.out.step bb0)
        replace HZ := Lib.hid (HZ.out.below bb0 HZ.out.lt)
        replace HB := Lib.hid (HB.out.trans (bb0.mono HB.out.size))
        have hs0 := And.intro HX'.out HB.out
        refine wpI_start (fun X => Blk X g4 40 (obC av cv O) ∧ Below w.heap.size w X) [0, 1, 2, 3, 4, 7, 8, 5, 6, 9, 10] hmx rfl hwd ?_
        clear hwd bb0
        iterate 1 (
          refine wpI_read (v := ?_) hs0 rfl (by kernel_rfl) (by kernel_rfl) (by kernel_rfl) (fun _ _ _ h => h) (.inl ⟨by rfl, ?_⟩) ?_
          rotate_left
          · intro X hX
            obtain ⟨hx, hb⟩ := hX
            have j0 := ox0 hx
            have j1 := ox1 hx
            have j2 := ox2 hx
            have j3 := ox3 hx
            have jc := Bsl.conv (Bsl.below HAA.out hb)
            clear hx hb
            go_simp
            with_reducible rfl
          try simp only [Act.put, List.setIfInBounds_toArray, List.set_cons_zero, List.set_cons_succ])
        by_cases hm : MayOb O
        · have HC := Lib.hid (roMay_any av cv O wd HPO.out hwo true ⟨fun _ => hm, fun _ => rfl⟩)
          refine wpI_lone rfl (by kernel_rfl) (fun K hK => ?_)
          go_simp
          refine HC.out.mono ?_
          rintro ev w5 ⟨rfl, b1⟩
          replace HX' := Lib.hid (HX'.out.below b1 HX'.out.lt)
          replace HRO := Lib.hid (HRO.out.below b1)
          replace HPO := Lib.hid (HPO.out.step b1)
          replace HZ := Lib.hid (HZ.out.below b1 HZ.out.lt)
          replace HB := Lib.hid (HB.out.trans (b1.mono HB.out.size))
          have hs1 := And.intro HX'.out HB.out
          refine hK _ _ hs1 ?_
          clear hK K hs0 b1 HC
          try simp only [Act.put, List.setIfInBounds_toArray, List.set_cons_zero, List.set_cons_succ]
          iterate 5 (
            refine wpI_read (v := ?_) hs1 rfl (by kernel_rfl) (by kernel_rfl) (by kernel_rfl) (fun _ _ _ h => h) (.inl ⟨by rfl, ?_⟩) ?_
            rotate_left
            · intro X hX
              obtain ⟨hx, hb⟩ := hX
              have j0 := ox0 hx
              have j1 := ox1 hx
              have j2 := ox2 hx
              have j3 := ox3 hx
              have jc := Bsl.conv (Bsl.below HAA.out hb)
              clear hx hb
              go_simp
              with_reducible rfl
            try simp only [Act.put, List.setIfInBounds_toArray, List.set_cons_zero, List.set_cons_succ])
          have HC := Lib.hid (roBlock_any av cv O w5 HPO.out hm)
          refine wpI_lone rfl (by kernel_rfl) (fun K hK => ?_)
          go_simp
          refine HC.out.mono ?_
          rintro ev w6 ⟨vb, rfl, ho, b1⟩
          obtain ⟨ab, cb, rfl⟩ := own_slice ho
          replace HX' := Lib.hid (HX'.out.below b1 HX'.out.lt)
          replace HRO := Lib.hid (HRO.out.below b1)
          replace HPO := Lib.hid (HPO.out.step b1)
          replace HZ := Lib.hid (HZ.out.below b1 HZ.out.lt)
          replace HB := Lib.hid (HB.out.trans (b1.mono HB.out.size))
          have hs2 := And.intro HX'.out HB.out
          refine hK _ _ hs2 ?_
          clear hK K hs1 b1 HC
          try simp only [Act.put, List.setIfInBounds_toArray, List.set_cons_zero, List.set_cons_succ]
          refine wpI_lone rfl (by kernel_rfl) (fun K hK => ?_)
          have V1 := (own_bsl ho).conv
          go_simp
          refine hK _ _ hs2 ?_
          clear hK K V1 ho
          try simp only [Act.put, List.setIfInBounds_toArray, List.set_cons_zero, List.set_cons_succ]
          by_cases hbe : blockOb O = b
          · have HOQ := Lib.hid (HOR.out ⟨hm, hbe⟩)
            have e2 : ((strOf (blockOb O)).toList == (strOf b).toList) = true := by rw [hbe]; simp
            clear hbe hm
            iterate 2 (
              refine wpI_read (v := ?_) hs2 rfl (by kernel_rfl) (by kernel_rfl) (by kernel_rfl) (fun _ _ _ h => h) (.inl ⟨by rfl, ?_⟩) ?_
              rotate_left
              · intro X hX
                obtain ⟨hx, hb⟩ := hX
                have j0 := ox0 hx
                have j1 := ox1 hx
                have j2 := ox2 hx
                have j3 := ox3 hx
                have jc := Bsl.conv (Bsl.below HAA.out hb)
                clear hx hb
                go_simp
                with_reducible rfl
              try simp only [Act.put, List.setIfInBounds_toArray, List.set_cons_zero, List.set_cons_succ])
            refine wpI_done (by kernel_rfl) ?_
            clear hs2 e2
            have m0 := ox0 HZ.out
            have m1 := ox1 HZ.out
            have m2 := ox2 HZ.out
            have m3 := ox3 HZ.out
            have hfz := fun i => HZ.out.frozen i
            have n0 := ox0 HX'.out
            have n1 := ox1 HX'.out
            have n2 := ox2 HX'.out
            have n3 := ox3 HX'.out
            have xz := HZ.out.set4 (.int .u8 (O.1 : Int)) (.int .i64 O.2.1) (.int .i64 O.2.2.1) (.slice av O.2.2.2.length cv)
            have bz := below_set4 HB.out HGE.out (.int .u8 (O.1 : Int)) (.int .i64 O.2.1) (.int .i64 O.2.2.1) (.slice av O.2.2.2.length cv)
            have hr := HRO.out.own (only_set4 (World.grownBy.refl w6 (some g)) (.int .u8 (O.1 : Int)) (.int .i64 O.2.1) (.int .i64 O.2.2.1) (.slice av O.2.2.2.length cv)) (fun k hk e => by have h1 := (HRO.out.1.lt k hk).1; have h3 := HB2.out; have := HG4.out.1; omega)
            obtain ⟨wz, hwz⟩ : ∃ X, (((w6.setCell ⟨g, 0, none⟩ (.int .u8 (O.1 : Int))).setCell ⟨g, 1, none⟩ (.int .i64 O.2.1)).setCell ⟨g, 2, none⟩ (.int .i64 O.2.2.1)).setCell ⟨g, 3, none⟩ (.slice av O.2.2.2.length cv) = X := ⟨_, rfl⟩
            rw [hwz] at xz bz hr
            have HXZ := Lib.hid xz
            have HBZ := Lib.hid bz
            have HRZ := Lib.hid hr
            clear xz bz hr
            go_wp2_with fail
            clear m0 m1 m2 m3 n0 n1 n2 n3 hfz hwz
            have e0 := ox0 HXZ.out
            have e1 := ox1 HXZ.out
            have e2 := ox2 HXZ.out
            have e3 := ox3 HXZ.out
            refine bodyPost_ret (v := .tuple #[.agg #[.int .u8 (O.1 : Int), .int .i64 O.2.1, .int .i64 O.2.2.1, .slice av O.2.2.2.length cv], .int .i64 0]) (by simp [results, Tryz.f62, go_sem, e0, e1, e2, e3]) rfl ?_
            rw [HOQ.out]
            exact ⟨_, rfl, HRZ.out.mono (show w.heap.size ≤ w2.heap.size by have := HB2.out; have := HG4.out.2.1; omega), HBZ.out⟩
          · have HOQ := Lib.hid (HON.out (fun h => hbe h.2))
            have e2 : ((strOf (blockOb O)).toList == (strOf b).toList) = false := by simp [strOf_toList, hbe]
            clear hbe hm
            iterate 2 (
              refine wpI_read (v := ?_) hs2 rfl (by kernel_rfl) (by kernel_rfl) (by kernel_rfl) (fun _ _ _ h => h) (.inl ⟨by rfl, ?_⟩) ?_
              rotate_left
              · intro X hX
                obtain ⟨hx, hb⟩ := hX
                have j0 := ox0 hx
                have j1 := ox1 hx
                have j2 := ox2 hx
                have j3 := ox3 hx
                have jc := Bsl.conv (Bsl.below HAA.out hb)
                clear hx hb
                go_simp
                with_reducible rfl
              try simp only [Act.put, List.setIfInBounds_toArray, List.set_cons_zero, List.set_cons_succ])
            refine wpI_done (by kernel_rfl) ?_
            clear hs2 e2
            have m0 := ox0 HZ.out
            have m1 := ox1 HZ.out
            have m2 := ox2 HZ.out
            have m3 := ox3 HZ.out
            have hfz := fun i => HZ.out.frozen i
            have xz := HZ.out.set4 (.int .u8 0) (.int .i64 0) (.int .i64 0) (.slice none 0 0)
            have bz := below_set4 HB.out HGE.out (.int .u8 0) (.int .i64 0) (.int .i64 0) (.slice none 0 0)
            obtain ⟨wz, hwz⟩ : ∃ X, (((w6.setCell ⟨g, 0, none⟩ (.int .u8 0)).setCell ⟨g, 1, none⟩ (.int .i64 0)).setCell ⟨g, 2, none⟩ (.int .i64 0)).setCell ⟨g, 3, none⟩ (.slice none 0 0) = X := ⟨_, rfl⟩
            rw [hwz] at xz bz
            have HXZ := Lib.hid xz
            have HBZ := Lib.hid bz
            clear xz bz
            go_wp2_with fail
            clear m0 m1 m2 m3 hfz hwz
            have e0 := ox0 HXZ.out
            have e1 := ox1 HXZ.out
            have e2 := ox2 HXZ.out
            have e3 := ox3 HXZ.out
            refine bodyPost_ret (v := .tuple #[.agg #[.int .u8 0, .int .i64 0, .int .i64 0, .slice none 0 0], .int .i64 8]) (by simp [results, Tryz.f62, go_sem, e0, e1, e2, e3]) rfl ?_
            rw [HOQ.out]
            exact outOb_no 8 HBZ.out
        · have HC := Lib.hid (roMay_any av cv O wd HPO.out hwo false ⟨fun h => (by cases h), fun h => absurd h hm⟩)
          refine wpI_lone rfl (by kernel_rfl) (fun K hK => ?_)
          go_simp
          refine HC.out.mono ?_
          rintro ev w5 ⟨rfl, b1⟩
          replace HX' := Lib.hid (HX'.out.below b1 HX'.out.lt)
          replace HRO := Lib.hid (HRO.out.below b1)
          replace HPO := Lib.hid (HPO.out.step b1)
          replace HZ := Lib.hid (HZ.out.below b1 HZ.out.lt)
          replace HB := Lib.hid (HB.out.trans (b1.mono HB.out.size))
          have hs1 := And.intro HX'.out HB.out
          refine hK _ _ hs1 ?_
          clear hK K hs0 b1 HC
          try simp only [Act.put, List.setIfInBounds_toArray, List.set_cons_zero, List.set_cons_succ]
          have HOQ := Lib.hid (HON.out (fun h => hm h.1))
          clear hm
          iterate 2 (
            refine wpI_read (v := ?_) hs1 rfl (by kernel_rfl) (by kernel_rfl) (by kernel_rfl) (fun _ _ _ h => h) (.inl ⟨by rfl, ?_⟩) ?_
            rotate_left
            · intro X hX
              obtain ⟨hx, hb⟩ := hX
              have j0 := ox0 hx
              have j1 := ox1 hx
              have j2 := ox2 hx
              have j3 := ox3 hx
              have jc := Bsl.conv (Bsl.below HAA.out hb)
              clear hx hb
              go_simp
              with_reducible rfl
            try simp only [Act.put, List.setIfInBounds_toArray, List.set_cons_zero, List.set_cons_succ])
          iterate 6 (
            refine wpI_read (v := undef) hs1 rfl (by kernel_rfl) (by kernel_rfl) (by kernel_rfl) (fun _ _ _ h => h) (.inr ⟨by rfl, rfl⟩) ?_
            try simp only [Act.put, List.setIfInBounds_toArray, List.set_cons_zero, List.set_cons_succ])
          iterate 1 (
            refine wpI_read (v := ?_) hs1 rfl (by kernel_rfl) (by kernel_rfl) (by kernel_rfl) (fun _ _ _ h => h) (.inl ⟨by rfl, ?_⟩) ?_
            rotate_left
            · intro X hX
              obtain ⟨hx, hb⟩ := hX
              have j0 := ox0 hx
              have j1 := ox1 hx
              have j2 := ox2 hx
              have j3 := ox3 hx
              have jc := Bsl.conv (Bsl.below HAA.out hb)
              clear hx hb
              go_simp
              with_reducible rfl
            try simp only [Act.put, List.setIfInBounds_toArray, List.set_cons_zero, List.set_cons_succ])
          refine wpI_done (by kernel_rfl) ?_
          clear hs1
          have m0 := ox0 HZ.out
          have m1 := ox1 HZ.out
          have m2 := ox2 HZ.out
          have m3 := ox3 HZ.out
          have hfz := fun i => HZ.out.frozen i
          have xz := HZ.out.set4 (.int .u8 0) (.int .i64 0) (.int .i64 0) (.slice none 0 0)
          have bz := below_set4 HB.out HGE.out (.int .u8 0) (.int .i64 0) (.int .i64 0) (.slice none 0 0)
          obtain ⟨wz, hwz⟩ : ∃ X, (((w5.setCell ⟨g, 0, none⟩ (.int .u8 0)).setCell ⟨g, 1, none⟩ (.int .i64 0)).setCell ⟨g, 2, none⟩ (.int .i64 0)).setCell ⟨g, 3, none⟩ (.slice none 0 0) = X := ⟨_, rfl⟩
          rw [hwz] at xz bz
          have HXZ := Lib.hid xz
          have HBZ := Lib.hid bz
          clear xz bz
          go_wp2_with fail
          clear m0 m1 m2 m3 hfz hwz
          have e0 := ox0 HXZ.out
          have e1 := ox1 HXZ.out
          have e2 := ox2 HXZ.out
          have e3 := ox3 HXZ.out
          refine bodyPost_ret (v := .tuple #[.agg #[.int .u8 0, .int .i64 0, .int .i64 0, .slice none 0 0], .int .i64 8]) (by simp [results, Tryz.f62, go_sem, e0, e1, e2, e3]) rfl ?_
          rw [HOQ.out]
          exact outOb_no 8 HBZ.out
  · have HO := Lib.hid (show oreadO b = (ob0, 3) by unfold oreadO; rw [if_neg h])
    rw [HO.out]
    have e1 : ((b.length : Int) != 256) = true := by simp; omega
    have m0 := ox0 HZ.out
    have m1 := ox1 HZ.out
    have m2 := ox2 HZ.out
    have m3 := ox3 HZ.out
    have hfz := fun i => HZ.out.frozen i
    have xz := HZ.out.set4 (.int .u8 0) (.int .i64 0) (.int .i64 0) (.slice none 0 0)
    have bz := below_set4 HB.out HGE.out (.int .u8 0) (.int .i64 0) (.int .i64 0) (.slice none 0 0)
    obtain ⟨wz, hwz⟩ : ∃ X, (((w0.setCell ⟨g, 0, none⟩ (.int .u8 0)).setCell ⟨g, 1, none⟩ (.int .i64 0)).setCell ⟨g, 2, none⟩ (.int .i64 0)).setCell ⟨g, 3, none⟩ (.slice none 0 0) = X := ⟨_, rfl⟩
    rw [hwz] at xz bz
    have HXZ := Lib.hid xz
    have HBZ := Lib.hid bz
    clear xz bz h
    go_enter Tryz.func62, Tryz.ntmps62
    go_wp2_with fail
    clear m0 m1 m2 m3 hfz hwz hw0
    have e0 := ox0 HXZ.out
    have e1 := ox1 HXZ.out
    have e2 := ox2 HXZ.out
    have e3 := ox3 HXZ.out
    refine bodyPost_ret (v := .tuple #[.agg #[.int .u8 0, .int .i64 0, .int .i64 0, .slice none 0 0], .int .i64 3]) (by simp [results, Tryz.f62, go_sem, e0, e1, e2, e3]) rfl ?_
    exact outOb_no 3 HBZ.out
end Go.Proofs.YtbggkfomfeeikaaGreatDoor
