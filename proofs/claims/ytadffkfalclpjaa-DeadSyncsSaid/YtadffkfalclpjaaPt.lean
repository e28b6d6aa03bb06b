/-
  Words for pointers by value (api.Ptr): five numbers; two of them compared; a row of them in memory.
-/
import Derived.Test.YtadffkfalclpjaaOwn
import Derived.Test.YtadffkfalclpjaaByt
import Derived.Laws.StructEq
namespace Go.Proofs.Ytadffkfalclpjaa
open Go.RowKit Go.Shelf
set_option maxRecDepth 100000

/-- A pointer: At, Birth, Iv, Tag, Sum. -/
abbrev Pt := Int × Nat × Nat × Nat × Nat
/-- The pointer as a value. -/
@[reducible] def ptV (p : Pt) : Value := .agg #[.int .i64 p.1, .int .u32 (p.2.1 : Int), .int .u32 (p.2.2.1 : Int), .int .u32 (p.2.2.2.1 : Int), .int .u32 (p.2.2.2.2 : Int)]
/-- Its cells. -/
def ptC (p : Pt) : List Value := [.int .i64 p.1, .int .u32 (p.2.1 : Int), .int .u32 (p.2.2.1 : Int), .int .u32 (p.2.2.2.1 : Int), .int .u32 (p.2.2.2.2 : Int)]
/-- Each of its numbers is one of its kind. -/
def WfP (p : Pt) : Prop := (-9223372036854775808 ≤ p.1 ∧ p.1 ≤ 9223372036854775807) ∧ p.2.1 < 4294967296 ∧ p.2.2.1 < 4294967296 ∧ p.2.2.2.1 < 4294967296 ∧ p.2.2.2.2 < 4294967296
/-- None. -/
abbrev p0 : Pt := (0, 0, 0, 0, 0)
theorem wf_p0 : WfP p0 := ⟨⟨by decide, by decide⟩, by decide, by decide, by decide, by decide⟩
/-- A pointer may be. -/
def MayP (p : Pt) : Prop := p = p0 ∨ ((12 ≤ p.1 ∧ p.1 < 256) ∧ 1 ≤ p.2.1 ∧ p.2.1 ≤ 16777215)
instance (p : Pt) : Decidable (MayP p) := by unfold MayP; exact inferInstance
theorem may_p0 : MayP p0 := .inl rfl

/-- Two pointers are the same just where their numbers are. -/
def eqP (p q : Pt) : Bool := decide (p = q)
theorem eqP_iff (p q : Pt) : eqP p q = true ↔ p = q := by simp [eqP]
theorem eqP_parts (p q : Pt) : eqP p q = ((p.1 == q.1) && (((p.2.1 : Nat) : Int) == ((q.2.1 : Nat) : Int) && (((p.2.2.1 : Nat) : Int) == ((q.2.2.1 : Nat) : Int) && (((p.2.2.2.1 : Nat) : Int) == ((q.2.2.2.1 : Nat) : Int) && ((p.2.2.2.2 : Nat) : Int) == ((q.2.2.2.2 : Nat) : Int))))) := by
  obtain ⟨a, b, c, d, e⟩ := p
  obtain ⟨a', b', c', d', e'⟩ := q
  rw [Bool.eq_iff_iff]
  simp [eqP]
  omega
theorem eqF_step {P : Program} {w : World} {d : Nat} {xs ys : Array Value} {f : Field} {fs : List Field} {a b : Value} {r R : Bool} (hn : f.name ≠ "_") (ha : (part f.type xs f.offset).run P w = .ok a w) (hb : (part f.type ys f.offset).run P w = .ok b w)
    (he : (Op.equalIn d f.type a b).run P w = .ok r w) (hr : (Op.eqFields d xs ys fs).run P w = .ok R w) : (Op.eqFields d xs ys (f :: fs)).run P w = .ok (r && R) w := by
  simp only [Op.eqFields, if_pos hn, Sem.run_bind, ha, hb, he, Result.andThen_ok]
  cases r <;> simp [hr]
theorem eqPt (p q : Pt) (w : World) : (Op.equalIn 10000 25 (ptV p) (ptV q)).run Try.prog w = .ok (eqP p q) w := by
  have hu : Try.prog.underlying 25 = some (.struct (Try.prog.fieldsOf 25)) := by kernel_rfl
  have hs : Try.prog.stoodInHeld 25 = false := by kernel_rfl
  obtain ⟨f0, f1, f2, f3, f4, hf, n0, n1, n2, n3, n4, t0, t1, t2, t3, t4, o0, o1, o2, o3, o4⟩ : ∃ f0 f1 f2 f3 f4 : Field, (Try.prog.fieldsOf 25).toList = [f0, f1, f2, f3, f4] ∧ f0.name ≠ "_" ∧ f1.name ≠ "_" ∧ f2.name ≠ "_" ∧ f3.name ≠ "_" ∧ f4.name ≠ "_" ∧ f0.type = 3 ∧ f1.type = 23 ∧ f2.type = 23 ∧ f3.type = 23 ∧ f4.type = 23 ∧ f0.offset = 0 ∧ f1.offset = 1 ∧ f2.offset = 2 ∧ f3.offset = 3 ∧ f4.offset = 4 :=
    ⟨_, _, _, _, _, rfl, by decide, by decide, by decide, by decide, by decide, rfl, rfl, rfl, rfl, rfl, rfl, rfl, rfl, rfl, rfl⟩
  rw [ptV, ptV, run_equalIn_struct w 9999 25 _ _ hu hs, hf]
  have pI : ∀ (cs : Array Value) (i : Nat) (v : Value) (_ : cs[i]? = some v) (w : World), (part 3 cs i).run Try.prog w = .ok v w := fun cs i v h w => run_part_plain w (by kernel_rfl) h
  have pU : ∀ (cs : Array Value) (i : Nat) (v : Value) (_ : cs[i]? = some v) (w : World), (part 23 cs i).run Try.prog w = .ok v w := fun cs i v h w => run_part_plain w (by kernel_rfl) h
  have eI : ∀ (a b : Int) (w : World), (Op.equalIn 9999 3 (.int .i64 a) (.int .i64 b)).run Try.prog w = .ok (a == b) w := fun a b w => run_equalIn_int w 9998 3 .i64 .i64 a b Try.underlying3
  have eU : ∀ (a b : Int) (w : World), (Op.equalIn 9999 23 (.int .u32 a) (.int .u32 b)).run Try.prog w = .ok (a == b) w := fun a b w => run_equalIn_int w 9998 23 .u32 .u32 a b Try.underlying23
  have nil : (Op.eqFields 9999 #[.int .i64 p.1, .int .u32 (p.2.1 : Int), .int .u32 (p.2.2.1 : Int), .int .u32 (p.2.2.2.1 : Int), .int .u32 (p.2.2.2.2 : Int)] #[.int .i64 q.1, .int .u32 (q.2.1 : Int), .int .u32 (q.2.2.1 : Int), .int .u32 (q.2.2.2.1 : Int), .int .u32 (q.2.2.2.2 : Int)] []).run Try.prog w = .ok true w := rfl
  have h4 := eqF_step n4 (by rw [t4, o4]; exact pU _ 4 _ rfl w) (by rw [t4, o4]; exact pU _ 4 _ rfl w) (by rw [t4]; exact eU _ _ w) nil
  have h3 := eqF_step n3 (by rw [t3, o3]; exact pU _ 3 _ rfl w) (by rw [t3, o3]; exact pU _ 3 _ rfl w) (by rw [t3]; exact eU _ _ w) h4
  have h2 := eqF_step n2 (by rw [t2, o2]; exact pU _ 2 _ rfl w) (by rw [t2, o2]; exact pU _ 2 _ rfl w) (by rw [t2]; exact eU _ _ w) h3
  have h1 := eqF_step n1 (by rw [t1, o1]; exact pU _ 1 _ rfl w) (by rw [t1, o1]; exact pU _ 1 _ rfl w) (by rw [t1]; exact eU _ _ w) h2
  have h0 := eqF_step n0 (by rw [t0, o0]; exact pI _ 0 _ rfl w) (by rw [t0, o0]; exact pI _ 0 _ rfl w) (by rw [t0]; exact eI _ _ w) h1
  rw [h0, eqP_parts, Bool.and_true]
/-- As the walk meets it. -/
theorem eqPt_lit (x : Int) (a b c d : Nat) (x' : Int) (a' b' c' d' : Nat) (w : World) : (Op.equalIn 10000 25 (.agg #[.int .i64 x, .int .u32 (a : Int), .int .u32 (b : Int), .int .u32 (c : Int), .int .u32 (d : Int)]) (.agg #[.int .i64 x', .int .u32 (a' : Int), .int .u32 (b' : Int), .int .u32 (c' : Int), .int .u32 (d' : Int)])).run Try.prog w = .ok (eqP (x, a, b, c, d) (x', a', b', c', d')) w := eqPt (x, a, b, c, d) (x', a', b', c', d') w
theorem eqPt_zero (x : Int) (a b c d : Nat) (w : World) : (Op.equalIn 10000 25 (.agg #[.int .i64 x, .int .u32 (a : Int), .int .u32 (b : Int), .int .u32 (c : Int), .int .u32 (d : Int)]) (.agg #[.int .i64 0, .int .u32 0, .int .u32 0, .int .u32 0, .int .u32 0])).run Try.prog w = .ok (eqP (x, a, b, c, d) p0) w := eqPt (x, a, b, c, d) p0 w

/-- A slice of pointers that lies below block B reads as L. -/
def Pts (w : World) (B : Nat) (a : Option Addr) (len cap : Nat) (L : List Pt) : Prop :=
  L.length = len ∧ len ≤ cap ∧ cap ≤ maxLen ∧ (a = none → cap = 0) ∧
    (0 < len → ∃ b off, a = some ⟨b, off, none⟩ ∧ b < B ∧ ∀ i (h : i < L.length), WfP L[i] ∧ ∀ j u, (ptC L[i])[j]? = some u → w.cell? ⟨b, off + i * 5 + j, none⟩ = some u)
theorem pts_nil (w : World) (B : Nat) : Pts w B none 0 0 [] := ⟨rfl, Nat.le_refl _, Nat.zero_le _, fun _ => rfl, fun h => absurd h (Nat.lt_irrefl _)⟩
section
variable {w w' : World} {B len cap : Nat} {a : Option Addr} {L : List Pt}
theorem Pts.below (h : Pts w B a len cap L) (hb : Below B w w') : Pts w' B a len cap L := by
  obtain ⟨h1, h2, h3, h4, h5⟩ := h
  refine ⟨h1, h2, h3, h4, fun hl => ?_⟩
  obtain ⟨b, off, e, hlt, hc⟩ := h5 hl
  exact ⟨b, off, e, hlt, fun i hi => ⟨(hc i hi).1, fun j u hu => (hb.cell (p := ⟨b, off + i * 5 + j, none⟩) hlt).trans ((hc i hi).2 j u hu)⟩⟩
theorem Pts.more {B' : Nat} (h : Pts w B a len cap L) (hB : B ≤ B') : Pts w B' a len cap L := by
  obtain ⟨h1, h2, h3, h4, h5⟩ := h
  refine ⟨h1, h2, h3, h4, fun hl => ?_⟩
  obtain ⟨b, off, e, hlt, hc⟩ := h5 hl
  exact ⟨b, off, e, by omega, hc⟩
theorem Pts.step (h : Pts w w.heap.size a len cap L) (hb : Below w.heap.size w w') : Pts w' w'.heap.size a len cap L := (h.below hb).more hb.size
theorem Pts.wf (h : Pts w B a len cap L) {p : Pt} (hp : p ∈ L) : WfP p := by
  obtain ⟨i, hi, rfl⟩ := List.getElem_of_mem hp
  obtain ⟨b, off, _, _, hc⟩ := h.2.2.2.2 (by rw [← h.1]; omega)
  exact (hc i hi).1
/-- The five cells of a pointer. -/
theorem Pts.cells (h : Pts w B a len cap L) (i : Nat) (hi : i < len) : ∃ b off, a = some ⟨b, off, none⟩ ∧ b < B ∧ WfP (L.getD i p0) ∧ w.cell? ⟨b, off + i * 5, none⟩ = some (.int .i64 (L.getD i p0).1) ∧ w.cell? ⟨b, off + i * 5 + 1, none⟩ = some (.int .u32 ((L.getD i p0).2.1 : Int)) ∧ w.cell? ⟨b, off + i * 5 + 2, none⟩ = some (.int .u32 ((L.getD i p0).2.2.1 : Int)) ∧
    w.cell? ⟨b, off + i * 5 + 3, none⟩ = some (.int .u32 ((L.getD i p0).2.2.2.1 : Int)) ∧ w.cell? ⟨b, off + i * 5 + 4, none⟩ = some (.int .u32 ((L.getD i p0).2.2.2.2 : Int)) := by
  obtain ⟨b, off, e, hb, hc⟩ := h.2.2.2.2 (by omega)
  have hl : i < L.length := by rw [h.1]; exact hi
  obtain ⟨hw, hx⟩ := hc i hl
  have hg : L.getD i p0 = L[i] := by rw [List.getD_eq_getElem?_getD, List.getElem?_eq_getElem hl]; rfl
  rw [hg]
  exact ⟨b, off, e, hb, hw, hx 0 _ rfl, hx 1 _ rfl, hx 2 _ rfl, hx 3 _ rfl, hx 4 _ rfl⟩
end
/-- The cells of pointers. -/
def ptCs (L : List Pt) : List Value := L.flatMap ptC
theorem ptCs_length : ∀ L : List Pt, (ptCs L).length = L.length * 5
  | [] => rfl
  | p :: L => by
    show (ptC p ++ ptCs L).length = _
    rw [List.length_append, ptCs_length L, List.length_cons]
    show 5 + _ = _
    omega
theorem ptCs_append (L M : List Pt) : ptCs (L ++ M) = ptCs L ++ ptCs M := by simp [ptCs]
theorem ptCs_get : ∀ (L : List Pt) (i : Nat) (h : i < L.length) (j : Nat) (u : Value), (ptC L[i])[j]? = some u → (ptCs L)[i * 5 + j]? = some u
  | p :: L, 0, _, j, u, hu => by
    show (ptC p ++ ptCs L)[_]? = _
    have hj : j < (ptC p).length := by
      rcases Nat.lt_or_ge j (ptC p).length with hj | hj
      · exact hj
      · rw [show ((p :: L)[0]) = p from rfl, List.getElem?_eq_none hj] at hu; cases hu
    rw [List.getElem?_append_left (by omega), Nat.zero_mul, Nat.zero_add]
    exact hu
  | p :: L, i + 1, h, j, u, hu => by
    show (ptC p ++ ptCs L)[_]? = _
    have hl : (ptC p).length = 5 := rfl
    rw [List.getElem?_append_right (by omega), hl, show (i + 1) * 5 + j - 5 = i * 5 + j by omega]
    exact ptCs_get L i (by simpa using h) j u hu
/-- A row of the call's own, of pointers. -/
def PRow (w : World) (base : Nat) (v : Value) (L : List Pt) : Prop := w.ownsRow base 25 5 v L.length (ptCs L) ∧ ∀ p ∈ L, WfP p
theorem PRow.pts {w : World} {base : Nat} {v : Value} {L : List Pt} (h : PRow w base v L) : ∃ a c, v = .slice a L.length c ∧ Pts w w.heap.size a L.length c L := by
  obtain ⟨⟨hl, ⟨rfl, h0⟩ | ⟨g, cap, cur, rfl, _, h3, h4, h5, h6, h7⟩⟩, hw⟩ := h
  · have : L = [] := List.eq_nil_of_length_eq_zero h0
    subst this
    exact ⟨none, 0, rfl, pts_nil _ _⟩
  · refine ⟨_, _, rfl, rfl, h4, h5, fun e => (by cases e), fun _ => ⟨g, 0, rfl, (Array.getElem?_eq_some_iff.1 h3).1, fun i hi => ⟨hw _ (List.getElem_mem hi), fun j u hu => ?_⟩⟩⟩
    have hg := ptCs_get L i hi j u hu
    have hj : i * 5 + j < L.length * 5 := by
      rcases Nat.lt_or_ge (i * 5 + j) (ptCs L).length with hj | hj
      · rw [ptCs_length] at hj; exact hj
      · rw [List.getElem?_eq_none hj] at hg; cases hg
    rw [Nat.zero_add, cell_of_row w g _ cur 25 (0, 0) h3, ← Array.getElem?_toList, ← hg, ← h7, List.getElem?_take_of_lt hj]
theorem PRow.below {w w' : World} {base : Nat} {v : Value} {L : List Pt} (h : PRow w base v L) (hb : Below w.heap.size w w') : PRow w' base v L := ⟨own_below h.1 hb, h.2⟩
theorem prow_nil (w : World) (base : Nat) : PRow w base (.slice none 0 0) [] := ⟨World.ownsRow_nil _ _ _ _, fun _ h => (by cases h)⟩
theorem PRow.mono {w : World} {B B' : Nat} {v : Value} {L : List Pt} (h : PRow w B v L) (hB : B' ≤ B) : PRow w B' v L := ⟨own_mono h.1 hB, h.2⟩
/-- The cells of a block that is a pointer. -/
theorem Blk.five {w : World} {g : Nat} {t : TypeId} {a : Int} {b c d e : Nat} (h : Blk w g t #[.int .i64 a, .int .u32 (b : Int), .int .u32 (c : Int), .int .u32 (d : Int), .int .u32 (e : Int)]) : w.cell? ⟨g, 0, none⟩ = some (.int .i64 a) ∧ w.cell? ⟨g, 1, none⟩ = some (.int .u32 (b : Int)) ∧ w.cell? ⟨g, 2, none⟩ = some (.int .u32 (c : Int)) ∧ w.cell? ⟨g, 3, none⟩ = some (.int .u32 (d : Int)) ∧ w.cell? ⟨g, 4, none⟩ = some (.int .u32 (e : Int)) :=
  ⟨h.cell 0, h.cell 1, h.cell 2, h.cell 3, h.cell 4⟩
/-- Five cells are written. -/
@[reducible] def set5 (w : World) (g : Nat) (v0 v1 v2 v3 v4 : Value) : World := ((((w.setCell ⟨g, 0, none⟩ v0).setCell ⟨g, 1, none⟩ v1).setCell ⟨g, 2, none⟩ v2).setCell ⟨g, 3, none⟩ v3).setCell ⟨g, 4, none⟩ v4
theorem Blk.set5 {w : World} {g : Nat} {t : TypeId} {u0 u1 u2 u3 u4 : Value} (h : Blk w g t #[u0, u1, u2, u3, u4]) (v0 v1 v2 v3 v4 : Value) : Blk (set5 w g v0 v1 v2 v3 v4) g t #[v0, v1, v2, v3, v4] :=
  ((((h.set_ 0 v0).set_ 1 v1).set_ 2 v2).set_ 3 v3).set_ 4 v4
theorem below_set5 {B : Nat} {a w : World} {g : Nat} (h : Below B a w) (hg : B ≤ g) (v0 v1 v2 v3 v4 : Value) : Below B a (set5 w g v0 v1 v2 v3 v4) :=
  ((((h.setCell (p := ⟨g, 0, none⟩) hg v0).setCell (p := ⟨g, 1, none⟩) hg v1).setCell (p := ⟨g, 2, none⟩) hg v2).setCell (p := ⟨g, 3, none⟩) hg v3).setCell (p := ⟨g, 4, none⟩) hg v4
theorem only_set5 {a w : World} {g : Nat} (h : a.grownBy w (some g)) (v0 v1 v2 v3 v4 : Value) : a.grownBy (set5 w g v0 v1 v2 v3 v4) (some g) :=
  only_setCell (only_setCell (only_setCell (only_setCell (only_setCell h (.inl rfl) v0) (.inl rfl) v1) (.inl rfl) v2) (.inl rfl) v3) (.inl rfl) v4
theorem size_set5 (w : World) (g : Nat) (v0 v1 v2 v3 v4 : Value) : (set5 w g v0 v1 v2 v3 v4).heap.size = w.heap.size := by simp [set5, World.setCell]
end Go.Proofs.Ytadffkfalclpjaa
