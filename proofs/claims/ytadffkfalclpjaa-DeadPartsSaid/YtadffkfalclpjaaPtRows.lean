/-
  ptr.Rows, whatever bytes it is handed; nothing that was there is written.
-/
import Derived.Test.YtadffkfalclpjaaPtTop
import Derived.Test.YtadffkfalclpjaaChunk16
namespace Go.Proofs.Ytadffkfalclpjaa
open Go.RowKit Go.Shelf
set_option maxRecDepth 100000
attribute [local go_sem] Oper.semAt_some

/-- The window of number i. -/
def winP (s : List UInt8) (i : Nat) : List UInt8 := (s.drop (16 * i)).take 16
/-- The pointers of a row. -/
def rowsL (s : List UInt8) : List Pt := (List.range 16).map fun i => getP (winP s i)
/-- What Rows answers. -/
def rowsO (s : List UInt8) : List Pt × Int := if s.length = 256 then (if ∀ p ∈ rowsL s, MayP p then (rowsL s, 0) else ([], 8)) else ([], 3)
/-- A list of pointers of the call's own, and an error's number. -/
def OutL (L : List Pt) (c : Int) (w : World) (e : Ending) (w' : World) : Prop := ∃ v, e = .returned (.tuple #[v, .int .i64 c]) ∧ PRow w' w.heap.size v L ∧ Below w.heap.size w w'

/-- What the loop keeps. -/
def RwI (s : List UInt8) (g q : Nat) (pre : List (Fin q)) (W : World) : Prop :=
  Blk W g 22 #[.slice none 0 0] ∧ Blk W (g + 1) 26 #[.int .i64 0] ∧ Blk W (g + 3) 22 #[.slice (some ⟨g + 2, 0, none⟩) pre.length 16] ∧
    W.ownsRow g 25 5 (.slice (some ⟨g + 2, 0, none⟩) pre.length 16) pre.length (ptCs (pre.map fun x => getP (winP s x.val))) ∧ ∀ x ∈ pre, MayP (getP (winP s x.val))
/-- What stands where it was left. -/
def RwX (s : List UInt8) (g : Nat) (W : World) : Prop := Blk W g 22 #[.slice none 0 0] ∧ Blk W (g + 1) 26 #[.int .i64 8] ∧ ∃ i, i < 16 ∧ ¬ MayP (getP (winP s i))
theorem own_kept5 {w w' : World} {B g n cap : Nat} {e : TypeId} {size : Nat} {xs : List Value} {row : Option Nat} (h : w.ownsRow B e size (.slice (some ⟨g, 0, none⟩) n cap) n xs) (hg : w.grownBy w' row) (hk : ∀ r, row = some r → ∃ o : Obj, w.heap[r]? = some o ∧ o.isCells = false) : w'.ownsRow B e size (.slice (some ⟨g, 0, none⟩) n cap) n xs := by
  refine h.kept hg (.inr fun er => ?_)
  obtain ⟨o, ho, hc⟩ := hk g (by simpa [Value.ownBlock] using er.symm)
  obtain ⟨h1, ⟨h2, h3⟩ | ⟨g', cap', cur, h2, hb, hh, _⟩⟩ := h
  · cases h2
  · cases h2
    rw [hh] at ho; cases ho; cases hc
theorem own5_blk {w : World} {B g n cap : Nat} {e : TypeId} {size : Nat} {xs : List Value} (h : w.ownsRow B e size (.slice (some ⟨g, 0, none⟩) n cap) n xs) : ∃ cs, Blk w g e cs := by
  obtain ⟨h1, ⟨h2, h3⟩ | ⟨g', cap', cur, h2, hb, hh, _⟩⟩ := h
  · cases h2
  · cases h2
    exact ⟨_, hh⟩
theorem rwI_own (s : List UInt8) (g q : Nat) : Own (RwI s g q) := fun pre A B row hs hg hr => by
  obtain ⟨h1, h2, h3, h4, h5⟩ := hs
  exact ⟨blk_kept h1 hg hr, blk_kept h2 hg hr, blk_kept h3 hg hr, own_kept5 h4 hg hr, h5⟩
theorem rwX_own {β : Type} (s : List UInt8) (g : Nat) : Own (fun (_ : β) W => RwX s g W) := fun pre A B row hs hg hr => by
  obtain ⟨h1, h2, h3⟩ := hs
  exact ⟨blk_kept h1 hg hr, blk_kept h2 hg hr, h3⟩
theorem kept_below {W W' : World} (h : Below W.heap.size W W') : KeepsOthers W W' := ⟨h.size, fun k _ hk _ => (h.block k (Array.getElem?_eq_some_iff.1 hk).1).trans hk⟩
theorem atAppendIn {F : Fence} {n : Nat} {P : Program} {ops : Array Oper} {Q : Exit → Act → World → Prop} {a : Act} {w : World} {rest : List Oper} {d : Option Tmp} {ty : TypeId} {x : Array Operand} {y : Array TypeId} {pos : String} {af : Array Edge} (h : wpListIn F n P ops Q (⟨d, .call { callee := .builtin .append, args := x, argTypes := y }, ty, pos, af, none⟩ :: rest) a w) : wpListIn F n P ops Q (⟨d, .call { callee := .builtin .append, args := x, argTypes := y }, ty, pos, af, none⟩ :: rest) a w := h
theorem below_putO {B l : Nat} (W : World) (o : Obj) (h : B ≤ l) : Below B W (W.putObj l o) := ⟨rfl, rfl, rfl, by simp, fun k hk => World.putObj_heap_other (by omega)⟩
theorem infoPt : (Try.prog.info? 25).map (fun i => (i.zero, i.size, i.bytes)) = some (some (.agg #[.int .i64 0, .int .u32 0, .int .u32 0, .int .u32 0, .int .u32 0]), 5, 24) := by kernel_rfl
theorem make_pts : ∃ cs : Array Value, cs.size = 80 ∧ ∀ W : World, (Instr.makeSlice 22 (.int .i64 0) (.int .i64 16)).run Try.prog W = .ok (.slice (some ⟨W.heap.size, 0, none⟩) 0 16) (W.alloc (.cells cs 25)) := by
  obtain ⟨i0, hi, hz0, hz1, hz2⟩ := info_parts infoPt
  refine ⟨madeCells (Value.agg #[.int .i64 0, .int .u32 0, .int .u32 0, .int .u32 0, .int .u32 0]).cells (16 * i0.size), by rw [size_madeCells, hz1], fun W => ?_⟩
  have hr := run_make (P := Try.prog) W 22 25 i0 (.agg #[.int .i64 0, .int .u32 0, .int .u32 0, .int .u32 0, .int .u32 0]) Try.underlying22 hi hz0 .i64 .i64 0 16 (Int.le_refl _) (by omega) (by rw [hz2]; omega) (by omega)
  simpa using hr
end Go.Proofs.Ytadffkfalclpjaa
