/-
  make([]byte, n, n): a new list of noughts.
-/
import Derived.Test.YtoednighmdoooaaLists
namespace Go.Proofs.Ytoednighmdoooaa
open Go.RowKit Go.Shelf
set_option maxRecDepth 100000

theorem make_noughts (n : Nat) (hn : n ≤ 100000) (W : World) : (Instr.makeSlice 22 (.int .i64 n) (.int .i64 n)).run Try.prog W = .ok (.slice (some ⟨W.heap.size, 0, none⟩) n n) (W.alloc (.cells (Array.replicate n (.int .u8 0)) 5)) := by
  obtain ⟨i0, hi, hz0, hz1, hz2⟩ := info_parts infoU8
  have hr := run_make (P := Try.prog) W 22 5 i0 (.int .u8 0) Try.underlying22 hi hz0 .i64 .i64 n n (by omega) (Int.le_refl _) (by rw [hz2]; omega) (by omega)
  have e : madeCells (Value.int .u8 0).cells (n * 1) = Array.replicate n (.int .u8 0) := by
    apply Array.ext
    · simp [size_madeCells]
    · intro i h1 h2
      simp [madeCells, Value.cells, Nat.mod_one]
  rw [hz1] at hr
  simp only [Int.toNat_natCast] at hr
  rw [e] at hr
  exact hr
theorem noughts_bsl (n : Nat) (hn : n ≤ 100000) (w : World) : Bsl (w.alloc (.cells (Array.replicate n (.int .u8 0)) 5)) (w.alloc (.cells (Array.replicate n (.int .u8 0)) 5)).heap.size (some ⟨w.heap.size, 0, none⟩) n n (List.replicate n 0) := by
  refine bsl_of_holds (by simp) (Nat.le_refl _) (by unfold maxLen; omega) (Blk.new w 5 _).lt fun i hi => ?_
  have hi' : i < n := by simpa using hi
  rw [(Blk.new w 5 (Array.replicate n (.int .u8 0))).cell i]
  simp [hi']

end Go.Proofs.Ytoednighmdoooaa
