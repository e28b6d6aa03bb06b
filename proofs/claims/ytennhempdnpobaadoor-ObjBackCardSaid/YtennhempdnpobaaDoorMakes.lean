/-
  make of slices of bytes, of slices of slices of bytes, of slices of writes: new blocks; three new blocks made in an order that is left open.
-/
import Derived.Test.YtennhempdnpobaaDoorDisk
import Derived.Test.YtennhempdnpobaaDoorMovI
namespace Go.Proofs.YtennhempdnpobaaDoor
open Go.RowKit Go.Shelf
set_option maxRecDepth 100000

theorem infoSlB : (Tryd.prog.info? 28).map (fun i => (i.zero, i.size, i.bytes)) = some (some (.slice none 0 0), 1, 24) := by kernel_rfl
theorem made_one (v : Value) (hv : v.cells = #[v]) (n : Nat) : madeCells v.cells (n * 1) = Array.replicate n v := by
  apply Array.ext
  · simp [size_madeCells]
  · intro i h1 h2
    simp [madeCells, hv, Nat.mod_one]
theorem make_bytes (n : Nat) (hn : n ≤ 1000000000000) (W : World) : (Instr.makeSlice 28 (.int .i64 n) (.int .i64 n)).run Tryd.prog W = .ok (.slice (some ⟨W.heap.size, 0, none⟩) n n) (W.alloc (.cells (ar (List.replicate n 0)) 5)) := by
  obtain ⟨i0, hi, hz0, hz1, hz2⟩ := info_parts infoU8
  have hr := run_make (P := Tryd.prog) W 28 5 i0 (.int .u8 0) Tryd.underlying28 hi hz0 .i64 .i64 n n (by omega) (Int.le_refl _) (by rw [hz2]; omega) (by omega)
  rw [hz1] at hr
  simp only [Int.toNat_natCast] at hr
  rw [made_one _ rfl] at hr
  rw [hr]
  have e : Array.replicate n (Value.int .u8 0) = ar (List.replicate n 0) := by simp [ar, vals]
  rw [e]
theorem make_rows (n : Nat) (hn : n ≤ 1000000) (W : World) : (Instr.makeSlice 67 (.int .i64 n) (.int .i64 n)).run Tryd.prog W = .ok (.slice (some ⟨W.heap.size, 0, none⟩) n n) (W.alloc (.cells (Array.replicate n (.slice none 0 0)) 28)) := by
  obtain ⟨i0, hi, hz0, hz1, hz2⟩ := info_parts infoSlB
  have hr := run_make (P := Tryd.prog) W 67 28 i0 (.slice none 0 0) Tryd.underlying67 hi hz0 .i64 .i64 n n (by omega) (Int.le_refl _) (by rw [hz2]; omega) (by omega)
  rw [hz1] at hr
  simp only [Int.toNat_natCast] at hr
  rw [made_one _ rfl] at hr
  exact hr
/-- The cells of so many empty writes. -/
def noWrites (n : Nat) : Array Value := madeCells #[.int .i64 0, .slice none 0 0] (n * 2)
theorem noWrites_size (n : Nat) : (noWrites n).size = n * 2 := size_madeCells _ _
theorem noWrites_data (n i : Nat) (hi : i < n) : (noWrites n)[i * 2 + 1]? = some (.slice none 0 0) := by
  have h : i * 2 + 1 < (noWrites n).size := by rw [noWrites_size]; omega
  rw [Array.getElem?_eq_getElem h]
  have e : (i * 2 + 1) % 2 = 1 := by omega
  simp [noWrites, madeCells, e]
section
variable {P : Program} {Q : Exit → Act → World → Prop} {md : Region.Mode} {S : World → Prop}
/-- Three operations stand side by side: each way. -/
theorem wpI_fork3 {l : List Oper} {i j k : Nat} {σ : List Nat} {oi oj ok : Oper} {listed : Array Bool} {a : Act} {w : World} (hi : nthOp l i = some oi) (hj : nthOp l j = some oj) (hk : nthOp l k = some ok) (hr : Region.ready md l.toArray listed = [i, j, k])
    (h1 : ∀ K : Act → World → Prop, (∀ a' w', S w' → wpI P md S l Q (j :: k :: σ) (listed.setIfInBounds i true) a' w' → K a' w') → if Region.wanted oi (yielded l.toArray a.tmps) then oi.wp P a w K Q else K (a.put oi.dst undef) w)
    (h2 : ∀ K : Act → World → Prop, (∀ a' w', S w' → wpI P md S l Q (i :: k :: σ) (listed.setIfInBounds j true) a' w' → K a' w') → if Region.wanted oj (yielded l.toArray a.tmps) then oj.wp P a w K Q else K (a.put oj.dst undef) w)
    (h3 : ∀ K : Act → World → Prop, (∀ a' w', S w' → wpI P md S l Q (i :: j :: σ) (listed.setIfInBounds k true) a' w' → K a' w') → if Region.wanted ok (yielded l.toArray a.tmps) then ok.wp P a w K Q else K (a.put ok.dst undef) w) :
    wpI P md S l Q (i :: j :: k :: σ) listed a w := by
  refine ⟨fun h0 => (by rw [hr] at h0; cases h0), fun m hm => ?_⟩
  rw [hr] at hm
  rcases List.mem_cons.1 hm with rfl | hm
  · exact wpOp_of hi (h1 (fun a' w' => S w' ∧ wpMI P md S l.toArray Q (j :: k :: σ).length (listed.setIfInBounds m true) a' w') (fun a' w' hS hs => ⟨hS, hs⟩))
  · rcases List.mem_cons.1 hm with rfl | hm
    · exact wpOp_of hj (h2 (fun a' w' => S w' ∧ wpMI P md S l.toArray Q (i :: k :: σ).length (listed.setIfInBounds m true) a' w') (fun a' w' hS hs => ⟨hS, hs⟩))
    · rw [List.mem_singleton] at hm
      subst hm
      exact wpOp_of hk (h3 (fun a' w' => S w' ∧ wpMI P md S l.toArray Q (i :: j :: σ).length (listed.setIfInBounds m true) a' w') (fun a' w' hS hs => ⟨hS, hs⟩))
end
end Go.Proofs.YtennhempdnpobaaDoor
