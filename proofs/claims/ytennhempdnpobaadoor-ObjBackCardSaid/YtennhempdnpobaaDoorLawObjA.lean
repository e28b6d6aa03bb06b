/-
  What layer 14's statements call beside obj: empty, an object of holes.
-/
import Derived.Test.YtennhempdnpobaaDoorRoA
import Derived.Test.YtennhempdnpobaaDoorMakes
namespace Go.Proofs.YtennhempdnpobaaDoor
open Go.RowKit Go.Shelf
set_option maxRecDepth 100000

theorem infoPtr3 : (Tryd.prog.info? 42).map (fun i => (i.zero, i.size, i.bytes)) = some (some (.agg #[.int .i64 0, .int .u32 0, .int .u32 0, .int .u32 0, .int .u32 0]), 5, 24) := by kernel_rfl
/-- The cells of fifteen holes. -/
def noPts : Array Value := (ptCs (List.replicate 15 p0)).toArray
theorem noPts_eq : madeCells #[.int .i64 0, .int .u32 0, .int .u32 0, .int .u32 0, .int .u32 0] (15 * 5) = noPts := by kernel_rfl
theorem make_holes (W : World) : (Instr.makeSlice 22 (.int .i64 15) (.int .i64 15)).run Tryd.prog W = .ok (.slice (some ⟨W.heap.size, 0, none⟩) 15 15) (W.alloc (.cells noPts 42)) := by
  obtain ⟨i0, hi, hz0, hz1, hz2⟩ := info_parts infoPtr3
  have hr := run_make (P := Tryd.prog) W 22 42 i0 (.agg #[.int .i64 0, .int .u32 0, .int .u32 0, .int .u32 0, .int .u32 0]) Tryd.underlying22 hi hz0 .i64 .i64 15 15 (by omega) (Int.le_refl _) (by rw [hz2]; omega) (by omega)
  rw [hz1] at hr
  rw [← noPts_eq]
  exact hr
theorem holes_pts {w : World} {g : Nat} (h : Blk w g 42 noPts) : Pts w w.heap.size (some ⟨g, 0, none⟩) 15 15 (List.replicate 15 p0) :=
  ⟨rfl, Nat.le_refl _, by unfold maxLen; omega, fun e => (by cases e), fun _ => ⟨g, 0, rfl, h.lt, fun i hi => ⟨by rw [List.getElem_replicate]; exact wf_p0, fun j u hu => by
    have := ptCs_get (List.replicate 15 p0) i hi j u hu
    rw [Nat.zero_add, h.cell]
    exact (List.getElem?_toArray ..).trans this⟩⟩⟩
/-- The object of holes. -/
abbrev emptyOb : ObL := (1, 2, 300, List.replicate 15 p0)
theorem empty_may : MayOb emptyOb := ⟨⟨by decide, by decide, by decide, rfl⟩, fun p hp => by rw [List.eq_of_mem_replicate hp]; exact may_p0⟩
theorem empty_wf : WfOb emptyOb := ⟨by decide, by decide, by decide⟩
theorem loEmpty_any (w : World) : Calls Tryd.prog 9 #[] w fun e w' => ∃ g, e = .returned (.agg #[.int .u8 1, .int .i64 2, .int .i64 300, .slice (some ⟨g, 0, none⟩) 15 15]) ∧ w.heap.size ≤ g ∧ Blk w' g 42 noPts ∧ Below w.heap.size w w' := by
  have xb := Blk.new w 24 #[.int .u8 0, .int .i64 0, .int .i64 0, .slice none 0 0]
  have b0 := (Below.refl w.heap.size w).alloc (Nat.le_refl _) (.cells #[.int .u8 0, .int .i64 0, .int .i64 0, .slice none 0 0] 24)
  obtain ⟨w0, hw0⟩ : ∃ w0, w.alloc (.cells #[.int .u8 0, .int .i64 0, .int .i64 0, .slice none 0 0] 24) = w0 := ⟨_, rfl⟩
  have hz0 : w0.heap.size = w.heap.size + 1 := by rw [← hw0, World.size_alloc]
  rw [hw0] at xb b0
  have hmk := make_holes w0
  have bp := (Below.refl w0.heap.size w0).alloc (Nat.le_refl _) (.cells noPts 42)
  have xp := Blk.new w0 42 noPts
  obtain ⟨w1, hw1⟩ : ∃ X, w0.alloc (.cells noPts 42) = X := ⟨_, rfl⟩
  rw [hw1] at hmk bp xp
  obtain ⟨gp, hgp⟩ : ∃ X, w0.heap.size = X := ⟨_, rfl⟩
  rw [hgp] at hmk xp
  have xb1 := xb.below bp xb.lt
  have b1 := b0.trans (bp.mono b0.size)
  have m0 := ox0 xb1
  have m1 := ox1 xb1
  have m2 := ox2 xb1
  have m3 := ox3 xb1
  have hfz := fun i => xb1.frozen i
  have xz := xb1.set4 (.int .u8 1) (.int .i64 2) (.int .i64 300) (.slice (some ⟨gp, 0, none⟩) 15 15)
  have bz := below_set4 b1 (Nat.le_refl _) (.int .u8 1) (.int .i64 2) (.int .i64 300) (.slice (some ⟨gp, 0, none⟩) 15 15)
  have xq : Blk ((((w1.setCell ⟨w.heap.size, 0, none⟩ (.int .u8 1)).setCell ⟨w.heap.size, 1, none⟩ (.int .i64 2)).setCell ⟨w.heap.size, 2, none⟩ (.int .i64 300)).setCell ⟨w.heap.size, 3, none⟩ (.slice (some ⟨gp, 0, none⟩) 15 15)) gp 42 noPts := by
    have hne : gp ≠ w.heap.size := by omega
    exact (((xp.far (p := ⟨w.heap.size, 0, none⟩) hne _).far (p := ⟨w.heap.size, 1, none⟩) hne _).far (p := ⟨w.heap.size, 2, none⟩) hne _).far (p := ⟨w.heap.size, 3, none⟩) hne _
  obtain ⟨wz, hwz⟩ : ∃ X, (((w1.setCell ⟨w.heap.size, 0, none⟩ (.int .u8 1)).setCell ⟨w.heap.size, 1, none⟩ (.int .i64 2)).setCell ⟨w.heap.size, 2, none⟩ (.int .i64 300)).setCell ⟨w.heap.size, 3, none⟩ (.slice (some ⟨gp, 0, none⟩) 15 15) = X := ⟨_, rfl⟩
  rw [hwz] at xz bz xq
  have HXZ := Lib.hid xz
  have HBZ := Lib.hid bz
  have HXQ := Lib.hid xq
  have HGP := Lib.hid (show w.heap.size ≤ gp by omega)
  clear xb b0 bp xp xb1 b1 xz bz xq hz0 hw1 hgp
  go_enter Tryd.func9, Tryd.ntmps9
  go_wp2_with fail
  clear m0 m1 m2 m3 hfz hwz hw0 hmk
  have e0 := ox0 HXZ.out
  have e1 := ox1 HXZ.out
  have e2 := ox2 HXZ.out
  have e3 := ox3 HXZ.out
  refine bodyPost_ret (v := .agg #[.int .u8 1, .int .i64 2, .int .i64 300, .slice (some ⟨gp, 0, none⟩) 15 15]) (by simp [results, Tryd.f9, go_sem, e0, e1, e2, e3]) rfl ?_
  exact ⟨gp, rfl, HGP.out, HXQ.out, HBZ.out⟩
end Go.Proofs.YtennhempdnpobaaDoor
