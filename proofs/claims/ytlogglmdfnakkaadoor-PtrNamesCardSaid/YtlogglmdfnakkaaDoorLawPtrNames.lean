/-
  PtrNamesCardSaid: the limits and errors have their numbers, and the chapter's examples are so. It has no argument; no condition but the tied one: ptr.sizes reads as its own initialiser lays it.
-/
import Derived.Test.YtlogglmdfnakkaaDoorLawPtrA
import Derived.Test.YtlogglmdfnakkaaDoorRowMath
import Derived.Test.YtlogglmdfnakkaaDoorMov
namespace Go.Proofs.YtlogglmdfnakkaaDoor
open Go.RowKit Go.Shelf
set_option maxRecDepth 100000

/-- make([]api.Ptr, 17). -/
theorem make_17 : ∃ cs : Array Value, ∀ W : World, (Instr.makeSlice 30 (.int .i64 17) (.int .i64 17)).run Tryd.prog W = .ok (.slice (some ⟨W.heap.size, 0, none⟩) 17 17) (W.alloc (.cells cs 28)) ∧
    Pts (W.alloc (.cells cs 28)) (W.alloc (.cells cs 28)).heap.size (some ⟨W.heap.size, 0, none⟩) 17 17 (List.replicate 17 p0) := by
  obtain ⟨i0, hi, hz0, hz1, hz2⟩ := info_parts infoPt
  refine ⟨madeCells (Value.agg #[.int .i64 0, .int .u32 0, .int .u32 0, .int .u32 0, .int .u32 0]).cells (17 * i0.size), fun W => ⟨?_, by simp, Nat.le_refl _, by unfold maxLen; omega, fun e => (by cases e), fun _ => ⟨W.heap.size, 0, rfl, by simp, fun i hi' => ⟨?_, fun j u hu => ?_⟩⟩⟩⟩
  · have hr := run_make (P := Tryd.prog) W 30 28 i0 (.agg #[.int .i64 0, .int .u32 0, .int .u32 0, .int .u32 0, .int .u32 0]) Tryd.underlying30 hi hz0 .i64 .i64 17 17 (by omega) (Int.le_refl _) (by rw [hz2]; omega) (by omega)
    simpa using hr
  · rw [List.getElem_replicate]
    exact wf_p0
  · rw [List.getElem_replicate] at hu
    have hi17 : i < 17 := by simpa using hi'
    have hj : j < 5 := by
      rcases Nat.lt_or_ge j (ptC p0).length with hj | hj
      · exact hj
      · rw [List.getElem?_eq_none hj] at hu; cases hu
    rw [(Blk.new W 28 _).cell, hz1]
    have hlt : 0 + i * 5 + j < (madeCells (Value.agg #[.int .i64 0, .int .u32 0, .int .u32 0, .int .u32 0, .int .u32 0]).cells (17 * 5)).size := by rw [size_madeCells]; omega
    rw [Array.getElem?_eq_getElem hlt, ← hu]
    have hm : (0 + i * 5 + j) % 5 = j := by omega
    have h5 : j = 0 ∨ j = 1 ∨ j = 2 ∨ j = 3 ∨ j = 4 := by omega
    simp only [madeCells, Value.cells]
    rcases h5 with rfl | rfl | rfl | rfl | rfl <;> simp [ptC]
theorem row_one : rowO [((20, 1, 0, 0, 0) : Pt)] = (rowTo [((20, 1, 0, 0, 0) : Pt)] 1, 0) := by
  rw [rowO, if_neg (by decide), if_pos]
  · rfl
  · intro p hp
    rw [List.mem_singleton] at hp
    subst hp
    decide
theorem wf_one : WfP ((20, 1, 0, 0, 0) : Pt) := ⟨⟨by decide, by decide⟩, by decide, by decide, by decide, by decide⟩
theorem rows_one : rowsO (rowTo [((20, 1, 0, 0, 0) : Pt)] 1) = (fillL [((20, 1, 0, 0, 0) : Pt)], 0) := rowsO_row (L := [((20, 1, 0, 0, 0) : Pt)]) (by decide) (fun p hp => by rw [List.mem_singleton] at hp; subst hp; decide) (fun p hp => by rw [List.mem_singleton] at hp; subst hp; exact wf_one)
theorem row_many : rowO (List.replicate 17 p0) = ([], 4) := by rw [rowO, if_pos (by simp)]
theorem read_short : readO (List.replicate 15 0) = (p0, 3) := by rw [readO, if_neg (by simp)]
theorem write_none : writeO p0 = (List.replicate 16 0, 0) := by rw [writeO, if_pos may_p0, bytesP_none]
theorem checkO_no {p : Pt} (h : ¬ MayP p) : checkO p = 8 := by rw [checkO, if_neg h]
theorem Check_no (p : Pt) (h : ¬ MayP p) (w : World) : Calls Tryd.prog 14 #[ptV p] w fun e w' => e = .returned (.int .i64 8) ∧ Below w.heap.size w w' := by
  have := Check_any p w
  rwa [checkO_no h] at this
theorem eqPt_sm0 (w : World) : (Op.equalIn 10000 28 (.agg #[.int .i64 0, .int .u32 0, .int .u32 0, .int .u32 0, .int .u32 0]) (.agg #[.int .i64 0, .int .u32 0, .int .u32 0, .int .u32 0, .int .u32 0])).run Tryd.prog w = .ok true w := eqPt p0 p0 w
set_option maxHeartbeats 8000000 in
theorem ptrNames_walk (w : World) (hz : Szs w) : Calls Tryd.prog 3 #[] w fun e w' => e = .returned (.bool true) ∧ Below w.heap.size w w' := by
  have hmx : Tryd.prog.follows Departure.mixedOrders = true := by kernel_rfl
  obtain ⟨cs17, h17⟩ := make_17
  have hm17 := fun W => (h17 W).1
  have HP17 := Lib.hid (fun W => (h17 W).2)
  have HZ := Lib.hid hz
  have hc1 := Write_any p0 wf_p0 w hz
  rw [write_none] at hc1
  obtain ⟨z16, hz16⟩ : ∃ z, List.replicate 16 (0 : UInt8) = z := ⟨_, rfl⟩
  obtain ⟨z15, hz15⟩ : ∃ z, List.replicate 15 (0 : UInt8) = z := ⟨_, rfl⟩
  rw [hz16] at hc1
  have HC1 := Lib.hid hc1
  have HN16 := Lib.hid (show z16.length = 16 by rw [← hz16]; simp)
  have HN15 := Lib.hid (show z15.length = 15 by rw [← hz15]; simp)
  have HLT := Lib.hid (rowTo_length [((20, 1, 0, 0, 0) : Pt)] 1 (by decide) (by decide))
  have HRS := Lib.hid (show readO z15 = (p0, 3) by rw [← hz15]; exact read_short)
  have hm16 : ∀ W : World, (Instr.makeSlice 22 (.int .i64 16) (.int .i64 16)).run Tryd.prog W = .ok (.slice (some ⟨W.heap.size, 0, none⟩) 16 16) (W.alloc (.cells (ar z16) 5)) := fun W => by rw [← hz16]; exact mkBytes 16 (by omega) W
  have hm15 : ∀ W : World, (Instr.makeSlice 22 (.int .i64 15) (.int .i64 15)).run Tryd.prog W = .ok (.slice (some ⟨W.heap.size, 0, none⟩) 15 15) (W.alloc (.cells (ar z15) 5)) := fun W => by rw [← hz15]; exact mkBytes 15 (by omega) W
  have HAL := Lib.hid (fun W hz => alive_any W hz)
  have HK1 := Lib.hid (fun W => Check_no ((11, 1, 0, 0, 0) : Pt) (by decide) W)
  have HK2 := Lib.hid (fun W => Check_no ((0, 1, 0, 0, 0) : Pt) (by decide) W)
  have HK3 := Lib.hid (fun W => Check_no ((12, 0, 0, 0, 0) : Pt) (by decide) W)
  have tok1 : True := trivial
  have tok2 : True := trivial
  clear hz h17 hc1 hz16 hz15
  go_enter Tryd.func3, Tryd.ntmps3
  go_wp2_with (first
    | (go_at_call 9
       refine HC1.out.mono ?_
       rintro ev w1 ⟨v1, rfl, o1, b1⟩
       have o1' : w1.ownsRow w.heap.size 5 1 v1 16 (vals z16) := by have := o1; rw [HN16.out] at this; exact this
       obtain ⟨A1, C1, rfl, s1⟩ := own_to o1'
       have HS1 := Lib.hid s1
       have HB1 := Lib.hid b1
       have bl := (Below.refl w1.heap.size w1).alloc (Nat.le_refl _) (.cells (ptC ((20, 1, 0, 0, 0) : Pt)).toArray 28)
       have HBL := Lib.hid (HB1.out.trans (bl.mono HB1.out.size))
       have HS1L := Lib.hid (s1.step bl)
       have hcr := Row_any _ 1 1 [((20, 1, 0, 0, 0) : Pt)] _ (one_pts w1 ((20, 1, 0, 0, 0) : Pt) wf_one) (HZ.out.step HBL.out)
       rw [row_one] at hcr
       have HCR := Lib.hid hcr
       clear o1 o1' s1 b1 bl hcr)
    | (go_at_call 10
       have _t := tok1
       clear _t tok1
       refine HCR.out.mono ?_
       rintro ev w2 ⟨v2, rfl, o2, b2⟩
       have o2' := o2
       rw [HLT.out] at o2'
       obtain ⟨A2, C2, rfl, s2⟩ := own_to o2'
       have HB2 := Lib.hid (HBL.out.trans (b2.mono HBL.out.size))
       have HS12 := Lib.hid (HS1L.out.step b2)
       have hcs := Rows_any A2 256 C2 _ w2 s2 (HZ.out.step HB2.out)
       rw [rows_one] at hcs
       have HCS := Lib.hid hcs
       clear o2 o2' s2 b2 hcs)
    | (go_at_call 11
       refine HCS.out.mono ?_
       rintro ev w3 ⟨v3, rfl, p3, b3⟩
       have q0 := p3.pts
       rw [fillL_length] at q0
       obtain ⟨A3, C3, rfl, q3⟩ := q0
       have HB3 := Lib.hid (HB2.out.trans (b3.mono HB2.out.size))
       have HS13 := Lib.hid (HS12.out.step b3)
       have b3a := (Below.refl w3.heap.size w3).alloc (Nat.le_refl _) (.cells cs17 28)
       have HB3A := Lib.hid (HB3.out.trans (b3a.mono HB3.out.size))
       have HS13A := Lib.hid (HS13.out.step b3a)
       have HQ3A := Lib.hid (q3.step b3a)
       have hcm := Row_any _ 17 17 _ _ (HP17.out w3) (HZ.out.step HB3A.out)
       rw [row_many] at hcm
       have HCM := Lib.hid hcm
       clear p3 q3 b3 b3a hcm)
    | (go_at_call 10
       have _t := tok2
       clear _t tok2
       refine HCM.out.mono ?_
       rintro ev w4 ⟨v4, rfl, o4, b4⟩
       have HB4 := Lib.hid (HB3A.out.trans (b4.mono HB3A.out.size))
       have HS14 := Lib.hid (HS13A.out.step b4)
       have HQ4 := Lib.hid (HQ3A.out.step b4)
       have b4a := (Below.refl w4.heap.size w4).alloc (Nat.le_refl _) (.cells (ar z15) 5)
       have HB4A := Lib.hid (HB4.out.trans (b4a.mono HB4.out.size))
       have HS14A := Lib.hid (HS14.out.step b4a)
       have HQ4A := Lib.hid (HQ4.out.step b4a)
       have hbz : Bsl (w4.alloc (.cells (ar z15) 5)) (w4.alloc (.cells (ar z15) 5)).heap.size (some ⟨w4.heap.size, 0, none⟩) 15 15 z15 := (Blk.new w4 5 (ar z15)).bsl HN15.out (by omega)
       have hcd := Read_any _ 15 15 z15 _ hbz (HZ.out.step HB4A.out)
       rw [HRS.out] at hcd
       have HCD := Lib.hid hcd
       clear o4 b4 b4a hbz hcd)
    | (go_at_call 12
       refine HCD.out.mono ?_
       rintro ev w5 ⟨rfl, b5⟩
       have b5a := b5.trans (((Below.refl w5.heap.size w5).alloc (Nat.le_refl _) (.cells #[.int .i64 0, .int .u32 0, .int .u32 0, .int .u32 0, .int .u32 0] 28)).mono b5.size)
       have HB5 := Lib.hid (HB4A.out.trans (b5a.mono HB4A.out.size))
       have HS15 := Lib.hid (HS14A.out.step b5a)
       have HQ5 := Lib.hid (HQ4A.out.step b5a)
       clear b5 b5a)
    )

  obtain ⟨wq, hwq⟩ : ∃ wq, w5.alloc (.cells #[.int .i64 0, .int .u32 0, .int .u32 0, .int .u32 0, .int .u32 0] 28) = wq := ⟨_, rfl⟩
  have hs := HS15.out
  have hq := HQ5.out
  have hb := HB5.out
  rw [hwq] at hs hq hb ⊢
  clear hwq
  have HS := Lib.hid hs
  have HB := Lib.hid hb
  obtain ⟨wd, hwd⟩ : ∃ wd, wq.drew = wd := ⟨_, rfl⟩
  have hbd : Below wq.heap.size wq wd := by rw [← hwd]; exact (Below.refl _ _).drew
  have HBD := Lib.hid hbd
  have UP : ∀ X, Below wd.heap.size wd X → Below wq.heap.size wq X := fun X hX => hbd.trans (hX.mono hbd.size)
  obtain ⟨b3, o3, rfl, hb3, _, d0, _⟩ := hq.cells 0 (by omega)
  obtain ⟨b3', o3', ee, _, _, e0, e1, e2, e3, e4⟩ := hq.cells 1 (by omega)
  cases ee
  rw [fillL_get _ 0 (by omega)] at d0
  rw [fillL_get _ 1 (by omega)] at e0 e1 e2 e3 e4
  obtain ⟨sZ, hsZ⟩ : ∃ x, strOf z16 = x := ⟨_, rfl⟩
  have HSZ := Lib.hid hsZ
  have mz : (sZ.toList == sZ.toList) = true := by simp
  have e00 := fun W => eqPt_sm0 W
  have F1 : ∀ X, Below wd.heap.size wd X → (convert 22 9 (.slice A1 16 C1)).run Tryd.prog X = .ok (.string sZ) X := fun X hX => by have := (HS.out.below (UP X hX)).conv; rwa [HSZ.out] at this
  have G0 : ∀ X, Below wd.heap.size wd X → X.cell? ⟨b3, o3, none⟩ = some (.int .i64 20) := fun X hX => ((UP X hX).cell (p := ⟨b3, o3, none⟩) hb3).trans d0
  have G1 : ∀ X, Below wd.heap.size wd X → X.cell? ⟨b3, o3 + 5, none⟩ = some (.int .i64 0) := fun X hX => ((UP X hX).cell (p := ⟨b3, o3 + 5, none⟩) hb3).trans e0
  have G2 : ∀ X, Below wd.heap.size wd X → X.cell? ⟨b3, o3 + 5 + 1, none⟩ = some (.int .u32 0) := fun X hX => ((UP X hX).cell (p := ⟨b3, o3 + 5 + 1, none⟩) hb3).trans e1
  have G3 : ∀ X, Below wd.heap.size wd X → X.cell? ⟨b3, o3 + 5 + 2, none⟩ = some (.int .u32 0) := fun X hX => ((UP X hX).cell (p := ⟨b3, o3 + 5 + 2, none⟩) hb3).trans e2
  have G4 : ∀ X, Below wd.heap.size wd X → X.cell? ⟨b3, o3 + 5 + 3, none⟩ = some (.int .u32 0) := fun X hX => ((UP X hX).cell (p := ⟨b3, o3 + 5 + 3, none⟩) hb3).trans e3
  have G5 : ∀ X, Below wd.heap.size wd X → X.cell? ⟨b3, o3 + 5 + 4, none⟩ = some (.int .u32 0) := fun X hX => ((UP X hX).cell (p := ⟨b3, o3 + 5 + 4, none⟩) hb3).trans e4
  have G6 : ∀ X, Below wd.heap.size wd X → X.cell? ⟨b3, o3 + 6, none⟩ = some (.int .u32 0) := fun X hX => ((UP X hX).cell (p := ⟨b3, o3 + 6, none⟩) hb3).trans e1
  have G7 : ∀ X, Below wd.heap.size wd X → X.cell? ⟨b3, o3 + 7, none⟩ = some (.int .u32 0) := fun X hX => ((UP X hX).cell (p := ⟨b3, o3 + 7, none⟩) hb3).trans e2
  have G8 : ∀ X, Below wd.heap.size wd X → X.cell? ⟨b3, o3 + 8, none⟩ = some (.int .u32 0) := fun X hX => ((UP X hX).cell (p := ⟨b3, o3 + 8, none⟩) hb3).trans e3
  have G9 : ∀ X, Below wd.heap.size wd X → X.cell? ⟨b3, o3 + 9, none⟩ = some (.int .u32 0) := fun X hX => ((UP X hX).cell (p := ⟨b3, o3 + 9, none⟩) hb3).trans e4
  have hSd : Below wd.heap.size wd wd := Below.refl _ _
  have hc16 : 16 ≤ C3 := hq.2.1
  clear hs hq hb hbd d0 e0 e1 e2 e3 e4 hsZ
  refine wpS_start [0, 1, 2, 3, 4, 5, 6, 7, 8, 9, 10, 11, 12, 13, 14, 15, 16, 17, 18, 19, 20, 21, 22, 23, 24, 25, 26, 27, 28, 29, 30, 31, 32, 33, 34, 35, 36, 37, 38, 39, 40, 41, 42, 43, 44, 45, 46, 47, 48, 49, 50, 51, 52, 53, 54, 55, 56, 57, 58, 59] hmx rfl hwd ?_
  clear hwd
  iterate 1 (
    refine wpS_read (v := ?_) rfl (by kernel_rfl) (by kernel_rfl) (by kernel_rfl) (fun _ _ _ h => h) (.inl ⟨by rfl, ?_⟩) ?_
    rotate_left
    · intro X hX
      clear hX
      go_simp
      with_reducible rfl
    try simp only [Act.put, List.setIfInBounds_toArray, List.set_cons_zero, List.set_cons_succ])
  refine wpS_lone rfl (by kernel_rfl) (fun K' hK => ?_)
  go_simp
  refine (HAL.out wd (HZ.out.step (HB.out.trans (HBD.out.mono HB.out.size)))).mono ?_
  rintro ev wa ⟨rfl, ba⟩
  refine hK _ _ (Stays.of_below ba) ?_
  clear hK K'
  have hSa : Below wd.heap.size wd wa := ba
  clear ba
  try simp only [Act.put, List.setIfInBounds_toArray, List.set_cons_zero, List.set_cons_succ]
  iterate 8 (
    refine wpS_read (v := ?_) rfl (by kernel_rfl) (by kernel_rfl) (by kernel_rfl) (fun _ _ _ h => h) (.inl ⟨by rfl, ?_⟩) ?_
    rotate_left
    · intro X hX
      have hf := F1 X (hX _ hSa)
      clear hX
      go_simp
      with_reducible rfl
    try simp only [Act.put, List.setIfInBounds_toArray, List.set_cons_zero, List.set_cons_succ])
  refine wpS_lone rfl (by kernel_rfl) (fun K' hK => ?_)
  go_simp
  have bm := (Below.refl wa.heap.size wa).alloc (Nat.le_refl _) (.cells (ar z16) 5)
  have hxm := (Blk.new wa 5 (ar z16)).bsl HN16.out (by omega)
  obtain ⟨wm, hwm⟩ : ∃ wm, wa.alloc (.cells (ar z16) 5) = wm := ⟨_, rfl⟩
  rw [hwm] at bm hxm ⊢
  refine hK _ _ (Stays.of_below bm) ?_
  clear hK K' hwm
  have hSm := hSa.trans (bm.mono hSa.size)
  have hmm : Below wm.heap.size wm wm := Below.refl _ _
  have V1 : ∀ X, Below wm.heap.size wm X → (convert 22 9 (.slice (some ⟨wa.heap.size, 0, none⟩) 16 16)).run Tryd.prog X = .ok (.string sZ) X := fun X hX => by have := (hxm.below hX).conv; rwa [HSZ.out] at this
  clear bm hSa
  try simp only [Act.put, List.setIfInBounds_toArray, List.set_cons_zero, List.set_cons_succ]
  iterate 35 (
    refine wpS_read (v := ?_) rfl (by kernel_rfl) (by kernel_rfl) (by kernel_rfl) (fun _ _ _ h => h) (.inl ⟨by rfl, ?_⟩) ?_
    rotate_left
    · intro X hX
      have hv := V1 X (hX _ hmm)
      have hg0 := G0 X (hX _ hSm)
      have hg1 := G1 X (hX _ hSm)
      have hg2 := G2 X (hX _ hSm)
      have hg3 := G3 X (hX _ hSm)
      have hg4 := G4 X (hX _ hSm)
      have hg5 := G5 X (hX _ hSm)
      have hg6 := G6 X (hX _ hSm)
      have hg7 := G7 X (hX _ hSm)
      have hg8 := G8 X (hX _ hSm)
      have hg9 := G9 X (hX _ hSm)
      clear hX
      go_simp
      with_reducible rfl
    try simp only [Act.put, List.setIfInBounds_toArray, List.set_cons_zero, List.set_cons_succ])
  refine wpS_lone rfl (by kernel_rfl) (fun K' hK => ?_)
  go_simp
  refine (HK1.out wm).mono ?_
  rintro ev wc1 ⟨rfl, bc⟩
  have hSc1 := hSm.trans (bc.mono hSm.size)
  refine hK _ _ (Stays.of_below bc) ?_
  clear hK K' bc
  try simp only [Act.put, List.setIfInBounds_toArray, List.set_cons_zero, List.set_cons_succ]
  iterate 4 (
    refine wpS_read (v := ?_) rfl (by kernel_rfl) (by kernel_rfl) (by kernel_rfl) (fun _ _ _ h => h) (.inl ⟨by rfl, ?_⟩) ?_
    rotate_left
    · intro X hX
      clear hX
      go_simp
      with_reducible rfl
    try simp only [Act.put, List.setIfInBounds_toArray, List.set_cons_zero, List.set_cons_succ])
  refine wpS_lone rfl (by kernel_rfl) (fun K' hK => ?_)
  go_simp
  refine (HK2.out wc1).mono ?_
  rintro ev wc2 ⟨rfl, bc⟩
  have hSc2 := hSc1.trans (bc.mono hSc1.size)
  refine hK _ _ (Stays.of_below bc) ?_
  clear hK K' bc
  try simp only [Act.put, List.setIfInBounds_toArray, List.set_cons_zero, List.set_cons_succ]
  iterate 4 (
    refine wpS_read (v := ?_) rfl (by kernel_rfl) (by kernel_rfl) (by kernel_rfl) (fun _ _ _ h => h) (.inl ⟨by rfl, ?_⟩) ?_
    rotate_left
    · intro X hX
      clear hX
      go_simp
      with_reducible rfl
    try simp only [Act.put, List.setIfInBounds_toArray, List.set_cons_zero, List.set_cons_succ])
  refine wpS_lone rfl (by kernel_rfl) (fun K' hK => ?_)
  go_simp
  refine (HK3.out wc2).mono ?_
  rintro ev wc3 ⟨rfl, bc⟩
  have hSc3 := hSc2.trans (bc.mono hSc2.size)
  refine hK _ _ (Stays.of_below bc) ?_
  clear hK K' bc
  try simp only [Act.put, List.setIfInBounds_toArray, List.set_cons_zero, List.set_cons_succ]
  iterate 3 (
    refine wpS_read (v := ?_) rfl (by kernel_rfl) (by kernel_rfl) (by kernel_rfl) (fun _ _ _ h => h) (.inl ⟨by rfl, ?_⟩) ?_
    rotate_left
    · intro X hX
      clear hX
      go_simp
      with_reducible rfl
    try simp only [Act.put, List.setIfInBounds_toArray, List.set_cons_zero, List.set_cons_succ])
  refine wpS_done (by kernel_rfl) ?_
  go_wp2_with fail
  go_ret
  exact ⟨rfl, HB.out.trans ((UP _ hSc3).mono HB.out.size)⟩
end Go.Proofs.YtlogglmdfnakkaaDoor
namespace Go.Proofs.YtlogglmdfnakkaaDoor.ptrNames
open Go.ChangeShapes Go.WideShapes Go.ChangeAt Go.RowKit
set_option linter.unusedVariables false

theorem own : ownKnob Tryd.prog.godebug = none := by kernel_rfl
theorem laidOut : laidOutB Tryd.prog = true := by kernel_rfl

set_option maxRecDepth 100000 in
theorem lifted (os : Os) (started : os.Started) (H : Type) (enc : TypeId × Value → H) :
    ReturnsInHanded {} Tryd.checked os 3 .any (fun w args => (Rows.ptrNamesSpec.pre enc Tryd.prog Tryd.f3 [] false w args ∧ laidMetH Tryd.prog [("charterhouse/ptr.sizes", Rows.laid_charterhouse_ptr_sizes)] w) ∧ sizedMet enc Tryd.prog Tryd.f3 (OpenSpec.ofChange Rows.ptrNamesSpec) false w args)
      (Rows.ptrNamesSpec.post enc Tryd.prog Tryd.f3 false true false false) := by
  refine returnsInHanded_of_change_and (C := Tryd.checked) (X := fun w _ => laidMetH Tryd.prog [("charterhouse/ptr.sizes", Rows.laid_charterhouse_ptr_sizes)] w) (fun _ _ _ hh h => h.of_heap hh) own started (by kernel_rfl) Tryd.func3
    (ChangeSpec.witness_shaped (enc := enc) (C := Tryd.checked) (os := os) (X := fun w _ => laidMetH Tryd.prog [("charterhouse/ptr.sizes", Rows.laid_charterhouse_ptr_sizes)] w) false (World.doorLaid Tryd.prog 400 os) #[] 8 rfl (World.shaped_of_RefB (by kernel_rfl) (by kernel_rfl)) (by kernel_rfl) (by kernel_rfl) (by kernel_rfl) (door_met os _)) ?_
  intro W base args ds gs before hval0 hW _ _ hL _
  have hval : ∀ (j : Nat) t v, Tryd.f3.params[j]? = some t → args[j]? = some v → Value.okWide Tryd.prog W .any base t v := hval0
  have hW' := hW
  obtain ⟨p, q, hA0, hV, rfl, hfz, hnd⟩ := hW
  have hA : DataW.TrodAll enc Tryd.prog W 0 (fun _ => true) true Tryd.f3.params.toList args.toList ds p := hA0
  rw [Tryd.params3] at hA hval
  obtain ⟨rfl, rfl, rfl⟩ := trodAll_none hA
  obtain ⟨rfl, rfl⟩ := trodVars_none hV
  clear hA0 hval0
  refine (ptrNames_walk  W (szs_of_laid hL)).mono fun e W' ⟨he, bel⟩ => ?_
  subst he
  exact ⟨_, rfl, _, _, _, [], _, [], hW', trodAll_mk1 (shut_bool Tryd.underlying4 _), rfl, rfl, bel.frame _, fun h => by cases h⟩

theorem over : Rows.PtrNamesSaid :=
  OpenClaim.holds_of_wide 3 Tryd.f3 rfl rfl rfl rfl rfl rfl rfl ⟨rfl, rfl, rfl, rfl, rfl⟩ rfl rfl rfl rfl rfl (by kernel_rfl) Tryd.func3 (by kernel_rfl)
    (of_decide_eq_true (by kernel_rfl)) (by unfold Func.isWrapper; first | (rw [if_pos (by decide +kernel)]; kernel_rfl) | (rw [if_neg (by decide +kernel)]; exact ⟨rfl, rfl⟩))
    (fun os started H enc _ => lifted os started H enc)

/-- The statement. -/
theorem proved : Rows.PtrNamesCardSaid :=
  Claim7.holds_tied_plain_at .later [] [.data] true _ false
    over (fun _ h => by cases h) (by kernel_rfl) (fun _ h => by cases h) ptrNames_row_tie rfl ⟨rfl, rfl⟩ (by kernel_rfl) rfl
    (fun f fn hf hfn => by
      obtain rfl : f = 3 := Option.some.inj ((show Tryd.prog.funcNamed "charterhouse/charterhouselaw10.PtrNames" = some 3 by kernel_rfl).symm.trans hf) |>.symm
      obtain rfl : fn = Tryd.f3 := (Option.some.inj (Tryd.func3.symm.trans hfn)).symm
      exact ⟨by kernel_rfl, fun j t ht => by
        rw [Tryd.params3] at ht
        simp at ht⟩)
    (by kernel_rfl)
end Go.Proofs.YtlogglmdfnakkaaDoor.ptrNames
