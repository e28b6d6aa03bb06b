/-
  ObjNamesSaid: the limits and errors have their numbers, and the chapter's examples are so. No condition but the tied one: ptr.sizes reads as its own initialiser lays it.
-/
import Derived.Test.YtennhempdnpobaaDoorLawObjB
import Derived.Test.YtennhempdnpobaaDoorPtOpen
namespace Go.Proofs.YtennhempdnpobaaDoor
open Go.RowKit Go.Shelf
set_option maxRecDepth 100000

theorem noughts_read : oreadO (List.replicate 256 0) = (ob0, 8) := by
  unfold oreadO
  rw [if_pos (List.length_replicate ..), if_neg]
  rintro ⟨⟨⟨⟨h, _⟩, _⟩, _⟩, _⟩
  revert h
  decide
theorem short_read : oreadO (List.replicate 255 0) = (ob0, 3) := by
  unfold oreadO
  rw [if_neg (by rw [List.length_replicate]; decide)]
theorem bsl_made (n : Nat) (hn : n ≤ 1000) (w : World) : Bsl (w.alloc (.cells (ar (List.replicate n 0)) 5)) (w.alloc (.cells (ar (List.replicate n 0)) 5)).heap.size (some ⟨w.heap.size, 0, none⟩) n n (List.replicate n 0) := (Blk.new w _ _).bsl (List.length_replicate ..) hn
theorem holes14_pts {w : World} {g : Nat} (h : Blk w g 42 noPts) : Pts w w.heap.size (some ⟨g, 0, none⟩) 14 15 (List.replicate 14 p0) := by
  obtain ⟨_, _, _, _, h5⟩ := holes_pts h
  obtain ⟨b, o, e, hb, hc⟩ := h5 (by omega)
  refine ⟨rfl, by omega, by unfold maxLen; omega, fun e => (by cases e), fun _ => ⟨b, o, e, hb, fun i hi => ?_⟩⟩
  have hi2 : i < 14 := by simpa using hi
  have := hc i (by rw [List.length_replicate]; omega)
  rw [List.getElem_replicate] at this ⊢
  exact this
set_option maxHeartbeats 8000000 in
theorem objNames_walk (w : World) (hz : Szs w) : Calls Tryd.prog 3 #[] w fun e w' => e = .returned (.bool true) ∧ Below w.heap.size w w' := by
  have HZ := Lib.hid hz
  have HB := Lib.hid (Below.refl w.heap.size w)
  clear hz
  have bm1 := (Below.refl w.heap.size w).alloc (Nat.le_refl _) (.cells (ar (List.replicate 256 0)) 5)
  have hb1 := bsl_made 256 (by omega) w
  have hmk1 : (Instr.makeSlice 28 (.int .i64 256) (.int .i64 256)).run Tryd.prog w = .ok (.slice (some ⟨w.heap.size, 0, none⟩) 256 256) (w.alloc (.cells (ar (List.replicate 256 0)) 5)) := mkBytes 256 (by omega) w
  obtain ⟨m1, hm1⟩ : ∃ X, w.alloc (.cells (ar (List.replicate 256 0)) 5) = X := ⟨_, rfl⟩
  rw [hm1] at bm1 hb1 hmk1
  have hrd1 := obRead_any (some ⟨w.heap.size, 0, none⟩) 256 (List.replicate 256 0) m1 (by rw [List.length_replicate]; exact hb1) (HZ.out.step bm1)
  rw [noughts_read, List.length_replicate] at hrd1
  have HRD1 := Lib.hid hrd1
  have HBM1 := Lib.hid bm1
  clear bm1 hb1 hrd1 hm1
  go_enter Tryd.func3, Tryd.ntmps3
  go_wp2_with fail
  refine HRD1.out.mono ?_
  rintro e w1 ⟨a1, c1, rfl, _, _, b1⟩
  replace HB := Lib.hid (HB.out.trans ((HBM1.out.trans (b1.mono HBM1.out.size)).mono HB.out.size))
  replace HZ := Lib.hid (HZ.out.step (HBM1.out.trans (b1.mono HBM1.out.size)))
  clear b1 HRD1 hmk1 HBM1
  have bx1 := (Below.refl w1.heap.size w1).alloc (Nat.le_refl _) (.cells #[.int .u8 0, .int .i64 0, .int .i64 0, .slice a1 0 c1] 24)
  have x1 := Blk.new w1 24 #[.int .u8 0, .int .i64 0, .int .i64 0, .slice a1 0 c1]
  obtain ⟨n1, hn1⟩ : ∃ X, w1.alloc (.cells #[.int .u8 0, .int .i64 0, .int .i64 0, .slice a1 0 c1] 24) = X := ⟨_, rfl⟩
  rw [hn1] at bx1 x1
  replace HB := Lib.hid (HB.out.trans (bx1.mono HB.out.size))
  replace HZ := Lib.hid (HZ.out.step bx1)
  clear bx1 x1
  have bm2 := (Below.refl n1.heap.size n1).alloc (Nat.le_refl _) (.cells (ar (List.replicate 255 0)) 5)
  have hb2 := bsl_made 255 (by omega) n1
  have hmk2 : (Instr.makeSlice 28 (.int .i64 255) (.int .i64 255)).run Tryd.prog n1 = .ok (.slice (some ⟨n1.heap.size, 0, none⟩) 255 255) (n1.alloc (.cells (ar (List.replicate 255 0)) 5)) := mkBytes 255 (by omega) n1
  obtain ⟨m2, hm2⟩ : ∃ X, n1.alloc (.cells (ar (List.replicate 255 0)) 5) = X := ⟨_, rfl⟩
  rw [hm2] at bm2 hb2 hmk2
  have hrd2 := obRead_any (some ⟨n1.heap.size, 0, none⟩) 255 (List.replicate 255 0) m2 (by rw [List.length_replicate]; exact hb2) (HZ.out.step bm2)
  rw [short_read, List.length_replicate] at hrd2
  have HRD2 := Lib.hid hrd2
  have HBM2 := Lib.hid bm2
  clear bm2 hb2 hrd2 hm2
  go_wp2_with fail
  try rw [hn1]
  refine HRD2.out.mono ?_
  rintro e w2 ⟨a2, c2, rfl, _, _, b2⟩
  replace HB := Lib.hid (HB.out.trans ((HBM2.out.trans (b2.mono HBM2.out.size)).mono HB.out.size))
  replace HZ := Lib.hid (HZ.out.step (HBM2.out.trans (b2.mono HBM2.out.size)))
  clear b2 HRD2 hmk2 HBM2 hn1
  have bx2 := (Below.refl w2.heap.size w2).alloc (Nat.le_refl _) (.cells #[.int .u8 0, .int .i64 0, .int .i64 0, .slice a2 0 c2] 24)
  have x2 := Blk.new w2 24 #[.int .u8 0, .int .i64 0, .int .i64 0, .slice a2 0 c2]
  obtain ⟨n2, hn2⟩ : ∃ X, w2.alloc (.cells #[.int .u8 0, .int .i64 0, .int .i64 0, .slice a2 0 c2] 24) = X := ⟨_, rfl⟩
  rw [hn2] at bx2 x2
  replace HB := Lib.hid (HB.out.trans (bx2.mono HB.out.size))
  replace HZ := Lib.hid (HZ.out.step bx2)
  clear bx2 x2
  go_wp2_with fail
  try rw [hn2]
  clear hn2
  refine (loEmpty_any n2).mono ?_
  rintro e w3 ⟨g3, rfl, hg3, hp3, b3⟩
  replace HB := Lib.hid (HB.out.trans (b3.mono HB.out.size))
  replace HZ := Lib.hid (HZ.out.step b3)
  go_wp2_with fail
  refine (loEmpty_any w3).mono ?_
  rintro e w4 ⟨g4, rfl, hg4, hp4, b4⟩
  replace HB := Lib.hid (HB.out.trans (b4.mono HB.out.size))
  replace HZ := Lib.hid (HZ.out.step b4)
  have HP3 := Lib.hid (hp3.below b4 hp3.lt)
  have HP4 := Lib.hid hp4
  clear hp3 hp4 b3 b4 hg3 hg4
  have b5 := ((Below.refl w4.heap.size w4).alloc (Nat.le_refl _) (.cells #[.int .u8 8, .int .i64 2, .int .i64 300, .slice (some ⟨g3, 0, none⟩) 15 15] 24)).alloc (by rw [World.size_alloc]; omega) (.cells #[.int .u8 1, .int .i64 2, .int .i64 300, .slice (some ⟨g4, 0, none⟩) 14 15] 24)
  have x5 := (Blk.new w4 24 #[.int .u8 8, .int .i64 2, .int .i64 300, .slice (some ⟨g3, 0, none⟩) 15 15]).alloc (.cells #[.int .u8 1, .int .i64 2, .int .i64 300, .slice (some ⟨g4, 0, none⟩) 14 15] 24)
  have y5 := Blk.new (w4.alloc (.cells #[.int .u8 8, .int .i64 2, .int .i64 300, .slice (some ⟨g3, 0, none⟩) 15 15] 24)) 24 #[.int .u8 1, .int .i64 2, .int .i64 300, .slice (some ⟨g4, 0, none⟩) 14 15]
  rw [World.size_alloc] at y5
  obtain ⟨w5, hw5⟩ : ∃ X, (w4.alloc (.cells #[.int .u8 8, .int .i64 2, .int .i64 300, .slice (some ⟨g3, 0, none⟩) 15 15] 24)).alloc (.cells #[.int .u8 1, .int .i64 2, .int .i64 300, .slice (some ⟨g4, 0, none⟩) 14 15] 24) = X := ⟨_, rfl⟩
  rw [hw5] at b5 x5 y5
  replace HB := Lib.hid (HB.out.trans (b5.mono HB.out.size))
  replace HZ := Lib.hid (HZ.out.step b5)
  replace HP3 := Lib.hid (HP3.out.below b5 HP3.out.lt)
  replace HP4 := Lib.hid (HP4.out.below b5 HP4.out.lt)
  have HX := Lib.hid x5
  have HY := Lib.hid y5
  clear b5 x5 y5
  go_wp2_with fail
  try rw [hw5]
  clear hw5
  refine (loAlive_any w5 HZ.out).mono ?_
  rintro e w6 ⟨rfl, b6⟩
  replace HB := Lib.hid (HB.out.trans (b6.mono HB.out.size))
  replace HZ := Lib.hid (HZ.out.step b6)
  replace HP3 := Lib.hid (HP3.out.below b6 HP3.out.lt)
  replace HP4 := Lib.hid (HP4.out.below b6 HP4.out.lt)
  replace HX := Lib.hid (HX.out.below b6 HX.out.lt)
  replace HY := Lib.hid (HY.out.below b6 HY.out.lt)
  have d0 := ox0 HX.out
  have d1 := ox1 HX.out
  have d2 := ox2 HX.out
  have d3 := ox3 HX.out
  have HC8 := Lib.hid (obCheck_any (some ⟨g3, 0, none⟩) 15 ((8, 2, 300, List.replicate 15 p0) : ObL) w6 (holes_pts HP3.out) ⟨by decide, by decide, by decide⟩ 8 ⟨fun h => absurd h (by rintro ⟨⟨⟨_, h⟩, _⟩, _⟩; revert h; decide), fun _ => rfl⟩)
  clear b6
  go_wp2_with fail
  clear d0 d1 d2 d3
  refine HC8.out.mono ?_
  rintro e w7 ⟨rfl, b7⟩
  replace HB := Lib.hid (HB.out.trans (b7.mono HB.out.size))
  replace HZ := Lib.hid (HZ.out.step b7)
  replace HP4 := Lib.hid (HP4.out.below b7 HP4.out.lt)
  replace HY := Lib.hid (HY.out.below b7 HY.out.lt)
  have d0 := ox0 HY.out
  have d1 := ox1 HY.out
  have d2 := ox2 HY.out
  have d3 := ox3 HY.out
  have HCS := Lib.hid (obCheck_any (some ⟨g4, 0, none⟩) 15 ((1, 2, 300, List.replicate 14 p0) : ObL) w7 (holes14_pts HP4.out) ⟨by decide, by decide, by decide⟩ 8 ⟨fun h => absurd h (by rintro ⟨⟨_, _, _, h⟩, _⟩; revert h; decide), fun _ => rfl⟩)
  clear b7 HC8 HX HP3
  go_wp2_with fail
  clear d0 d1 d2 d3
  refine HCS.out.mono ?_
  rintro e w8 ⟨rfl, b8⟩
  replace HB := Lib.hid (HB.out.trans (b8.mono HB.out.size))
  clear b8 HCS HY HP4
  go_wp2_with fail
  refine (loEmpty_any w8).mono ?_
  rintro e w9 ⟨g9, rfl, _, hp9, b9⟩
  replace HB := Lib.hid (HB.out.trans (b9.mono HB.out.size))
  have HCE := Lib.hid (obCheck_any (some ⟨g9, 0, none⟩) 15 emptyOb w9 (holes_pts hp9) empty_wf 0 ⟨fun _ => rfl, fun h => absurd empty_may h⟩)
  clear b9 hp9
  go_wp2_with fail
  refine HCE.out.mono ?_
  rintro e w10 ⟨rfl, b10⟩
  have HBF := Lib.hid (HB.out.trans (b10.mono HB.out.size))
  clear b10
  go_wp2_with fail
  go_ret
  exact ⟨rfl, HBF.out⟩
end Go.Proofs.YtennhempdnpobaaDoor
namespace Go.Proofs.YtennhempdnpobaaDoor.objNames
open Go.ChangeShapes Go.WideShapes Go.ChangeAt Go.RowKit
set_option linter.unusedVariables false

theorem own : ownKnob Tryd.prog.godebug = none := by kernel_rfl
theorem laidOut : laidOutB Tryd.prog = true := by kernel_rfl

set_option maxRecDepth 100000 in
theorem lifted (os : Os) (started : os.Started) (H : Type) (enc : TypeId × Value → H) :
    ReturnsInHanded {} Tryd.checked os 3 .any (fun w args => (Rows.objNamesSpec.pre enc Tryd.prog Tryd.f3 [] false w args ∧ laidMetH Tryd.prog [("charterhouse/ptr.sizes", Rows.laid_charterhouse_ptr_sizes)] w) ∧ sizedMet enc Tryd.prog Tryd.f3 (OpenSpec.ofChange Rows.objNamesSpec) false w args)
      (Rows.objNamesSpec.post enc Tryd.prog Tryd.f3 false true false false) := by
  refine returnsInHanded_of_change_and (C := Tryd.checked) (X := fun w _ => laidMetH Tryd.prog [("charterhouse/ptr.sizes", Rows.laid_charterhouse_ptr_sizes)] w) (fun _ _ _ hh h => h.of_heap hh) own started (by kernel_rfl) Tryd.func3
    (ChangeSpec.witness_shaped (enc := enc) (C := Tryd.checked) (os := os) (X := fun w _ => laidMetH Tryd.prog [("charterhouse/ptr.sizes", Rows.laid_charterhouse_ptr_sizes)] w) false (World.doorLaid Tryd.prog 400 os) #[] 8 rfl (World.shaped_of_RefB (by kernel_rfl) (by kernel_rfl)) (by kernel_rfl) (by kernel_rfl) (by kernel_rfl) (door_met os _)) ?_
  intro W base args ds gs before hval0 hW _ _ hL _
  have hval : ∀ (j : Nat) t v, Tryd.f3.params[j]? = some t → args[j]? = some v → Value.okWide Tryd.prog W .any base t v := hval0
  have hW' := hW
  obtain ⟨p, q, hA0, hV, rfl, hfz, hnd⟩ := hW
  have hA : DataW.TrodAll enc Tryd.prog W 0 (fun _ => true) true Tryd.f3.params.toList args.toList ds p := hA0
  rw [Tryd.params3] at hA hval
  obtain ⟨rfl, rfl, rfl⟩ := trodAll_none hA
  obtain ⟨rfl, rfl⟩ := trodVars_none hV
  clear hA0 hval0
  refine (objNames_walk  W (szs_of_laid hL)).mono fun e W' ⟨he, bel⟩ => ?_
  subst he
  exact ⟨_, rfl, _, _, _, [], _, [], hW', trodAll_mk1 (shut_bool Tryd.underlying4 _), rfl, rfl, bel.frame _, fun h => by cases h⟩

theorem over : Rows.ObjNamesSaid :=
  OpenClaim.holds_of_wide 3 Tryd.f3 rfl rfl rfl rfl rfl rfl rfl ⟨rfl, rfl, rfl, rfl, rfl⟩ rfl rfl rfl rfl rfl (by kernel_rfl) Tryd.func3 (by kernel_rfl)
    (of_decide_eq_true (by kernel_rfl)) (by unfold Func.isWrapper; first | (rw [if_pos (by decide +kernel)]; kernel_rfl) | (rw [if_neg (by decide +kernel)]; exact ⟨rfl, rfl⟩))
    (fun os started H enc _ => lifted os started H enc)

/-- The statement. -/
theorem proved : Rows.ObjNamesCardSaid :=
  Claim7.holds_tied_plain_at .later [] [.data] true _ false
    over (fun _ h => by cases h) (by kernel_rfl) (fun _ h => by cases h) objNames_row_tie rfl ⟨rfl, rfl⟩ (by kernel_rfl) rfl
    (fun f fn hf hfn => by
      obtain rfl : f = 3 := Option.some.inj ((show Tryd.prog.funcNamed "charterhouse/charterhouselaw14.ObjNames" = some 3 by kernel_rfl).symm.trans hf) |>.symm
      obtain rfl : fn = Tryd.f3 := (Option.some.inj (Tryd.func3.symm.trans hfn)).symm
      exact ⟨by kernel_rfl, fun j t ht => by
        rw [Tryd.params3] at ht
        simp at ht⟩)
    (by kernel_rfl)
end Go.Proofs.YtennhempdnpobaaDoor.objNames
