/-
  MountNamesSaid: the limits and errors have their numbers, and the chapter's examples are so. No condition but the tied one: ptr.sizes reads as its own initialiser says.
-/
import Derived.Test.YtafbidhbmfdlkaaGreatDoorRows
import Derived.Test.YtafbidhbmfdlkaaGreatDoorPkMN6
namespace Go.Proofs.YtafbidhbmfdlkaaGreatDoor
open Go Go.RowKit Go.Shelf
set_option maxRecDepth 100000

set_option maxHeartbeats 16000000 in
theorem mountNames_walk (w : World) (hz : Szs w) : Calls Tryz.prog 3 #[] w fun e w' => e = .returned (.bool true) ∧ Below w.heap.size w w' := by
  obtain ⟨P, R, P2, hln⟩ := mtLine
  have HLN := Lib.hid hln
  have HZ0 := Lib.hid hz
  have HB := Lib.hid (Below.refl w.heap.size w)
  clear hln hz
  go_enter Tryz.func3, Tryz.ntmps3
  have HC := Lib.hid (HLN.out.new w)
  go_wp2_with fail
  refine HC.out.mono ?_
  rintro e w1 ⟨v, rfl, b1, hop⟩
  replace HB := Lib.hid (HB.out.trans (b1.mono HB.out.size))
  clear HC b1
  have HC := Lib.hid (hop (HZ0.out.step HB.out))
  clear hop
  go_wp2_with fail
  refine HC.out.mono ?_
  rintro e w2 ⟨rfl, b2⟩
  replace HB := Lib.hid (HB.out.trans (b2.mono HB.out.size))
  clear HC b2
  obtain ⟨w3, g1, hn_, hg_, b_, q_⟩ := new_blk w2 poZ 36
  have HGEH1 := Lib.hid (show w.heap.size ≤ g1 from hg_ ▸ HB.out.size)
  have HLTH1 := Lib.hid (show g1 = w2.heap.size from hg_.symm)
  replace HB := Lib.hid (HB.out.trans (b_.mono HB.out.size))
  have H1Z := Lib.hid q_
  simp only [poZ] at hn_
  clear b_ q_
  go_wp2_with (first
    | (with_reducible refine tx_at_store ?_
       try rw [hn_]
       try rw [hg_]
       refine wpList_store_z rfl (.tmp 1) (.tmp 12) rfl g1 poZ rfl rfl rfl poZ H1Z.out rfl ?_
       intro w4 hrr_ hgz_
       have hkp : Keeps 0 w3 w4 := Keeps.of_box hgz_ H1Z.out (by decide) (Nat.zero_le _)
       replace HB := Lib.hid (below_only HB.out HGEH1.out hgz_ HB.out.size)
       have H1 := Lib.hid hrr_
       clear hrr_ hgz_ hkp
       skip))
  clear hn_ hg_ H1 H1Z
  have HC := Lib.hid (HLN.out.none w4 (HZ0.out.step HB.out))
  go_wp2_with fail
  refine HC.out.mono ?_
  rintro e w5 ⟨rfl, b5⟩
  replace HB := Lib.hid (HB.out.trans (b5.mono HB.out.size))
  clear HC b5
  obtain ⟨w6, g3, hn_, hg_, b_, q_⟩ := new_blk w5 poZ 36
  have HGEH3 := Lib.hid (show w.heap.size ≤ g3 from hg_ ▸ HB.out.size)
  have HLTH3 := Lib.hid (show g3 = w5.heap.size from hg_.symm)
  replace HB := Lib.hid (HB.out.trans (b_.mono HB.out.size))
  have H3Z := Lib.hid q_
  simp only [poZ] at hn_
  clear b_ q_
  go_wp2_with (first
    | (with_reducible refine tx_at_store ?_
       try rw [hn_]
       try rw [hg_]
       refine wpList_store_z rfl (.tmp 3) (.tmp 17) rfl g3 poZ rfl rfl rfl poZ H3Z.out rfl ?_
       intro w7 hrr_ hgz_
       have hkp : Keeps 0 w6 w7 := Keeps.of_box hgz_ H3Z.out (by decide) (Nat.zero_le _)
       replace HB := Lib.hid (below_only HB.out HGEH3.out hgz_ HB.out.size)
       have H3 := Lib.hid hrr_
       clear hrr_ hgz_ hkp
       skip))
  clear hn_ hg_ H3 H3Z
  have HC := Lib.hid (HLN.out.f1 w7 (HZ0.out.step HB.out))
  go_wp2_with fail
  refine HC.out.mono ?_
  rintro e w8 ⟨y, rfl, hn8, b8⟩
  replace HB := Lib.hid (HB.out.trans (b8.mono HB.out.size))
  clear HC b8 hn8
  obtain ⟨w9, g5, hn_, hg_, b_, q_⟩ := new_blk w8 poZ 36
  have HGEH5 := Lib.hid (show w.heap.size ≤ g5 from hg_ ▸ HB.out.size)
  have HLTH5 := Lib.hid (show g5 = w8.heap.size from hg_.symm)
  replace HB := Lib.hid (HB.out.trans (b_.mono HB.out.size))
  have H5Z := Lib.hid q_
  simp only [poZ] at hn_
  clear b_ q_
  go_wp2_with (first
    | (with_reducible refine tx_at_store ?_
       try rw [hn_]
       try rw [hg_]
       refine wpList_store_pool rfl (.tmp 5) (.tmp 21) rfl g5 y P2 rfl rfl poZ H5Z.out rfl ?_
       intro wa hrr_ hgz_
       have hkp : Keeps 0 w9 wa := Keeps.of_box hgz_ H5Z.out (by decide) (Nat.zero_le _)
       replace HB := Lib.hid (below_only HB.out HGEH5.out hgz_ HB.out.size)
       have H5 := Lib.hid hrr_
       clear hrr_ hgz_ hkp
       skip))
  clear hn_ hg_
  have HC := Lib.hid (HLN.out.f2 wa)
  go_wp2_with fail
  refine HC.out.mono ?_
  rintro e wb ⟨rfl, bb⟩
  replace H5 := Lib.hid (H5.out.bel bb)
  replace HB := Lib.hid (HB.out.trans (bb.mono HB.out.size))
  clear HC bb
  have HQH5 := Lib.hid H5.out.lt
  obtain ⟨wc, g7, hn_, hg_, b_, q_⟩ := new_blk wb poZ 36
  have HGEH7 := Lib.hid (show w.heap.size ≤ g7 from hg_ ▸ HB.out.size)
  have HLTH7 := Lib.hid (show g7 = wb.heap.size from hg_.symm)
  replace HB := Lib.hid (HB.out.trans (b_.mono HB.out.size))
  have H7Z := Lib.hid q_
  simp only [poZ] at hn_
  replace H5 := Lib.hid (H5.out.bel b_)
  clear b_ q_
  go_wp2_with (first
    | (with_reducible refine tx_at_store ?_
       try rw [hn_]
       try rw [hg_]
       refine wpList_store_z rfl (.tmp 7) (.tmp 25) rfl g7 poZ rfl rfl rfl poZ H7Z.out rfl ?_
       intro wd hrr_ hgz_
       have hkp : Keeps 0 wc wd := Keeps.of_box hgz_ H7Z.out (by decide) (Nat.zero_le _)
       replace H5 := Lib.hid (show PBox _ _ _ _ from Blk.grown H5.out hgz_ (fun e => by have h1 := HQH5.out; have h2 := HLTH7.out; have h3 := Option.some.inj e; omega))
       replace HB := Lib.hid (below_only HB.out HGEH7.out hgz_ HB.out.size)
       have H7 := Lib.hid hrr_
       clear hrr_ hgz_ hkp
       skip))
  clear hn_ hg_ H7 H7Z
  have HC := Lib.hid (mtAlive_any wd (HZ0.out.step HB.out))
  go_wp2_with fail
  refine HC.out.mono ?_
  rintro e we ⟨rfl, be⟩
  replace H5 := Lib.hid (H5.out.bel be)
  replace HB := Lib.hid (HB.out.trans (be.mono HB.out.size))
  have c3 := H5.out.c3
  rw [HLN.out.ep2] at c3
  clear HC be
  go_wp2_with fail
  go_ret
  exact ⟨rfl, HB.out⟩
end Go.Proofs.YtafbidhbmfdlkaaGreatDoor
namespace Go.Proofs.YtafbidhbmfdlkaaGreatDoor.mountNames
open Go.ChangeShapes Go.WideShapes Go.ChangeAt Go.RowKit
set_option linter.unusedVariables false

theorem own : ownKnob Tryz.prog.godebug = none := by kernel_rfl
theorem laidOut : laidOutB Tryz.prog = true := by kernel_rfl

set_option maxRecDepth 100000 in
theorem lifted (os : Os) (started : os.Started) (H : Type) (enc : TypeId × Value → H) :
    ReturnsInHanded {} Tryz.checked os 3 .any (fun w args => (Rows.mountNamesSpec.pre enc Tryz.prog Tryz.f3 [] false w args ∧ laidMetH Tryz.prog [("charterhouse/ptr.sizes", Rows.laid_charterhouse_ptr_sizes)] w) ∧ sizedMet enc Tryz.prog Tryz.f3 (OpenSpec.ofChange Rows.mountNamesSpec) false w args)
      (Rows.mountNamesSpec.post enc Tryz.prog Tryz.f3 false true false false) := by
  refine returnsInHanded_of_change_and (C := Tryz.checked) (X := fun w _ => laidMetH Tryz.prog [("charterhouse/ptr.sizes", Rows.laid_charterhouse_ptr_sizes)] w) (fun _ _ _ hh h => h.of_heap hh) own started (by kernel_rfl) Tryz.func3
    (ChangeSpec.witness_shaped (enc := enc) (C := Tryz.checked) (os := os) (X := fun w _ => laidMetH Tryz.prog [("charterhouse/ptr.sizes", Rows.laid_charterhouse_ptr_sizes)] w) false (World.doorLaid Tryz.prog 400 os) #[] 8 rfl (World.shaped_of_RefB (by kernel_rfl) (by kernel_rfl)) (by kernel_rfl) (by kernel_rfl) (by kernel_rfl) (door_met os _)) ?_
  intro W base args ds gs before hval0 hW _ _ hL _
  have hval : ∀ (j : Nat) t v, Tryz.f3.params[j]? = some t → args[j]? = some v → Value.okWide Tryz.prog W .any base t v := hval0
  have hW' := hW
  obtain ⟨p, q, hA0, hV, rfl, hfz, hnd⟩ := hW
  have hA : DataW.TrodAll enc Tryz.prog W 0 (fun _ => true) true Tryz.f3.params.toList args.toList ds p := hA0
  rw [Tryz.params3] at hA hval
  obtain ⟨rfl, rfl, rfl⟩ := trodAll_none hA
  obtain ⟨rfl, rfl⟩ := trodVars_none hV
  clear hA0 hval0
  refine (mountNames_walk  W (szs_of_laid hL)).mono fun e W' ⟨he, bel⟩ => ?_
  subst he
  exact ⟨_, rfl, _, _, _, [], _, [], hW', trodAll_mk1 (shut_bool Tryz.underlying4 _), rfl, rfl, bel.frame _, fun h => by cases h⟩

theorem over : Rows.MountNamesSaid :=
  OpenClaim.holds_of_wide 3 Tryz.f3 rfl rfl rfl rfl rfl rfl rfl ⟨rfl, rfl, rfl, rfl, rfl⟩ rfl rfl rfl rfl rfl (by kernel_rfl) Tryz.func3 (by kernel_rfl)
    (of_decide_eq_true (by kernel_rfl)) (by unfold Func.isWrapper; first | (rw [if_pos (by decide +kernel)]; kernel_rfl) | (rw [if_neg (by decide +kernel)]; exact ⟨rfl, rfl⟩))
    (fun os started H enc _ => lifted os started H enc)

/-- The statement. -/
theorem proved : Rows.MountNamesCardSaid :=
  Claim7.holds_tied_plain_at .later [] [.data] true _ true
    over (fun _ h => by cases h) (by kernel_rfl) (fun _ h => by cases h) mountNames_row_tie rfl ⟨rfl, rfl⟩ (by kernel_rfl) rfl
    (fun f fn hf hfn => by
      obtain rfl : f = 3 := Option.some.inj ((show Tryz.prog.funcNamed "charterhouse/charterhouselaw19.MountNames" = some 3 by kernel_rfl).symm.trans hf) |>.symm
      obtain rfl : fn = Tryz.f3 := (Option.some.inj (Tryz.func3.symm.trans hfn)).symm
      exact ⟨by kernel_rfl, fun j t ht => by
        rw [Tryz.params3] at ht
        simp at ht⟩)
    (by kernel_rfl)
end Go.Proofs.YtafbidhbmfdlkaaGreatDoor.mountNames
