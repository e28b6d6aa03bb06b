/-
  SpaceNamesSaid: the names and errors have their numbers, and the chapter's examples are so. No condition.
-/
import Derived.Test.YtiekbgfglmfbkaaRows
import Derived.Test.YtiekbgfglmfbkaaLawSpaceB
namespace Go.Proofs.Ytiekbgfglmfbkaa
open Go.RowKit Go.Shelf
set_option maxRecDepth 100000

theorem new_free : (freeTo (newTo 12) 256).length = 244 := by
  rw [freeTo_length]
  decide +kernel
theorem t0_len : (newTo 12).length = 256 := newTo_length (by omega)
theorem t0_not : mkT (newTo 12) 12 ≠ 1 := by rw [newTo_first.1]; omega
theorem t1_len : ((newTo 12).set 12 1).length = 256 := takenNew_may.1
theorem t2_may : MayT (((newTo 12).set 12 1).set 12 2) := set_may takenNew_may (by omega) (by omega) 2 (by decide)
theorem t2_mk (i : Nat) (hi : i < 256) : mkT (((newTo 12).set 12 1).set 12 2) i = if i = 12 then 2 else if i < 12 then 1 else 0 := by
  rw [mkT_set _ _ _ _ (by rw [t1_len]; omega)]
  by_cases h : i = 12
  · rw [if_pos h, if_pos h]; rfl
  · rw [if_neg h, if_neg h, mkT_set _ _ _ _ (by rw [t0_len]; omega), if_neg h, newTo_mk i hi]
theorem t2_first : mkT (((newTo 12).set 12 1).set 12 2) 13 = 0 ∧ ∀ i, i < 13 → mkT (((newTo 12).set 12 1).set 12 2) i ≠ 0 := by
  refine ⟨by rw [t2_mk 13 (by omega)]; rfl, fun i hi => ?_⟩
  rw [t2_mk i (by omega)]
  split
  · omega
  · rw [if_pos (by omega)]; omega
theorem t3_first : mkT (settleL (((newTo 12).set 12 1).set 12 2)) 12 = 0 ∧ ∀ i, i < 12 → mkT (settleL (((newTo 12).set 12 1).set 12 2)) i ≠ 0 := by
  refine ⟨by rw [settleL_mk t2_may (by omega), t2_mk 12 (by omega)]; rfl, fun i hi => ?_⟩
  rw [settleL_mk t2_may (by omega), t2_mk i (by omega), if_neg (show ¬ i = 12 by omega), if_pos hi]
  decide
theorem names_nil : ¬ MayT ([] : List UInt8) := fun h => by have := h.1; simp at this
set_option maxHeartbeats 8000000 in
theorem spaceNames_walk (w : World) : Calls Try.prog 3 #[] w fun e w' => e = .returned (.bool true) ∧ Below w.heap.size w w' := by
  have HE := Lib.hid (Below.refl w.heap.size w)
  go_enter Try.func3, Try.ntmps3
  go_wp2_with fail
  refine (spNew_any w).mono ?_
  rintro e w1 ⟨v, rfl, ho, bb⟩
  replace HE := Lib.hid (HE.out.trans (bb.mono HE.out.size))
  obtain ⟨a0, c0, rfl⟩ := own_slice ho
  have R0 := Lib.hid ho
  clear bb ho
  go_wp2_with fail
  refine (spFree_ok a0 256 c0 _ w1 (own_bsl R0.out) new_may).mono ?_
  rintro e w2 ⟨v, rfl, ho, bb⟩
  replace R0 := Lib.hid (own_below R0.out bb)
  replace HE := Lib.hid (HE.out.trans (bb.mono HE.out.size))
  rw [new_free] at ho
  obtain ⟨aL, cL, rfl⟩ := ownN_slice ho
  clear bb ho
  go_wp2_with fail
  refine (spNew_any w2).mono ?_
  rintro e w3 ⟨v, rfl, ho, bb⟩
  replace R0 := Lib.hid (own_below R0.out bb)
  replace HE := Lib.hid (HE.out.trans (bb.mono HE.out.size))
  obtain ⟨a1, c1, rfl⟩ := own_slice ho
  have R1 := Lib.hid ho
  clear bb ho
  go_wp2_with fail
  refine (spGive_none a1 256 c1 _ _ 12 (by omega) (by omega) w3 (own_bsl R1.out) new_may t0_not).mono ?_
  rintro e w4 ⟨v, rfl, ho, bb⟩
  replace R0 := Lib.hid (own_below R0.out bb)
  replace R1 := Lib.hid (own_below R1.out bb)
  replace HE := Lib.hid (HE.out.trans (bb.mono HE.out.size))
  rw [List.length_nil] at ho
  obtain ⟨a2, c2, rfl⟩ := own_slice ho
  clear bb ho
  go_wp2_with fail
  refine (spNew_any w4).mono ?_
  rintro e w5 ⟨v, rfl, ho, bb⟩
  replace R0 := Lib.hid (own_below R0.out bb)
  replace R1 := Lib.hid (own_below R1.out bb)
  replace HE := Lib.hid (HE.out.trans (bb.mono HE.out.size))
  obtain ⟨a3, c3, rfl⟩ := own_slice ho
  have R3 := Lib.hid ho
  clear bb ho
  go_wp2_with fail
  refine (spGive_arg a3 256 c3 _ _ 11 (by omega) w5 (own_bsl R3.out) new_may).mono ?_
  rintro e w6 ⟨v, rfl, ho, bb⟩
  replace R0 := Lib.hid (own_below R0.out bb)
  replace R1 := Lib.hid (own_below R1.out bb)
  replace R3 := Lib.hid (own_below R3.out bb)
  replace HE := Lib.hid (HE.out.trans (bb.mono HE.out.size))
  rw [List.length_nil] at ho
  obtain ⟨a4, c4, rfl⟩ := own_slice ho
  clear bb ho
  go_wp2_with fail
  refine (spNew_any w6).mono ?_
  rintro e w7 ⟨v, rfl, ho, bb⟩
  replace R0 := Lib.hid (own_below R0.out bb)
  replace R1 := Lib.hid (own_below R1.out bb)
  replace R3 := Lib.hid (own_below R3.out bb)
  replace HE := Lib.hid (HE.out.trans (bb.mono HE.out.size))
  obtain ⟨a5, c5, rfl⟩ := own_slice ho
  have R5 := Lib.hid ho
  clear bb ho
  go_wp2_with fail
  refine (spTake_ok a5 256 c5 _ 12 w7 (own_bsl R5.out) new_may (by omega) newTo_first.1 newTo_first.2).mono ?_
  rintro e w8 ⟨v, rfl, ho, bb⟩
  replace R0 := Lib.hid (own_below R0.out bb)
  replace R1 := Lib.hid (own_below R1.out bb)
  replace R3 := Lib.hid (own_below R3.out bb)
  replace R5 := Lib.hid (own_below R5.out bb)
  replace HE := Lib.hid (HE.out.trans (bb.mono HE.out.size))
  rw [t1_len] at ho
  obtain ⟨a6, c6, rfl⟩ := own_slice ho
  have R6 := Lib.hid ho
  clear bb ho
  go_wp2_with fail
  refine (spGive_ok a6 256 c6 _ 12 (by omega) (by omega) w8 (own_bsl R6.out) takenNew_may takenNew_mk).mono ?_
  rintro e w9 ⟨v, rfl, ho, bb⟩
  replace R0 := Lib.hid (own_below R0.out bb)
  replace R1 := Lib.hid (own_below R1.out bb)
  replace R3 := Lib.hid (own_below R3.out bb)
  replace R5 := Lib.hid (own_below R5.out bb)
  replace R6 := Lib.hid (own_below R6.out bb)
  replace HE := Lib.hid (HE.out.trans (bb.mono HE.out.size))
  rw [t2_may.1] at ho
  obtain ⟨a7, c7, rfl⟩ := own_slice ho
  have R7 := Lib.hid ho
  clear bb ho
  go_wp2_with fail
  refine (spTake_ok a7 256 c7 _ 13 w9 (own_bsl R7.out) t2_may (by omega) t2_first.1 t2_first.2).mono ?_
  rintro e w10 ⟨v, rfl, ho, bb⟩
  replace R0 := Lib.hid (own_below R0.out bb)
  replace R1 := Lib.hid (own_below R1.out bb)
  replace R3 := Lib.hid (own_below R3.out bb)
  replace R5 := Lib.hid (own_below R5.out bb)
  replace R6 := Lib.hid (own_below R6.out bb)
  replace R7 := Lib.hid (own_below R7.out bb)
  replace HE := Lib.hid (HE.out.trans (bb.mono HE.out.size))
  obtain ⟨a8, c8, rfl⟩ := own_slice ho
  clear bb ho
  go_wp2_with fail
  refine (spSettle_ok a7 256 c7 _ w10 (own_bsl R7.out) t2_may).mono ?_
  rintro e w11 ⟨v, rfl, ho, bb⟩
  replace R0 := Lib.hid (own_below R0.out bb)
  replace R1 := Lib.hid (own_below R1.out bb)
  replace R3 := Lib.hid (own_below R3.out bb)
  replace R5 := Lib.hid (own_below R5.out bb)
  replace R6 := Lib.hid (own_below R6.out bb)
  replace R7 := Lib.hid (own_below R7.out bb)
  replace HE := Lib.hid (HE.out.trans (bb.mono HE.out.size))
  rw [(settleL_may t2_may).1] at ho
  obtain ⟨a9, c9, rfl⟩ := own_slice ho
  have R9 := Lib.hid ho
  clear bb ho
  go_wp2_with fail
  refine (spTake_ok a9 256 c9 _ 12 w11 (own_bsl R9.out) (settleL_may t2_may) (by omega) t3_first.1 t3_first.2).mono ?_
  rintro e w12 ⟨v, rfl, ho, bb⟩
  replace R0 := Lib.hid (own_below R0.out bb)
  replace R1 := Lib.hid (own_below R1.out bb)
  replace R3 := Lib.hid (own_below R3.out bb)
  replace R5 := Lib.hid (own_below R5.out bb)
  replace R6 := Lib.hid (own_below R6.out bb)
  replace R7 := Lib.hid (own_below R7.out bb)
  replace R9 := Lib.hid (own_below R9.out bb)
  replace HE := Lib.hid (HE.out.trans (bb.mono HE.out.size))
  obtain ⟨aA, cA, rfl⟩ := own_slice ho
  clear bb ho
  go_wp2_with fail
  refine (spAlive_any w12).mono ?_
  rintro e wz ⟨rfl, bb⟩
  replace HE := Lib.hid (HE.out.trans (bb.mono HE.out.size))
  clear bb
  have HC := Lib.hid (spCheck_no none 0 0 wz.heap.size [] wz ⟨rfl, Nat.le_refl _, by unfold maxLen; omega, fun _ => rfl, fun h => absurd h (by omega)⟩ names_nil)
  go_wp2_with fail
  refine HC.out.mono ?_
  rintro e wy ⟨rfl, rfl⟩
  go_wp2_with fail
  go_ret
  exact ⟨rfl, HE.out⟩
end Go.Proofs.Ytiekbgfglmfbkaa
namespace Go.Proofs.Ytiekbgfglmfbkaa.spaceNames
open Go.ChangeShapes Go.WideShapes Go.ChangeAt Go.RowKit
set_option linter.unusedVariables false

theorem own : ownKnob Try.prog.godebug = none := by kernel_rfl
theorem laidOut : laidOutB Try.prog = true := by kernel_rfl

set_option maxRecDepth 100000 in
theorem lifted (os : Os) (started : os.Started) (H : Type) (enc : TypeId × Value → H) :
    ReturnsInHanded {} Try.checked os 3 .any (Rows.spaceNamesSpec.pre6 enc Try.prog Try.f3 Rows.spaceNamesRow.domain false) (Rows.spaceNamesSpec.post enc Try.prog Try.f3 false true false false) := by
  refine returnsInHanded_of_change (C := Try.checked) own started (by kernel_rfl) Try.func3
    (ChangeSpec.witness6 (enc := enc) (C := Try.checked) false ⟨#[], #[], []⟩ 8 (by kernel_rfl) (by kernel_rfl) (by kernel_rfl) (by kernel_rfl)) ?_
  intro W base args ds gs before hval0 hW hcnd _
  have hval : ∀ (j : Nat) t v, Try.f3.params[j]? = some t → args[j]? = some v → Value.okWide Try.prog W .any base t v := hval0
  have hW' := hW
  obtain ⟨p, q, hA0, hV, rfl, hfz, hnd⟩ := hW
  have hA : DataW.TrodAll enc Try.prog W 0 (fun _ => true) true Try.f3.params.toList args.toList ds p := hA0
  rw [Try.params3] at hA hval
  obtain ⟨rfl, rfl, rfl⟩ := trodAll_none hA
  obtain ⟨rfl, rfl⟩ := trodVars_none hV
  clear hA0 hval0
  refine (spaceNames_walk  W).mono fun e W' ⟨he, bel⟩ => ?_
  subst he
  exact ⟨_, rfl, _, _, _, [], _, [], hW', trodAll_mk1 (shut_bool Try.underlying4 _), rfl, rfl, bel.frame _, fun h => by cases h⟩

theorem over : Rows.spaceNamesRow.holds Try.pinned (OpenSpec.ofChange Rows.spaceNamesSpec) :=
  OpenClaim.holds_of_wide 3 Try.f3 rfl rfl rfl rfl rfl rfl rfl ⟨rfl, rfl, rfl, rfl, rfl⟩ rfl rfl rfl rfl rfl (by kernel_rfl) Try.func3 (by kernel_rfl)
    (of_decide_eq_true (by kernel_rfl)) (by unfold Func.isWrapper; first | (rw [if_pos (by decide +kernel)]; kernel_rfl) | (rw [if_neg (by decide +kernel)]; exact ⟨rfl, rfl⟩))
    (fun os started H enc _ => lifted os started H enc)

/-- The statement. -/
theorem proved : Rows.SpaceNamesSaid := over
end Go.Proofs.Ytiekbgfglmfbkaa.spaceNames
