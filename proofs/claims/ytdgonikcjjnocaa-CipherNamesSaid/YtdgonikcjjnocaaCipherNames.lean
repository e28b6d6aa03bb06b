/-
  CipherNamesSaid: the chapter's examples hold: a stream of no bytes is empty, 4,097 bytes are too many, 15 bytes are no key, a text of 4,097 bytes is refused, what was turned is turned back. No condition.
-/
import Derived.Test.YtdgonikcjjnocaaRows
import Derived.Test.YtdgonikcjjnocaaCipherAll
namespace Go.Proofs.Ytdgonikcjjnocaa
open Go.RowKit Go.Shelf
set_option maxRecDepth 100000

set_option maxHeartbeats 2000000 in
theorem cipherNames_walk (w : World) : Calls Try.prog 3 #[] w fun e w' => e = .returned (.bool true) ∧ Below w.heap.size w w' := by
  obtain ⟨w1, hw1⟩ : ∃ w1, w.alloc (.cells (Array.replicate 16 (.int .u8 0)) 5) = w1 := ⟨_, rfl⟩
  have x1 := noughts_bsl 16 (by omega) w
  have b1 := (Below.refl w.heap.size w).alloc (Nat.le_refl _) (.cells (Array.replicate 16 (.int .u8 0)) 5)
  have m1 : (Instr.makeSlice 22 (.int .i64 16) (.int .i64 16)).run Try.prog w = .ok (.slice (some ⟨w.heap.size, 0, none⟩) 16 16) w1 := by rw [← hw1]; exact make_noughts 16 (by omega) w
  rw [hw1] at x1 b1
  clear hw1
  have HC1 := Lib.hid (Stream_ok _ _ _ 1 0 (by omega) (by omega) w1 x1)
  have HB1 := Lib.hid b1; clear b1
  have s15 : ∀ W : World, (Instr.slice 22 (.slice (some ⟨w.heap.size, 0, none⟩) 16 16) none (some (.int .i64 15)) none).run Try.prog W = .ok (.slice (some ⟨w.heap.size, 0, none⟩) 15 16) W := fun W => slice_to W _ 16 16 15 (by omega)
  clear x1
  go_enter Try.func3, Try.ntmps3
  go_wp2_with fail
  refine HC1.out.mono ?_
  rintro e w2 ⟨a2, c2, rfl, _, b2⟩
  have HB2 := Lib.hid (HB1.out.trans (b2.mono HB1.out.size)); clear b2 m1 HC1
  go_wp2_with fail
  refine (Stream_far _ 16 _ 4097 (by omega) w2).mono ?_
  rintro e w3 ⟨a3, c3, rfl, _, b3⟩
  have HB3 := Lib.hid (HB2.out.trans (b3.mono HB2.out.size)); clear b3
  go_wp2_with fail
  refine (Stream_key _ 15 16 (by omega) _ 1 w3).mono ?_
  rintro e w4 ⟨a4, c4, rfl, _, b4⟩
  have HB4 := Lib.hid (HB3.out.trans (b4.mono HB3.out.size)); clear b4 s15
  obtain ⟨w5, hw5⟩ : ∃ w5, w4.alloc (.cells (Array.replicate 4097 (.int .u8 0)) 5) = w5 := ⟨_, rfl⟩
  have b5 := (Below.refl w4.heap.size w4).alloc (Nat.le_refl _) (.cells (Array.replicate 4097 (.int .u8 0)) 5)
  have m5 : (Instr.makeSlice 22 (.int .i64 4097) (.int .i64 4097)).run Try.prog w4 = .ok (.slice (some ⟨w4.heap.size, 0, none⟩) 4097 4097) w5 := by rw [← hw5]; exact make_noughts 4097 (by omega) w4
  rw [hw5] at b5
  clear hw5
  have HB5 := Lib.hid (HB4.out.trans (b5.mono HB4.out.size)); clear b5
  go_wp2_with fail
  refine (Turn_far _ 16 _ _ 4097 4097 (by omega) w5).mono ?_
  rintro e w6 ⟨a6, c6, rfl, _, b6⟩
  have HB6 := Lib.hid (HB5.out.trans (b6.mono HB5.out.size)); clear b6 m5
  go_wp2_with fail
  refine (alive_cipher _).mono ?_
  rintro e w7 ⟨rfl, b7⟩
  have HB7 := Lib.hid (HB6.out.trans (b7.mono HB6.out.size)); clear b7
  go_wp2_with fail
  go_ret
  exact ⟨rfl, HB7.out⟩
end Go.Proofs.Ytdgonikcjjnocaa

namespace Go.Proofs.Ytdgonikcjjnocaa.cipherNames
open Go.ChangeShapes Go.WideShapes Go.ChangeAt Go.RowKit
set_option linter.unusedVariables false

theorem own : ownKnob Try.prog.godebug = none := by kernel_rfl
theorem laidOut : laidOutB Try.prog = true := by kernel_rfl

set_option maxRecDepth 100000 in
theorem lifted (os : Os) (started : os.Started) (H : Type) (enc : TypeId × Value → H) :
    ReturnsInHanded {} Try.checked os 3 .any (Rows.cipherNamesSpec.pre6 enc Try.prog Try.f3 Rows.cipherNamesRow.domain false) (Rows.cipherNamesSpec.post enc Try.prog Try.f3 false true false false) := by
  refine returnsInHanded_of_change (C := Try.checked) own started (by kernel_rfl) Try.func3
    (ChangeSpec.witness6 (enc := enc) (C := Try.checked) false ⟨#[], #[], []⟩ 8 (by kernel_rfl) (by kernel_rfl) (by kernel_rfl) (by kernel_rfl)) ?_
  intro W base args ds gs before hval0 hW hcnd _
  have hval : ∀ (j : Nat) t v, Try.f3.params[j]? = some t → args[j]? = some v → Value.okWide Try.prog W .any base t v := hval0
  have hW' := hW
  obtain ⟨p, q, hA0, hV, rfl, hfz, hnd⟩ := hW
  have hA : DataW.TrodAll enc Try.prog W 0 (fun _ => true) true Try.f3.params.toList args.toList ds p := hA0
  rw [Try.params3] at hA hval
  obtain ⟨rfl, rfl, rfl⟩ := trodAll_none hA
  obtain ⟨rfl, rfl⟩ := trodVars_none hV
  clear hA0 hval0
  refine (cipherNames_walk  W).mono fun e W' ⟨he, bel⟩ => ?_
  subst he
  exact ⟨_, rfl, _, _, _, [], _, [], hW', trodAll_mk1 (shut_bool Try.underlying4 _), rfl, rfl, bel.frame _, fun h => by cases h⟩

theorem over : Rows.cipherNamesRow.holds Try.pinned (OpenSpec.ofChange Rows.cipherNamesSpec) :=
  OpenClaim.holds_of_wide 3 Try.f3 rfl rfl rfl rfl rfl rfl rfl ⟨rfl, rfl, rfl, rfl, rfl⟩ rfl rfl rfl rfl rfl (by kernel_rfl) Try.func3 (by kernel_rfl)
    (of_decide_eq_true (by kernel_rfl)) (by unfold Func.isWrapper; first | (rw [if_pos (by decide +kernel)]; kernel_rfl) | (rw [if_neg (by decide +kernel)]; exact ⟨rfl, rfl⟩))
    (fun os started H enc _ => lifted os started H enc)

/-- The statement. -/
theorem proved : Rows.CipherNamesSaid := over
end Go.Proofs.Ytdgonikcjjnocaa.cipherNames
