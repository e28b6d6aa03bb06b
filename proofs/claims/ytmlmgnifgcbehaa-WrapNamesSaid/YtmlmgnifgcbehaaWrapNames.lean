/-
  WrapNamesSaid: the limits and the error have their numbers, and the chapter's examples hold: a key is wrapped and unwrapped, 23 bytes are no wrapped key, a passphrase of 65 bytes is none, a key of 15 bytes is none. No condition.
-/
import Derived.Test.YtmlmgnifgcbehaaRows
import Derived.Test.YtmlmgnifgcbehaaWrapAll
namespace Go.Proofs.Ytmlmgnifgcbehaa
open Go.RowKit Go.Shelf
set_option maxRecDepth 100000

set_option maxHeartbeats 2000000 in
theorem wrapNames_walk (w : World) : Calls Try.prog 3 #[] w fun e w' => e = .returned (.bool true) ∧ Below w.heap.size w w' := by
  have mk : ∀ (n : Nat) (_ : n = 15 ∨ n = 16 ∨ n = 65) (W : World), (Instr.makeSlice 22 (.int .i64 n) (.int .i64 n)).run Try.prog W = .ok (.slice (some ⟨W.heap.size, 0, none⟩) n n) (W.alloc (.cells (Array.replicate n (.int .u8 0)) 5)) := fun n hn W => by
    rcases hn with rfl | rfl | rfl <;> kernel_rfl
  obtain ⟨w1, hw1⟩ : ∃ w1, w.alloc (.cells (Array.replicate 16 (.int .u8 0)) 5) = w1 := ⟨_, rfl⟩
  have x1 := bsl_noughts 16 (by omega) w
  have b1 := (Below.refl w.heap.size w).alloc (Nat.le_refl _) (.cells (Array.replicate 16 (.int .u8 0)) 5)
  have m16 : (Instr.makeSlice 22 (.int .i64 16) (.int .i64 16)).run Try.prog w = .ok (.slice (some ⟨w.heap.size, 0, none⟩) 16 16) w1 := by rw [← hw1]; exact mk 16 (by simp) w
  rw [hw1] at x1 b1
  have cw := wWrap_ok pP (by decide) (some ⟨w.heap.size, 0, none⟩) 16 _ 7 (by omega) w1 x1
  have HCW := Lib.hid cw; clear cw
  have HB1 := Lib.hid b1; clear b1 x1 hw1
  have MK := Lib.hid mk; clear mk
  go_enter Try.func3, Try.ntmps3
  go_wp2_with fail
  refine HCW.out.mono ?_
  rintro e w2 ⟨g2, c2, rfl, _, h2, b2⟩
  have HB2 := Lib.hid (HB1.out.trans (b2.mono HB1.out.size)); clear b2
  have hle := h2.2.1
  have s4 : ∀ W : World, (Instr.slice 22 (.slice (some ⟨g2, 0, none⟩) 24 c2) none (some (.int .i64 23)) none).run Try.prog W = .ok (.slice (some ⟨g2, 0, none⟩) 23 c2) W := fun W => slice_to W _ 24 c2 23 (by omega)
  clear m16 h2 hle HCW HB1
  go_wp2_with fail
  refine (wUnwrap_len pP (by decide) (some ⟨g2, 0, none⟩) 23 c2 (by omega) w2).mono ?_
  rintro e w3 ⟨rfl, b3⟩
  have HB3 := Lib.hid (HB2.out.trans (b3.mono HB2.out.size)); clear b3
  clear s4 HB2
  obtain ⟨w4, hw4⟩ : ∃ w4, w3.alloc (.cells (Array.replicate 65 (.int .u8 0)) 5) = w4 := ⟨_, rfl⟩
  have c4 := (bsl_noughts 65 (by omega) w3).conv
  have b4 := (Below.refl w3.heap.size w3).alloc (Nat.le_refl _) (.cells (Array.replicate 65 (.int .u8 0)) 5)
  have m65 : (Instr.makeSlice 22 (.int .i64 65) (.int .i64 65)).run Try.prog w3 = .ok (.slice (some ⟨w3.heap.size, 0, none⟩) 65 65) w4 := by rw [← hw4]; exact MK.out 65 (by simp) w3
  rw [hw4] at c4 b4
  have HB4 := Lib.hid (HB3.out.trans (b4.mono HB3.out.size)); clear b4 hw4
  obtain ⟨p65, hp65⟩ : ∃ p65, strOf (List.replicate 65 0) = p65 := ⟨_, rfl⟩
  have hsz : (p65.size : Int) = 65 := by rw [← hp65]; decide
  rw [hp65] at c4
  have HSZ := Lib.hid hsz; clear hsz hp65
  go_wp2_with fail
  refine (wUnwrap_pass p65 (by have := HSZ.out; omega) (by have := HSZ.out; omega) _ w4).mono ?_
  rintro e w5 ⟨rfl, b5⟩
  have HB5 := Lib.hid (HB4.out.trans (b5.mono HB4.out.size)); clear b5
  clear c4 m65 HB4 HB3
  obtain ⟨w6, hw6⟩ : ∃ w6, w5.alloc (.cells (Array.replicate 15 (.int .u8 0)) 5) = w6 := ⟨_, rfl⟩
  have b6 := (Below.refl w5.heap.size w5).alloc (Nat.le_refl _) (.cells (Array.replicate 15 (.int .u8 0)) 5)
  have m15 : (Instr.makeSlice 22 (.int .i64 15) (.int .i64 15)).run Try.prog w5 = .ok (.slice (some ⟨w5.heap.size, 0, none⟩) 15 15) w6 := by rw [← hw6]; exact MK.out 15 (by simp) w5
  rw [hw6] at b6
  have HB6 := Lib.hid (HB5.out.trans (b6.mono HB5.out.size)); clear b6 hw6
  go_wp2_with fail
  refine (wWrap_key pP (by decide) (some ⟨w5.heap.size, 0, none⟩) 15 15 (by omega) _ w6).mono ?_
  rintro e w7 ⟨rfl, b7⟩
  have HB7 := Lib.hid (HB6.out.trans (b7.mono HB6.out.size)); clear b7
  go_wp2_with fail
  refine (alive_wrap _).mono ?_
  rintro e w8 ⟨rfl, b8⟩
  have HB8 := Lib.hid (HB7.out.trans (b8.mono HB7.out.size)); clear b8
  go_wp2_with fail
  go_ret
  exact ⟨rfl, HB8.out⟩
end Go.Proofs.Ytmlmgnifgcbehaa

namespace Go.Proofs.Ytmlmgnifgcbehaa.wrapNames
open Go.ChangeShapes Go.WideShapes Go.ChangeAt Go.RowKit
set_option linter.unusedVariables false

theorem own : ownKnob Try.prog.godebug = none := by kernel_rfl
theorem laidOut : laidOutB Try.prog = true := by kernel_rfl

set_option maxRecDepth 100000 in
theorem lifted (os : Os) (started : os.Started) (H : Type) (enc : TypeId × Value → H) :
    ReturnsInHanded {} Try.checked os 3 .any (Rows.wrapNamesSpec.pre6 enc Try.prog Try.f3 Rows.wrapNamesRow.domain false) (Rows.wrapNamesSpec.post enc Try.prog Try.f3 false true false false) := by
  refine returnsInHanded_of_change (C := Try.checked) own started (by kernel_rfl) Try.func3
    (ChangeSpec.witness6 (enc := enc) (C := Try.checked) false ⟨#[], #[], []⟩ 8 (by kernel_rfl) (by kernel_rfl) (by kernel_rfl) (by kernel_rfl)) ?_
  intro W base args ds gs before hval0 hW hcnd _
  have hval : ∀ (j : Nat) t v, Try.f3.params[j]? = some t → args[j]? = some v → Value.okWide Try.prog W .any base t v := hval0
  have hW' := hW
  obtain ⟨p, q, hA0, hV, rfl, hfz, hnd⟩ := hW
  have hA : DataW.TrodAll enc Try.prog W 0 (fun _ => true) true Try.f3.params.toList args.toList ds p := hA0
  rw [Try.params3] at hA hval
  obtain ⟨rfl, rfl, rfl⟩ := trodAll_none hA
  obtain ⟨rfl, rfl⟩ := trodVars_none hV
  clear hA0 hval0
  refine (wrapNames_walk  W).mono fun e W' ⟨he, bel⟩ => ?_
  subst he
  exact ⟨_, rfl, _, _, _, [], _, [], hW', trodAll_mk1 (shut_bool Try.underlying4 _), rfl, rfl, bel.frame _, fun h => by cases h⟩

theorem over : Rows.wrapNamesRow.holds Try.pinned (OpenSpec.ofChange Rows.wrapNamesSpec) :=
  OpenClaim.holds_of_wide 3 Try.f3 rfl rfl rfl rfl rfl rfl rfl ⟨rfl, rfl, rfl, rfl, rfl⟩ rfl rfl rfl rfl rfl (by kernel_rfl) Try.func3 (by kernel_rfl)
    (of_decide_eq_true (by kernel_rfl)) (by unfold Func.isWrapper; first | (rw [if_pos (by decide +kernel)]; kernel_rfl) | (rw [if_neg (by decide +kernel)]; exact ⟨rfl, rfl⟩))
    (fun os started H enc _ => lifted os started H enc)

/-- The statement. -/
theorem proved : Rows.WrapNamesSaid := over
end Go.Proofs.Ytmlmgnifgcbehaa.wrapNames
