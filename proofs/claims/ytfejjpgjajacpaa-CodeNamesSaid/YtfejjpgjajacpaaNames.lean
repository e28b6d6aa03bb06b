/-
  CodeNamesSaid: for every start, the errors have their numbers and the examples of the chapter code hold. No condition.
-/
import Derived.Test.YtfejjpgjajacpaaRows
import Derived.Test.YtfejjpgjajacpaaCode
import Derived.ProofKit
import Derived.OpenShut
import Derived.ShutString
import Derived.ChangeOld
import Derived.Below
namespace Go.Proofs.Ytfejjpgjajacpaa
open Go.RowKit Go.Shelf
set_option maxRecDepth 100000

theorem built (W : World) : ∀ i (h : i < [(7 : UInt8), 2, 1].length), (W.alloc (.cells #[.int .u8 7, .int .u8 2, .int .u8 1] 5)).cell? ⟨W.heap.size, 0 + i, none⟩ = some (.int .u8 (([(7 : UInt8), 2, 1][i]).toNat : Int)) := by
  intro i h
  have h3 : i = 0 ∨ i = 1 ∨ i = 2 := by simp at h; omega
  rcases h3 with rfl | rfl | rfl <;> exact cell_of_row _ _ _ _ 5 (0, 0) (World.alloc_heap_new W _)

theorem get_1_2 (W : World) : Calls Try.prog 8 #[.slice (some ⟨W.heap.size, 0, none⟩) 3 3, .int .i64 1, .int .i64 2] (W.alloc (.cells #[.int .u8 7, .int .u8 2, .int .u8 1] 5)) fun e W' => e = .returned (.tuple #[.int .i64 258, .int .i64 0]) ∧ Below (W.heap.size + 1) (W.alloc (.cells #[.int .u8 7, .int .u8 2, .int .u8 1] 5)) W' := by
  have := get_ok W.heap.size 0 3 3 1 2 [7, 2, 1] rfl (by omega) (by omega) (by omega) (by omega) (by omega) (W.alloc (.cells #[.int .u8 7, .int .u8 2, .int .u8 1] 5)) (by simp) (built W)
  rw [World.size_alloc] at this
  exact this
theorem get_2_2 (a : Option Addr) (W : World) : Calls Try.prog 8 #[.slice a 3 3, .int .i64 2, .int .i64 2] W fun e W' => e = .returned (.tuple #[.int .i64 0, .int .i64 8]) ∧ W = W' :=
  get_short a 3 3 (by omega) 2 2 (by omega) (by omega) (by omega) (by omega) (by omega) W
theorem get_4_1 (a : Option Addr) (W : World) : Calls Try.prog 8 #[.slice a 3 3, .int .i64 4, .int .i64 1] W fun e W' => e = .returned (.tuple #[.int .i64 0, .int .i64 2]) ∧ W = W' :=
  get_far a 3 3 4 1 (by omega) (by omega) (by omega) W

theorem names_walk (w : World) : Calls Try.prog 3 #[] w fun e W' => e = .returned (.bool true) ∧ Below w.heap.size w W' := by
  go_enter Try.func3, Try.ntmps3
  go_wp2_with fail
  refine (get_1_2 _).mono ?_
  rintro e W1 ⟨rfl, b1⟩
  have B1 : Below w.heap.size w W1 := ((Below.refl _ w).alloc (Nat.le_refl _) _).trans (b1.mono (by omega))
  clear b1
  go_wp2_with fail
  refine (get_2_2 _ _).mono ?_
  rintro e W2 ⟨rfl, rfl⟩
  go_wp2_with fail
  refine (get_4_1 _ _).mono ?_
  rintro e W3 ⟨rfl, rfl⟩
  go_wp2_with fail
  refine (alive_any _).mono ?_
  rintro e W4 ⟨rfl, b4⟩
  have B4 : Below w.heap.size w W4 := ((B1.alloc B1.size _).alloc (by have := B1.size; simp; omega) _).trans (b4.mono (by have := B1.size; simp; omega))
  clear b4
  go_wp2_with fail
  go_ret
  exact ⟨rfl, B4⟩
end Go.Proofs.Ytfejjpgjajacpaa

namespace Go.Proofs.Ytfejjpgjajacpaa.codeNames
open Go.ChangeShapes Go.WideShapes Go.ChangeAt Go.RowKit
set_option linter.unusedVariables false

theorem own : ownKnob Try.prog.godebug = none := by kernel_rfl
theorem laidOut : laidOutB Try.prog = true := by kernel_rfl

theorem walk (w : World) : Calls Try.prog 3 #[] w fun e w' => e = .returned (.bool true) ∧ Below w.heap.size w w' := names_walk w

set_option maxRecDepth 100000 in
theorem lifted (os : Os) (started : os.Started) (H : Type) (enc : TypeId × Value → H) :
    ReturnsInHanded {} Try.checked os 3 .any (Rows.codeNamesSpec.pre6 enc Try.prog Try.f3 Rows.codeNamesRow.domain false) (Rows.codeNamesSpec.post enc Try.prog Try.f3 false true false false) := by
  refine returnsInHanded_of_change (C := Try.checked) own started (by kernel_rfl) Try.func3
    (ChangeSpec.witness6 (enc := enc) (C := Try.checked) false ⟨#[], #[], []⟩ 8 (by kernel_rfl) (by kernel_rfl) (by kernel_rfl) (by kernel_rfl)) ?_
  intro W base args ds gs before hval0 hW hcnd _
  have hval : ∀ (j : Nat) t v, Try.f3.params[j]? = some t → args[j]? = some v → Value.okWide Try.prog W .any base t v := hval0
  have hW' := hW
  obtain ⟨p, q, hA0, hV, rfl, hfz, hnd⟩ := hW
  have hA : DataW.TrodAll enc Try.prog W 0 (fun _ => true) true Try.f3.params.toList args.toList ds p := hA0
  rw [Try.params3] at hA hval
  obtain ⟨rfl, rfl, rfl⟩ := trodAll_none hA
  obtain ⟨rfl, rfl⟩ := trodVars_none hV
  clear hA0 hval0
  refine (walk  W).mono fun e W' ⟨he, bel⟩ => ?_
  subst he
  exact ⟨_, rfl, _, _, _, [], _, [], hW', trodAll_mk1 (shut_bool Try.underlying4 _), rfl, rfl, bel.frame _, fun h => by cases h⟩

theorem over : Rows.codeNamesRow.holds Try.pinned (OpenSpec.ofChange Rows.codeNamesSpec) :=
  OpenClaim.holds_of_wide 3 Try.f3 rfl rfl rfl rfl rfl rfl rfl ⟨rfl, rfl, rfl, rfl, rfl⟩ rfl rfl rfl rfl rfl (by kernel_rfl) Try.func3 (by kernel_rfl)
    (of_decide_eq_true (by kernel_rfl)) (by unfold Func.isWrapper; first | (rw [if_pos (by decide +kernel)]; kernel_rfl) | (rw [if_neg (by decide +kernel)]; exact ⟨rfl, rfl⟩))
    (fun os started H enc _ => lifted os started H enc)

/-- The statement. -/
theorem proved : Rows.CodeNamesSaid :=
  over
end Go.Proofs.Ytfejjpgjajacpaa.codeNames
