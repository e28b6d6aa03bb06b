/-
  The first examples of chapter mix hold (alive): what Turn makes of noughts, and of 0 0 0 1, and Back of that.
-/
import Derived.Test.YthndfdnfaeioeaaEq
namespace Go.Proofs.Ythndfdnfaeioeaa
open Go.RowKit Go.Shelf
set_option maxRecDepth 100000

theorem turnW_0 : turnW ⟨0, 0, 0, 0⟩ = ⟨0, 0, 0, 0⟩ := by kernel_rfl
theorem turnW_1 : turnW ⟨0, 0, 0, 1⟩ = ⟨67108864, 1075839489, 16809992, 16777224⟩ := by kernel_rfl
theorem turn_0 (w : World) : Calls Try.prog 17 #[.agg #[.int .u32 0, .int .u32 0, .int .u32 0, .int .u32 0]] w fun e w' => e = .returned (.agg #[.int .u32 0, .int .u32 0, .int .u32 0, .int .u32 0]) ∧ Below w.heap.size w w' := by
  have := turn_any ⟨0, 0, 0, 0⟩ w
  rw [turnW_0] at this
  exact this
theorem turn_1 (w : World) : Calls Try.prog 17 #[.agg #[.int .u32 0, .int .u32 0, .int .u32 0, .int .u32 1]] w fun e w' => e = .returned (.agg #[.int .u32 67108864, .int .u32 1075839489, .int .u32 16809992, .int .u32 16777224]) ∧ Below w.heap.size w w' := by
  have := turn_any ⟨0, 0, 0, 1⟩ w
  rw [turnW_1] at this
  exact this
theorem back_1 (w : World) : Calls Try.prog 12 #[.agg #[.int .u32 67108864, .int .u32 1075839489, .int .u32 16809992, .int .u32 16777224]] w fun e w' => e = .returned (.agg #[.int .u32 0, .int .u32 0, .int .u32 0, .int .u32 1]) ∧ Below w.heap.size w w' := by
  have := back_any (turnW ⟨0, 0, 0, 1⟩) w
  rw [backW_turnW, turnW_1] at this
  exact this

theorem eq_0 (w : World) : (Op.equalIn 10000 23 (.agg #[.int .u32 0, .int .u32 0, .int .u32 0, .int .u32 0]) (.agg #[.int .u32 0, .int .u32 0, .int .u32 0, .int .u32 0])).run Try.prog w = .ok true w := (eql4 ⟨0, 0, 0, 0⟩ ⟨0, 0, 0, 0⟩ w).trans (by rw [eqW_self])
theorem eq_1 (w : World) : (Op.equalIn 10000 23 (.agg #[.int .u32 67108864, .int .u32 1075839489, .int .u32 16809992, .int .u32 16777224]) (.agg #[.int .u32 67108864, .int .u32 1075839489, .int .u32 16809992, .int .u32 16777224])).run Try.prog w = .ok true w := (eql4 (turnW ⟨0, 0, 0, 1⟩) (turnW ⟨0, 0, 0, 1⟩) w).trans (by rw [eqW_self])
theorem eq_2 (w : World) : (Op.equalIn 10000 23 (.agg #[.int .u32 0, .int .u32 0, .int .u32 0, .int .u32 1]) (.agg #[.int .u32 0, .int .u32 0, .int .u32 0, .int .u32 1])).run Try.prog w = .ok true w := (eql4 ⟨0, 0, 0, 1⟩ ⟨0, 0, 0, 1⟩ w).trans (by rw [eqW_self])
set_option maxHeartbeats 1000000 in
theorem alive_mix (w : World) : Calls Try.prog 11 #[] w fun e W' => e = .returned (.bool true) ∧ Below w.heap.size w W' := by
  have q0 := eq_0
  have q1 := eq_1
  go_enter Try.func11, Try.ntmps11
  go_wp2_with fail
  refine (turn_0 _).mono ?_
  rintro e W1 ⟨rfl, b1⟩
  have HB := Lib.hid b1; clear b1
  go_wp2_with fail
  refine (turn_1 _).mono ?_
  rintro e W2 ⟨rfl, b2⟩
  have HB2 := Lib.hid (HB.out.trans (b2.mono HB.out.size)); clear b2
  go_wp2_with fail
  go_ret
  exact ⟨rfl, HB2.out⟩
end Go.Proofs.Ythndfdnfaeioeaa
