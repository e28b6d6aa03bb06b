/-
  MixBackSaid: for any four words, Back undoes Turn, and Turn undoes Back. No condition.
-/
import Derived.Test.YthndfdnfaeioeaaRows
import Derived.Test.YthndfdnfaeioeaaHeld
namespace Go.Proofs.Ythndfdnfaeioeaa
open Go.RowKit Go.Shelf
set_option maxRecDepth 100000

set_option maxHeartbeats 4000000 in
theorem back_w (x : W4) (w : World) : Calls Try.prog 5 #[ag x] w fun e w' => e = .returned (.bool true) ∧ Below w.heap.size w w' := by
  have t1 := turnW_backW x
  have t2 := backW_turnW x
  have qe := fun W => (eql4 x x W).trans (by rw [eqW_self])
  have h0 := held4_of (Blk.new w 23 (cl x)).drew ((Below.refl _ w).alloc (Nat.le_refl _) _).drew
  go_enter Try.func5, Try.ntmps5
  go_wp2_with fail
  go_region_held3 (fun W => (W.cell? ⟨w.heap.size, 0, none⟩ = some (.int .u32 (x.a.toNat : Int)) ∧ W.cell? ⟨w.heap.size, 1, none⟩ = some (.int .u32 (x.b.toNat : Int)) ∧ W.cell? ⟨w.heap.size, 2, none⟩ = some (.int .u32 (x.c.toNat : Int)) ∧ W.cell? ⟨w.heap.size, 3, none⟩ = some (.int .u32 (x.d.toNat : Int))) ∧ Below w.heap.size w W) (assumption)
    (first | (go_at_call 11; refine (alive_mix _).mono ?_; rintro e w1 ⟨rfl, b1⟩; have hk := held4 (by assumption) b1; clear b1) | (go_at_call 17; refine (turn_any _ _).mono ?_; rintro e w1 ⟨rfl, b1⟩; have hk := held4 (by assumption) b1; clear b1) | (go_at_call 12; refine (back_any _ _).mono ?_; rintro e w1 ⟨rfl, b1⟩; have hk := held4 (by assumption) b1; clear b1))
  all_goals
    go_wp2
    go_ret
    exact ⟨rfl, And.right (by assumption)⟩

theorem mixBack_walk (z0 : List Int) (w : World) (l0 : z0.length = 4) (w0 : ∀ x ∈ z0, (Lit.int .u32 x).wf = true) :
    Calls Try.prog 5 #[.agg (z0.map (Value.int .u32)).toArray] w fun e w' => e = .returned (.bool true) ∧ Below w.heap.size w w' := by
  obtain ⟨x, hx⟩ := w4_of z0 l0 w0
  rw [hx]
  exact back_w x w
end Go.Proofs.Ythndfdnfaeioeaa

namespace Go.Proofs.Ythndfdnfaeioeaa.mixBack
open Go.ChangeShapes Go.WideShapes Go.ChangeAt Go.RowKit
set_option linter.unusedVariables false

theorem own : ownKnob Try.prog.godebug = none := by kernel_rfl
theorem laidOut : laidOutB Try.prog = true := by kernel_rfl

set_option maxRecDepth 100000 in
theorem lifted (os : Os) (started : os.Started) (H : Type) (enc : TypeId × Value → H) :
    ReturnsInHanded {} Try.checked os 5 .any (Rows.mixBackSpec.pre6 enc Try.prog Try.f5 Rows.mixBackRow.domain false) (Rows.mixBackSpec.post enc Try.prog Try.f5 false true false false) := by
  refine returnsInHanded_of_change (C := Try.checked) own started (by kernel_rfl) Try.func5
    (ChangeSpec.witness6 (enc := enc) (C := Try.checked) false ⟨#[], #[.agg #[.int .u32 0, .int .u32 0, .int .u32 0, .int .u32 0]], []⟩ 8 (by kernel_rfl) (by kernel_rfl) (by kernel_rfl) (by kernel_rfl)) ?_
  intro W base args ds gs before hval0 hW hcnd _
  have hval : ∀ (j : Nat) t v, Try.f5.params[j]? = some t → args[j]? = some v → Value.okWide Try.prog W .any base t v := hval0
  have hW' := hW
  obtain ⟨p, q, hA0, hV, rfl, hfz, hnd⟩ := hW
  have hA : DataW.TrodAll enc Try.prog W 0 (fun _ => true) true Try.f5.params.toList args.toList ds p := hA0
  rw [Try.params5] at hA hval
  obtain ⟨v0, vs0, d0, ds0, p0, q0, hargs, rfl, rfl, h0, r0⟩ := trodAll_cons hA
  obtain ⟨rfl, rfl, rfl⟩ := trodAll_nil r0
  obtain rfl : args = #[v0] := by cases args; simp_all
  obtain ⟨rfl, rfl⟩ := trodVars_none hV
  have k0 := h0
  have lt0 : ∀ x ∈ p0, x.block < W.heap.size := by obtain ⟨m, hm⟩ := k0; exact DataW.trod_lt m _ _ _ hm
  obtain ⟨z0, rfl, l0, w0⟩ := open_ints_arr Try.underlying23 Try.underlying22 (by kernel_rfl) (by kernel_rfl) (hval 0 23 v0 rfl rfl) h0
  clear hA0 hval0
  refine (mixBack_walk z0 W l0 w0).mono fun e W' ⟨he, bel⟩ => ?_
  subst he
  exact ⟨_, rfl, _, _, _, [], _, [], hW', trodAll_mk1 (shut_bool Try.underlying4 _), (trodAll_cons_mk (Below.trod laidOut (by kernel_rfl) (of_decide_eq_true (by kernel_rfl)) k0 bel lt0) trodAll_mk0), rfl, bel.frame _, fun h => by cases h⟩

theorem over : Rows.mixBackRow.holds Try.pinned (OpenSpec.ofChange Rows.mixBackSpec) :=
  OpenClaim.holds_of_wide 5 Try.f5 rfl rfl rfl rfl rfl rfl rfl ⟨rfl, rfl, rfl, rfl, rfl⟩ rfl rfl rfl rfl rfl (by kernel_rfl) Try.func5 (by kernel_rfl)
    (of_decide_eq_true (by kernel_rfl)) (by unfold Func.isWrapper; first | (rw [if_pos (by decide +kernel)]; kernel_rfl) | (rw [if_neg (by decide +kernel)]; exact ⟨rfl, rfl⟩))
    (fun os started H enc _ => lifted os started H enc)

/-- The statement. -/
theorem proved : Rows.MixBackSaid := over
end Go.Proofs.Ythndfdnfaeioeaa.mixBack
