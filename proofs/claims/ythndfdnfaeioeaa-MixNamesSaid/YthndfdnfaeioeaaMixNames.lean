/-
  MixNamesSaid: the chapter's examples hold: what Turn makes of noughts, and of 0 0 0 1, and Back of that; the sum of no bytes is the first of their four words, and their key has sixteen bytes, the first and the last of which are those of the words. No condition.
-/
import Derived.Test.YthndfdnfaeioeaaRows
import Derived.Test.YthndfdnfaeioeaaHeld
namespace Go.Proofs.Ythndfdnfaeioeaa
open Go.RowKit Go.Shelf
set_option maxRecDepth 100000

theorem bsl_none (w : World) (B : Nat) : Bsl w B none 0 0 [] := ⟨rfl, Nat.le_refl _, by unfold maxLen; omega, fun _ => rfl, fun h => absurd h (by omega)⟩
theorem heldN {w W W1 : World} {g g' : Nat} {v0 v3 k0 k3 : Value} (h : (W.cell? ⟨g, 0, none⟩ = some v0 ∧ W.cell? ⟨g, 3, none⟩ = some v3 ∧ W.cell? ⟨g', 0, none⟩ = some k0 ∧ W.cell? ⟨g', 15, none⟩ = some k3) ∧ Below w.heap.size w W) (b : Below W.heap.size W W1) :
    (W1.cell? ⟨g, 0, none⟩ = some v0 ∧ W1.cell? ⟨g, 3, none⟩ = some v3 ∧ W1.cell? ⟨g', 0, none⟩ = some k0 ∧ W1.cell? ⟨g', 15, none⟩ = some k3) ∧ Below w.heap.size w W1 := by
  obtain ⟨⟨h0, h1, h2, h3⟩, hb⟩ := h
  exact ⟨⟨(b.cell (World.block_lt_of_cell? W _ h0)).trans h0, (b.cell (World.block_lt_of_cell? W _ h1)).trans h1, (b.cell (World.block_lt_of_cell? W _ h2)).trans h2, (b.cell (World.block_lt_of_cell? W _ h3)).trans h3⟩, hb.trans (b.mono hb.size)⟩
set_option maxHeartbeats 4000000 in
theorem mixNames_walk (w : World) : Calls Try.prog 3 #[] w fun e w' => e = .returned (.bool true) ∧ Below w.heap.size w w' := by
  obtain ⟨x, hx⟩ : ∃ x, fourW [] = x := ⟨_, rfl⟩
  have HX := Lib.hid hx; clear hx
  go_enter Try.func3, Try.ntmps3
  go_wp2_with fail
  refine (four_any none 0 0 [] w (bsl_none _ _) (by omega)).mono ?_
  rintro e w2 ⟨rfl, b2⟩
  rw [HX.out]
  have HB2 := Lib.hid b2; clear b2
  go_wp2_with fail
  obtain ⟨w3, hw3⟩ : ∃ w3, w2.alloc (.cells (cl x) 23) = w3 := ⟨_, rfl⟩
  obtain ⟨g, hg⟩ : ∃ g, w2.heap.size = g := ⟨_, rfl⟩
  have hb3 : Blk w3 g 23 (cl x) := by rw [← hw3, ← hg]; exact Blk.new w2 _ _
  have hB3 : Below w.heap.size w w3 := by rw [← hw3]; exact HB2.out.alloc HB2.out.size _
  rw [hw3, hg]
  have HB3 := Lib.hid hb3; clear hb3
  have HBe3 := Lib.hid hB3; clear hB3 hw3 hg
  refine (key_any none 0 0 [] w3 (bsl_none _ _) (by omega)).mono ?_
  rintro e w4 ⟨g', cap', rfl, hg1, hg2, hg3, hg4, hh, b4⟩
  rw [HX.out] at hh
  have hb4 := HB3.out.below b4 HB3.out.lt
  have hB4 := HBe3.out.trans (b4.mono HBe3.out.size)
  have hk0 := hh 0 (by rw [bytesW_length]; omega)
  have hk3 := hh 15 (by rw [bytesW_length]; omega)
  have e0 : (bytesW x 4)[0]'(by rw [bytesW_length]; omega) = byteAt x.a.toNat 0 := rfl
  have e3 : (bytesW x 4)[15]'(by rw [bytesW_length]; omega) = byteAt x.d.toNat 3 := rfl
  rw [e0, byteAt_0] at hk0
  rw [e3, byteAt_3] at hk3
  have h0 : (w4.drew.cell? ⟨g, 0, none⟩ = some (.int .u32 (x.a.toNat : Int)) ∧ w4.drew.cell? ⟨g, 3, none⟩ = some (.int .u32 (x.d.toNat : Int)) ∧ w4.drew.cell? ⟨g', 0, none⟩ = some (.int .u8 ((x.a.toNat : Int) % 256)) ∧ w4.drew.cell? ⟨g', 15, none⟩ = some (.int .u8 ((x.d.toNat : Int) / 16777216 % 256))) ∧ Below w.heap.size w w4.drew := ⟨⟨hb4.cell 0, hb4.cell 3, hk0, hk3⟩, hB4.drew⟩
  clear hh hb4 hB4 b4 hk0 hk3 e0 e3
  have sm : ∀ W, Calls Try.prog 13 #[.slice none 0 0] W fun e W' => e = .returned (.int .u32 (x.a.toNat : Int)) ∧ Below W.heap.size W W' := fun W => by
    have := sum_any none 0 0 [] W (bsl_none _ _) (by omega)
    rwa [HX.out] at this
  have SM := Lib.hid sm; clear sm
  have q2 := eq_2
  have v0 : (0 : Int) ≤ (x.a.toNat : Int) := by omega
  have v1 : (x.a.toNat : Int) ≤ 4294967295 := by have := x.a.isLt; omega
  have v2 : (0 : Int) ≤ (x.d.toNat : Int) := by omega
  have v3 : (x.d.toNat : Int) ≤ 4294967295 := by have := x.d.isLt; omega
  have v4 : IntKind.u8.wrap (x.a.toNat : Int) = (x.a.toNat : Int) % 256 := IntKind.wrap_u8' _
  have v5 : IntKind.u8.wrap ((x.d.toNat : Int) / 16777216) = (x.d.toNat : Int) / 16777216 % 256 := IntKind.wrap_u8' _
  go_wp2_with fail
  go_region_held3 (fun W => (W.cell? ⟨g, 0, none⟩ = some (.int .u32 (x.a.toNat : Int)) ∧ W.cell? ⟨g, 3, none⟩ = some (.int .u32 (x.d.toNat : Int)) ∧ W.cell? ⟨g', 0, none⟩ = some (.int .u8 ((x.a.toNat : Int) % 256)) ∧ W.cell? ⟨g', 15, none⟩ = some (.int .u8 ((x.d.toNat : Int) / 16777216 % 256))) ∧ Below w.heap.size w W) (assumption)
    (first | (go_at_call 11; refine (alive_mix _).mono ?_; rintro e w1 ⟨rfl, b1⟩; have hk := heldN (by assumption) b1; clear b1) | (go_at_call 13; refine (SM.out _).mono ?_; rintro e w1 ⟨rfl, b1⟩; have hk := heldN (by assumption) b1; clear b1) | (go_at_call 12; refine (back_1 _).mono ?_; rintro e w1 ⟨rfl, b1⟩; have hk := heldN (by assumption) b1; clear b1))
  all_goals
    go_wp2
    go_ret
    exact ⟨rfl, And.right (by assumption)⟩
end Go.Proofs.Ythndfdnfaeioeaa

namespace Go.Proofs.Ythndfdnfaeioeaa.mixNames
open Go.ChangeShapes Go.WideShapes Go.ChangeAt Go.RowKit
set_option linter.unusedVariables false

theorem own : ownKnob Try.prog.godebug = none := by kernel_rfl
theorem laidOut : laidOutB Try.prog = true := by kernel_rfl

set_option maxRecDepth 100000 in
theorem lifted (os : Os) (started : os.Started) (H : Type) (enc : TypeId × Value → H) :
    ReturnsInHanded {} Try.checked os 3 .any (Rows.mixNamesSpec.pre6 enc Try.prog Try.f3 Rows.mixNamesRow.domain false) (Rows.mixNamesSpec.post enc Try.prog Try.f3 false true false false) := by
  refine returnsInHanded_of_change (C := Try.checked) own started (by kernel_rfl) Try.func3
    (ChangeSpec.witness6 (enc := enc) (C := Try.checked) false ⟨#[], #[], []⟩ 8 (by kernel_rfl) (by kernel_rfl) (by kernel_rfl) (by kernel_rfl)) ?_
  intro W base args ds gs before hval0 hW hcnd _
  have hval : ∀ (j : Nat) t v, Try.f3.params[j]? = some t → args[j]? = some v → Value.okWide Try.prog W .any base t v := hval0
  have hW' := hW
  obtain ⟨p, q, hA0, hV, rfl, hfz, hnd⟩ := hW
  have hA : DataW.TrodAll enc Try.prog W 0 (fun _ => true) true Try.f3.params.toList args.toList ds p := hA0
  rw [Try.params3] at hA hval
  obtain ⟨rfl, rfl, rfl⟩ := trodAll_none hA
  obtain ⟨rfl, rfl⟩ := trodVars_none hV
  clear hA0 hval0
  refine (mixNames_walk  W).mono fun e W' ⟨he, bel⟩ => ?_
  subst he
  exact ⟨_, rfl, _, _, _, [], _, [], hW', trodAll_mk1 (shut_bool Try.underlying4 _), rfl, rfl, bel.frame _, fun h => by cases h⟩

theorem over : Rows.mixNamesRow.holds Try.pinned (OpenSpec.ofChange Rows.mixNamesSpec) :=
  OpenClaim.holds_of_wide 3 Try.f3 rfl rfl rfl rfl rfl rfl rfl ⟨rfl, rfl, rfl, rfl, rfl⟩ rfl rfl rfl rfl rfl (by kernel_rfl) Try.func3 (by kernel_rfl)
    (of_decide_eq_true (by kernel_rfl)) (by unfold Func.isWrapper; first | (rw [if_pos (by decide +kernel)]; kernel_rfl) | (rw [if_neg (by decide +kernel)]; exact ⟨rfl, rfl⟩))
    (fun os started H enc _ => lifted os started H enc)

/-- The statement. -/
theorem proved : Rows.MixNamesSaid := over
end Go.Proofs.Ythndfdnfaeioeaa.mixNames
