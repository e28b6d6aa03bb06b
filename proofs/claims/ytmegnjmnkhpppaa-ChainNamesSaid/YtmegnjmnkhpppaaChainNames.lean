/-
  ChainNamesSaid: the limits' and the errors' numbers, and the chapter's examples hold: what is recovered of a text signed with leaf 3 is its public key; leaf 8 and leaf -1 are none, 15 bytes are no seed, 159 bytes no signature. No condition.
-/
import Derived.Test.YtmegnjmnkhpppaaRows
import Derived.Test.YtmegnjmnkhpppaaChainAll
namespace Go.Proofs.Ytmegnjmnkhpppaa
open Go.RowKit Go.Shelf
set_option maxRecDepth 100000

theorem none_of_o {o : List UInt8 × Int} {e : Int} (h : o = ([], e)) {w w' : World} {en : Ending} (t : ToldO o w en w') : ∃ a c, en = .returned (.tuple #[.slice a 0 c, .int .i64 e]) ∧ Below w.heap.size w w' := by
  subst h
  obtain ⟨a, c, he, _, hb⟩ := t
  exact ⟨a, c, he, hb⟩
theorem none_of_b {o : List UInt8 × Int} {e : Int} (h : o = ([], e)) {w w' : World} {en : Ending} (t : ToldB o w en w') : ∃ a c, en = .returned (.tuple #[.slice a 0 c, .int .i64 e]) ∧ Below w.heap.size w w' := by
  subst h
  obtain ⟨a, c, he, _, hb⟩ := t
  exact ⟨a, c, he, hb⟩
set_option maxHeartbeats 2000000 in
theorem chainNames_walk (w : World) : Calls Try.prog 3 #[] w fun e w' => e = .returned (.bool true) ∧ Below w.heap.size w w' := by
  have mk15 : ∀ W : World, (Instr.makeSlice 22 (.int .i64 15) (.int .i64 15)).run Try.prog W = .ok (.slice (some ⟨W.heap.size, 0, none⟩) 15 15) (W.alloc (.cells (Array.replicate 15 (.int .u8 0)) 5)) := fun W => by kernel_rfl
  have mk16 : ∀ W : World, (Instr.makeSlice 22 (.int .i64 16) (.int .i64 16)).run Try.prog W = .ok (.slice (some ⟨W.heap.size, 0, none⟩) 16 16) (W.alloc (.cells (Array.replicate 16 (.int .u8 0)) 5)) := fun W => by kernel_rfl
  have mk159 : ∀ W : World, (Instr.makeSlice 22 (.int .i64 159) (.int .i64 159)).run Try.prog W = .ok (.slice (some ⟨W.heap.size, 0, none⟩) 159 159) (W.alloc (.cells (Array.replicate 159 (.int .u8 0)) 5)) := fun W => by kernel_rfl
  obtain ⟨Z1, hZ1⟩ : ∃ Z1 : Array Value, Array.replicate 15 (.int .u8 0) = Z1 := ⟨_, rfl⟩
  obtain ⟨Z2, hZ2⟩ : ∃ Z2 : Array Value, Array.replicate 16 (.int .u8 0) = Z2 := ⟨_, rfl⟩
  obtain ⟨Z3, hZ3⟩ : ∃ Z3 : Array Value, Array.replicate 159 (.int .u8 0) = Z3 := ⟨_, rfl⟩
  simp only [hZ1] at mk15
  simp only [hZ2] at mk16
  simp only [hZ3] at mk159
  clear hZ1 hZ2 hZ3
  have HBa := Lib.hid ((Below.refl w.heap.size w).alloc (Nat.le_refl _) (.cells Z2 5))
  go_enter Try.func3, Try.ntmps3
  go_wp2_with fail
  refine (Sign_leaf _ 16 8 (.inr (by omega)) _ _).mono ?_
  intro e w1 t1
  obtain ⟨a1, c1, rfl, b1⟩ := none_of_o rfl t1
  have hb1 := HBa.out.trans (b1.mono HBa.out.size)
  have HB1 := Lib.hid (hb1.alloc hb1.size (.cells Z1 5)); clear t1 b1 hb1
  go_wp2_with fail
  refine (Sign_seed _ 15 15 (by omega) 0 _ _).mono ?_
  intro e w2 t2
  obtain ⟨a2, c2, rfl, b2⟩ := none_of_o rfl t2
  have hb2 := HB1.out.trans (b2.mono HB1.out.size)
  have HB2 := Lib.hid (hb2.alloc hb2.size (.cells Z3 5)); clear t2 b2 hb2
  go_wp2_with fail
  refine (Recover_size 0 (by omega) _ _ 159 159 (by omega) _).mono ?_
  intro e w3 t3
  obtain ⟨a3, c3, rfl, b3⟩ := none_of_b rfl t3
  have HB3 := Lib.hid (HB2.out.trans (b3.mono HB2.out.size)); clear t3 b3
  go_wp2_with fail
  refine (Recover_leaf (-1) (.inl (by omega)) _ _ _).mono ?_
  intro e w4 t4
  obtain ⟨a4, c4, rfl, b4⟩ := none_of_b rfl t4
  have HB4 := Lib.hid (HB3.out.trans (b4.mono HB3.out.size)); clear t4 b4
  go_wp2_with fail
  refine (alive_chain _).mono ?_
  rintro e w5 ⟨rfl, b5⟩
  have HB5 := Lib.hid (HB4.out.trans (b5.mono HB4.out.size)); clear b5
  go_wp2_with fail
  go_ret
  exact ⟨rfl, HB5.out⟩
end Go.Proofs.Ytmegnjmnkhpppaa

namespace Go.Proofs.Ytmegnjmnkhpppaa.chainNames
open Go.ChangeShapes Go.WideShapes Go.ChangeAt Go.RowKit
set_option linter.unusedVariables false

theorem own : ownKnob Try.prog.godebug = none := by kernel_rfl
theorem laidOut : laidOutB Try.prog = true := by kernel_rfl

set_option maxRecDepth 100000 in
theorem lifted (os : Os) (started : os.Started) (H : Type) (enc : TypeId × Value → H) :
    ReturnsInHanded {} Try.checked os 3 .any (Rows.chainNamesSpec.pre6 enc Try.prog Try.f3 Rows.chainNamesRow.domain false) (Rows.chainNamesSpec.post enc Try.prog Try.f3 false true false false) := by
  refine returnsInHanded_of_change (C := Try.checked) own started (by kernel_rfl) Try.func3
    (ChangeSpec.witness6 (enc := enc) (C := Try.checked) false ⟨#[], #[], []⟩ 8 (by kernel_rfl) (by kernel_rfl) (by kernel_rfl) (by kernel_rfl)) ?_
  intro W base args ds gs before hval0 hW hcnd _
  have hval : ∀ (j : Nat) t v, Try.f3.params[j]? = some t → args[j]? = some v → Value.okWide Try.prog W .any base t v := hval0
  have hW' := hW
  obtain ⟨p, q, hA0, hV, rfl, hfz, hnd⟩ := hW
  have hA : DataW.TrodAll enc Try.prog W 0 (fun _ => true) true Try.f3.params.toList args.toList ds p := hA0
  rw [Try.params3] at hA hval
  obtain ⟨rfl, rfl, rfl⟩ := trodAll_none hA
  obtain ⟨rfl, rfl⟩ := trodVars_none hV
  clear hA0 hval0
  refine (chainNames_walk  W).mono fun e W' ⟨he, bel⟩ => ?_
  subst he
  exact ⟨_, rfl, _, _, _, [], _, [], hW', trodAll_mk1 (shut_bool Try.underlying4 _), rfl, rfl, bel.frame _, fun h => by cases h⟩

theorem over : Rows.chainNamesRow.holds Try.pinned (OpenSpec.ofChange Rows.chainNamesSpec) :=
  OpenClaim.holds_of_wide 3 Try.f3 rfl rfl rfl rfl rfl rfl rfl ⟨rfl, rfl, rfl, rfl, rfl⟩ rfl rfl rfl rfl rfl (by kernel_rfl) Try.func3 (by kernel_rfl)
    (of_decide_eq_true (by kernel_rfl)) (by unfold Func.isWrapper; first | (rw [if_pos (by decide +kernel)]; kernel_rfl) | (rw [if_neg (by decide +kernel)]; exact ⟨rfl, rfl⟩))
    (fun os started H enc _ => lifted os started H enc)

/-- The statement. -/
theorem proved : Rows.ChainNamesSaid := over
end Go.Proofs.Ytmegnjmnkhpppaa.chainNames
