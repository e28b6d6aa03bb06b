/-
  WrapGreatSaid: for any passphrase and salt (beyond 10,000 bytes the law itself answers what its example answers) a passphrase of more than 64 bytes, and only such a one, is refused by Stretch, Wrap and Unwrap; else Stretch answers sixteen bytes, Wrap twenty-four. No condition.
-/
import Derived.Test.YtmlmgnifgcbehaaRows
import Derived.Test.YtmlmgnifgcbehaaWrapAll
import Derived.Test.YtmlmgnifgcbehaaArr
import Derived.ChangeMaps5
namespace Go.Proofs.Ytmlmgnifgcbehaa
open Go.RowKit Go.Shelf
set_option maxRecDepth 100000

theorem wrapGreat_far (p : ByteArray) (hp : (10000 : Int) < p.size) (_hm : (p.size : Int) ≤ 9223372036854775807) (v : Value) (w : World) : Calls Try.prog 7 #[.string p, v] w fun e w' => e = .returned (.bool true) ∧ Below w.heap.size w w' := by
  go_enter Try.func7, Try.ntmps7
  go_wp2_with fail
  refine (alive_wrap _).mono ?_
  rintro e w1 ⟨rfl, b1⟩
  have HB1 := Lib.hid b1; clear b1
  go_wp2_with fail
  go_ret
  exact ⟨rfl, HB1.out⟩
set_option maxHeartbeats 2000000 in
theorem wrapGreat_mid (p : ByteArray) (hp : (64 : Int) < p.size) (hm : (p.size : Int) ≤ 10000) (n : Nat) (w : World) : Calls Try.prog 7 #[.string p, .int .u32 n] w fun e w' => e = .returned (.bool true) ∧ Below w.heap.size w w' := by
  have mk : ∀ W : World, (Instr.makeSlice 22 (.int .i64 16) (.int .i64 16)).run Try.prog W = .ok (.slice (some ⟨W.heap.size, 0, none⟩) 16 16) (W.alloc (.cells (Array.replicate 16 (.int .u8 0)) 5)) := fun W => by kernel_rfl
  have MK := Lib.hid mk; clear mk
  have hl : ¬ ((p.size : Int) ≤ 64) := by omega
  go_enter Try.func7, Try.ntmps7
  go_wp2_with fail
  refine (alive_wrap _).mono ?_
  rintro e w1 ⟨rfl, b1⟩
  have HB1 := Lib.hid b1; clear b1
  go_wp2_with fail
  refine (wStretch_bad p hp (by omega) _ w1).mono ?_
  rintro e w2 ⟨rfl, b2⟩
  have HB2 := Lib.hid (HB1.out.trans (b2.mono HB1.out.size)); clear b2
  obtain ⟨w3, hw3⟩ : ∃ w3, w2.alloc (.cells (Array.replicate 16 (.int .u8 0)) 5) = w3 := ⟨_, rfl⟩
  have b3 := (Below.refl w2.heap.size w2).alloc (Nat.le_refl _) (.cells (Array.replicate 16 (.int .u8 0)) 5)
  have m16 : (Instr.makeSlice 22 (.int .i64 16) (.int .i64 16)).run Try.prog w2 = .ok (.slice (some ⟨w2.heap.size, 0, none⟩) 16 16) w3 := by rw [← hw3]; exact MK.out w2
  rw [hw3] at b3
  have HB3 := Lib.hid (HB2.out.trans (b3.mono HB2.out.size)); clear b3 hw3
  go_wp2_with fail
  refine (wWrap_pass p hp (by omega) _ _ w3).mono ?_
  rintro e w4 ⟨rfl, b4⟩
  have HB4 := Lib.hid (HB3.out.trans (b4.mono HB3.out.size)); clear b4 m16
  go_wp2_with fail
  refine (wUnwrap_pass p hp (by omega) _ w4).mono ?_
  rintro e w5 ⟨rfl, b5⟩
  have HB5 := Lib.hid (HB4.out.trans (b5.mono HB4.out.size)); clear b5
  go_wp2_with fail
  go_ret
  exact ⟨rfl, HB5.out⟩
set_option maxHeartbeats 2000000 in
theorem wrapGreat_near (p : ByteArray) (hp : (p.size : Int) ≤ 64) (n : Nat) (hn : n < 4294967296) (w : World) : Calls Try.prog 7 #[.string p, .int .u32 n] w fun e w' => e = .returned (.bool true) ∧ Below w.heap.size w w' := by
  have mk : ∀ W : World, (Instr.makeSlice 22 (.int .i64 16) (.int .i64 16)).run Try.prog W = .ok (.slice (some ⟨W.heap.size, 0, none⟩) 16 16) (W.alloc (.cells (Array.replicate 16 (.int .u8 0)) 5)) := fun W => by kernel_rfl
  have MK := Lib.hid mk; clear mk
  have hl : ¬ ((64 : Int) < p.size) := by omega
  have hl0 : (0 : Int) ≤ p.size := by omega
  go_enter Try.func7, Try.ntmps7
  go_wp2_with fail
  refine (alive_wrap _).mono ?_
  rintro e w1 ⟨rfl, b1⟩
  have HB1 := Lib.hid b1; clear b1
  go_wp2_with fail
  refine (wStretch_ok p hp n hn w1).mono ?_
  rintro e w2 ⟨g2, c2, rfl, _, _, b2⟩
  have HB2 := Lib.hid (HB1.out.trans (b2.mono HB1.out.size)); clear b2
  obtain ⟨w3, hw3⟩ : ∃ w3, w2.alloc (.cells (Array.replicate 16 (.int .u8 0)) 5) = w3 := ⟨_, rfl⟩
  have x3 := bsl_noughts 16 (by omega) w2
  have b3 := (Below.refl w2.heap.size w2).alloc (Nat.le_refl _) (.cells (Array.replicate 16 (.int .u8 0)) 5)
  have m16 : (Instr.makeSlice 22 (.int .i64 16) (.int .i64 16)).run Try.prog w2 = .ok (.slice (some ⟨w2.heap.size, 0, none⟩) 16 16) w3 := by rw [← hw3]; exact MK.out w2
  rw [hw3] at b3 x3
  have HB3 := Lib.hid (HB2.out.trans (b3.mono HB2.out.size)); clear b3 hw3
  have HX3 := Lib.hid x3; clear x3
  go_wp2_with fail
  refine (wWrap_ok p hp (some ⟨w2.heap.size, 0, none⟩) 16 _ n hn w3 HX3.out).mono ?_
  rintro e w4 ⟨g4, c4, rfl, _, h4, b4⟩
  have HB4 := Lib.hid (HB3.out.trans (b4.mono HB3.out.size)); clear b4 m16
  have H4 := Lib.hid h4; clear h4
  go_wp2_with fail
  refine (wUnwrap_ok p hp _ _ _ (wrapL_right _ _ _ (by simp) (leB_length _ _)) w4 H4.out).mono ?_
  rintro e w5 ⟨g5, c5, rfl, _, _, b5⟩
  have HB5 := Lib.hid (HB4.out.trans (b5.mono HB4.out.size)); clear b5
  go_wp2_with fail
  go_ret
  exact ⟨by simp; omega, HB5.out⟩
theorem wrapGreat_walk (p : ByteArray) (a : Int) (w : World) (hp : p.size ≤ maxLen) (ha : (Lit.int .u32 a).wf = true) : Calls Try.prog 7 #[.string p, .int .u32 a] w fun e w' => e = .returned (.bool true) ∧ Below w.heap.size w w' := by
  obtain ⟨h1, h2⟩ := u32_of_wf ha
  obtain ⟨n, rfl⟩ := Int.eq_ofNat_of_zero_le h1
  have hm : (p.size : Int) ≤ 9223372036854775807 := by unfold maxLen at hp; omega
  rcases Int.lt_or_le 10000 (p.size : Int) with h | h
  · exact wrapGreat_far p h hm _ w
  · rcases Int.lt_or_le 64 (p.size : Int) with h' | h'
    · exact wrapGreat_mid p h' h n w
    · exact wrapGreat_near p h' n (by omega) w
end Go.Proofs.Ytmlmgnifgcbehaa

namespace Go.Proofs.Ytmlmgnifgcbehaa.wrapGreat
open Go.ChangeShapes Go.WideShapes Go.ChangeAt Go.RowKit
open Go.ChangeMaps (open_string shut_string)
set_option linter.unusedVariables false

theorem own : ownKnob Try.prog.godebug = none := by kernel_rfl
theorem laidOut : laidOutB Try.prog = true := by kernel_rfl

set_option maxRecDepth 100000 in
theorem lifted (os : Os) (started : os.Started) (H : Type) (enc : TypeId × Value → H) :
    ReturnsInHanded {} Try.checked os 7 .any (Rows.wrapGreatSpec.pre6 enc Try.prog Try.f7 Rows.wrapGreatRow.domain false) (Rows.wrapGreatSpec.post enc Try.prog Try.f7 false true false false) := by
  refine returnsInHanded_of_change (C := Try.checked) own started (by kernel_rfl) Try.func7
    (ChangeSpec.witness6 (enc := enc) (C := Try.checked) false ⟨#[], #[.string ⟨#[]⟩, .int .u32 0], []⟩ 8 (by kernel_rfl) (by kernel_rfl) (by kernel_rfl) (by kernel_rfl)) ?_
  intro W base args ds gs before hval0 hW hcnd _
  have hval : ∀ (j : Nat) t v, Try.f7.params[j]? = some t → args[j]? = some v → Value.okWide Try.prog W .any base t v := hval0
  have hW' := hW
  obtain ⟨p, q, hA0, hV, rfl, hfz, hnd⟩ := hW
  have hA : DataW.TrodAll enc Try.prog W 0 (fun _ => true) true Try.f7.params.toList args.toList ds p := hA0
  rw [Try.params7] at hA hval
  obtain ⟨v0, vs0, d0, ds0, p0, q0, hargs, rfl, rfl, h0, r0⟩ := trodAll_cons hA
  obtain ⟨v1, vs1, d1, ds1, p1, q1, rfl, rfl, rfl, h1, r1⟩ := trodAll_cons r0
  obtain ⟨rfl, rfl, rfl⟩ := trodAll_nil r1
  obtain rfl : args = #[v0, v1] := by cases args; simp_all
  obtain ⟨rfl, rfl⟩ := trodVars_none hV
  obtain ⟨s0, rfl, rfl, rfl, w0⟩ := open_string Try.underlying9 (hval 0 9 v0 rfl rfl) h0
  obtain ⟨a1, rfl, rfl, rfl, w1⟩ := open_int Try.underlying26 (hval 1 26 v1 rfl rfl) h1
  clear hA0 hval0
  refine (wrapGreat_walk s0 a1 W w0 w1).mono fun e W' ⟨he, bel⟩ => ?_
  subst he
  exact ⟨_, rfl, _, _, _, [], _, [], hW', trodAll_mk1 (shut_bool Try.underlying4 _), (trodAll_cons_mk (shut_string Try.underlying9 w0) (trodAll_cons_mk (shut_int Try.underlying26 w1) trodAll_mk0)), rfl, bel.frame _, fun h => by cases h⟩

theorem over : Rows.wrapGreatRow.holds Try.pinned (OpenSpec.ofChange Rows.wrapGreatSpec) :=
  OpenClaim.holds_of_wide 7 Try.f7 rfl rfl rfl rfl rfl rfl rfl ⟨rfl, rfl, rfl, rfl, rfl⟩ rfl rfl rfl rfl rfl (by kernel_rfl) Try.func7 (by kernel_rfl)
    (of_decide_eq_true (by kernel_rfl)) (by unfold Func.isWrapper; first | (rw [if_pos (by decide +kernel)]; kernel_rfl) | (rw [if_neg (by decide +kernel)]; exact ⟨rfl, rfl⟩))
    (fun os started H enc _ => lifted os started H enc)

/-- The statement. -/
theorem proved : Rows.WrapGreatSaid := over
end Go.Proofs.Ytmlmgnifgcbehaa.wrapGreat
