/-
  CodeWiderSaid: for every number and size, a number's bytes in more room are the same, and a nought behind. No condition.
-/
import Derived.Test.YtfejjpgjajacpaaRows
import Derived.Test.YtfejjpgjajacpaaCode
import Derived.ProofKit
import Derived.OpenShut
import Derived.ShutString
import Derived.ChangeOld
import Derived.Below
namespace Go.Proofs.Ytfejjpgjajacpaa
open Go.RowKit Go.Shelf
set_option maxRecDepth 100000

set_option maxHeartbeats 1000000 in
theorem wider_walk (n s : Int) (w0 : (Lit.int .i64 n).wf = true) (_w1 : (Lit.int .i64 s).wf = true) (w : World) : Calls Try.prog 6 #[.int .i64 n, .int .i64 s] w fun e W' => e = .returned (.bool true) ∧ Below w.heap.size w W' := by
  have hn := wf_le w0
  rcases putCase n s with ⟨N, k, rfl, rfl, h1, h2, h3⟩ | hbad
  · have H3 := Lib.hid h3; clear h3
    have hk0 : (1 : Int) ≤ k := by omega
    by_cases h4 : (4 : Int) ≤ k
    · go_enter Try.func6, Try.ntmps6
      go_wp2_with fail
      refine (alive_any _).mono ?_
      rintro e W1 ⟨rfl, b1⟩
      go_wp2_with fail
      refine (put_ok N k h1 h2 H3.out _).mono ?_
      rintro e W2 ⟨rfl, _, b2, _⟩
      have B2 := b1.trans (b2.mono b1.size)
      clear b1 b2
      go_wp2_with fail
      go_ret
      exact ⟨rfl, B2⟩
    · have h4' : (k : Int) < 4 := by omega
      have h5 : (k : Int) + 1 ≤ 5 := by omega
      have hmx : Try.prog.follows Departure.mixedOrders = true := by kernel_rfl
      go_enter Try.func6, Try.ntmps6
      go_wp2_with fail
      refine (alive_any _).mono ?_
      rintro e W1 ⟨rfl, b1⟩
      go_wp2_with fail
      refine (put_ok N k h1 h2 H3.out _).mono ?_
      rintro e W2 ⟨rfl, h2', b2, s2⟩
      have B2 := b1.trans (b2.mono b1.size)
      have HA := Lib.hid h2'
      clear b1 b2 h2'
      go_wp2_with fail
      refine (put_at N (k + 1) _ (by omega) (by omega) (by omega) (by have := H3.out; rw [Nat.pow_succ]; omega) _).mono ?_
      rintro e W3 ⟨rfl, h3', b3, s3⟩
      rw [leB_take, byteAt_over H3.out] at h3'
      have B3 := B2.trans (b3.mono B2.size)
      have c1 := fun q => ((HA.out.below b3 s2).drewN q).conv (cap := k) (len := k) (leB_length _ _)
      have c2 := fun q => (h3'.drewN q).left.conv (cap := k + 1) (len := k) (leB_length _ _)
      have c3 := h3'.last
      rw [leB_length] at c3
      have c4 := fun W => slice_h W (W2.heap.size + 1) 0 (k + 1) (k + 1) k (by omega) (by omega)
      have c5 : IntKind.i64.wrap ((k : Int) + 1) = k + 1 := IntWalk.i64_in _ (by omega)
      clear B2 b3 h3'
      go_wp2_with fail
      go_quiet (fail)
      go_wp2
      go_ret
      exact ⟨rfl, below_drewN B3 _⟩
  · have HB := Lib.hid hbad; clear hbad
    go_enter Try.func6, Try.ntmps6
    go_wp2_with fail
    refine (alive_any _).mono ?_
    rintro e W1 ⟨rfl, b1⟩
    go_wp2_with fail
    refine (put_bad _ _ HB.out hn.2 _).mono ?_
    rintro e W2 ⟨rfl, b2⟩
    have B2 := b1.trans (b2.mono b1.size)
    clear b1 b2
    go_wp2_with fail
    go_ret
    exact ⟨rfl, B2⟩
end Go.Proofs.Ytfejjpgjajacpaa

namespace Go.Proofs.Ytfejjpgjajacpaa.codeWider
open Go.ChangeShapes Go.WideShapes Go.ChangeAt Go.RowKit
set_option linter.unusedVariables false

theorem own : ownKnob Try.prog.godebug = none := by kernel_rfl
theorem laidOut : laidOutB Try.prog = true := by kernel_rfl

theorem walk (a0 : Int) (a1 : Int) (w0 : (Lit.int .i64 a0).wf = true) (w1 : (Lit.int .i64 a1).wf = true) (w : World) :
    Calls Try.prog 6 #[.int .i64 a0, .int .i64 a1] w fun e w' => e = .returned (.bool true) ∧ Below w.heap.size w w' := wider_walk a0 a1 w0 w1 w

set_option maxRecDepth 100000 in
theorem lifted (os : Os) (started : os.Started) (H : Type) (enc : TypeId × Value → H) :
    ReturnsInHanded {} Try.checked os 6 .any (Rows.codeWiderSpec.pre6 enc Try.prog Try.f6 Rows.codeWiderRow.domain false) (Rows.codeWiderSpec.post enc Try.prog Try.f6 false true false false) := by
  refine returnsInHanded_of_change (C := Try.checked) own started (by kernel_rfl) Try.func6
    (ChangeSpec.witness6 (enc := enc) (C := Try.checked) false ⟨#[], #[.int .i64 0, .int .i64 0], []⟩ 8 (by kernel_rfl) (by kernel_rfl) (by kernel_rfl) (by kernel_rfl)) ?_
  intro W base args ds gs before hval0 hW hcnd _
  have hval : ∀ (j : Nat) t v, Try.f6.params[j]? = some t → args[j]? = some v → Value.okWide Try.prog W .any base t v := hval0
  have hW' := hW
  obtain ⟨p, q, hA0, hV, rfl, hfz, hnd⟩ := hW
  have hA : DataW.TrodAll enc Try.prog W 0 (fun _ => true) true Try.f6.params.toList args.toList ds p := hA0
  rw [Try.params6] at hA hval
  obtain ⟨v0, vs0, d0, ds0, p0, q0, hargs, rfl, rfl, h0, r0⟩ := trodAll_cons hA
  obtain ⟨v1, vs1, d1, ds1, p1, q1, rfl, rfl, rfl, h1, r1⟩ := trodAll_cons r0
  obtain ⟨rfl, rfl, rfl⟩ := trodAll_nil r1
  obtain rfl : args = #[v0, v1] := by cases args; simp_all
  obtain ⟨rfl, rfl⟩ := trodVars_none hV
  obtain ⟨a0, rfl, rfl, rfl, w0⟩ := open_int Try.underlying3 (hval 0 3 v0 rfl rfl) h0
  obtain ⟨a1, rfl, rfl, rfl, w1⟩ := open_int Try.underlying3 (hval 1 3 v1 rfl rfl) h1
  clear hA0 hval0
  refine (walk a0 a1 w0 w1 W).mono fun e W' ⟨he, bel⟩ => ?_
  subst he
  exact ⟨_, rfl, _, _, _, [], _, [], hW', trodAll_mk1 (shut_bool Try.underlying4 _), (trodAll_cons_mk (shut_int Try.underlying3 w0) (trodAll_cons_mk (shut_int Try.underlying3 w1) trodAll_mk0)), rfl, bel.frame _, fun h => by cases h⟩

theorem over : Rows.codeWiderRow.holds Try.pinned (OpenSpec.ofChange Rows.codeWiderSpec) :=
  OpenClaim.holds_of_wide 6 Try.f6 rfl rfl rfl rfl rfl rfl rfl ⟨rfl, rfl, rfl, rfl, rfl⟩ rfl rfl rfl rfl rfl (by kernel_rfl) Try.func6 (by kernel_rfl)
    (of_decide_eq_true (by kernel_rfl)) (by unfold Func.isWrapper; first | (rw [if_pos (by decide +kernel)]; kernel_rfl) | (rw [if_neg (by decide +kernel)]; exact ⟨rfl, rfl⟩))
    (fun os started H enc _ => lifted os started H enc)

/-- The statement. -/
theorem proved : Rows.CodeWiderSaid :=
  over
end Go.Proofs.Ytfejjpgjajacpaa.codeWider
