/-
  CodeOrderSaid: for any two numbers and a size, the greater number has the greater byte at the last place at which their bytes are not the same. No condition.
-/
import Derived.Test.YtfejjpgjajacpaaRows
import Derived.Test.YtfejjpgjajacpaaCode
import Derived.ProofKit
import Derived.OpenShut
import Derived.ShutString
import Derived.ChangeOld
import Derived.Below
namespace Go.Proofs.Ytfejjpgjajacpaa
open Go.RowKit Go.Shelf
set_option maxRecDepth 100000

theorem high_eq {N M k : Nat} (hN : N < 256 ^ k) (hM : M < 256 ^ k) : ∀ (d j : Nat), j + d = k → (∀ t, j ≤ t → t < k → byteAt N t = byteAt M t) → N / 256 ^ j = M / 256 ^ j
  | 0, j, hj, _ => by
    obtain rfl : j = k := by omega
    rw [Nat.div_eq_of_lt hN, Nat.div_eq_of_lt hM]
  | d + 1, j, hj, h => by
    have ih := high_eq hN hM d (j + 1) (by omega) (fun t h1 h2 => h t (by omega) h2)
    have hb := congrArg UInt8.toNat (h j (Nat.le_refl _) (by omega))
    rw [byteAt_toNat, byteAt_toNat] at hb
    rw [Nat.pow_succ, ← Nat.div_div_eq_div_mul, ← Nat.div_div_eq_div_mul] at ih
    omega
theorem all_eq {N M k : Nat} (hN : N < 256 ^ k) (hM : M < 256 ^ k) (h : ∀ t, 0 ≤ t → t < k → byteAt N t = byteAt M t) : N = M := by
  have := high_eq hN hM k 0 (by omega) h
  simpa using this
theorem order_gt {N M k j : Nat} (hN : N < 256 ^ k) (hM : M < 256 ^ k) (hj : j < k) (h : ∀ t, j + 1 ≤ t → t < k → byteAt N t = byteAt M t) (hx : (byteAt M j).toNat < (byteAt N j).toNat) : M < N := by
  have ih := high_eq hN hM (k - (j + 1)) (j + 1) (by omega) h
  rw [byteAt_toNat, byteAt_toNat] at hx
  rw [Nat.pow_succ, ← Nat.div_div_eq_div_mul, ← Nat.div_div_eq_div_mul] at ih
  have h1 : M / 256 ^ j < N / 256 ^ j := by omega
  rcases Nat.lt_or_ge M N with h2 | h2
  · exact h2
  · have := Nat.div_le_div_right (c := 256 ^ j) h2
    omega

theorem Holds.at_ {W : World} {g k N : Nat} (h : Holds W g (leB k N)) {j : Nat} (hj : j < k) : W.cell? ⟨g, j, none⟩ = some (.int .u8 ((byteAt N j).toNat : Int)) := by
  have := h j (by rw [leB_length]; exact hj)
  simpa [leB] using this

set_option maxHeartbeats 2000000 in
theorem order_walk (n m s : Int) (w0 : (Lit.int .i64 n).wf = true) (w1 : (Lit.int .i64 m).wf = true) (_w2 : (Lit.int .i64 s).wf = true) (w : World) : Calls Try.prog 7 #[.int .i64 n, .int .i64 m, .int .i64 s] w fun e W' => e = .returned (.bool true) ∧ Below w.heap.size w W' := by
  have hn := wf_le w0
  have hm := wf_le w1
  rcases putCase n s with ⟨N, k, rfl, rfl, h1, h2, h3⟩ | hbad
  · rcases putCase m k with ⟨M, k', rfl, hk, _, _, h3'⟩ | hbad'
    · obtain rfl : k = k' := by omega
      have H3 := Lib.hid h3; clear h3
      have H3' := Lib.hid h3'; clear h3'
      have hk0 : (1 : Int) ≤ k := by omega
      have hk4 : (k : Int) ≤ 4 := by omega
      have hmx : Try.prog.follows Departure.mixedOrders = true := by kernel_rfl
      go_enter Try.func7, Try.ntmps7
      go_wp2_with fail
      refine (alive_any _).mono ?_
      rintro e W1 ⟨rfl, b1⟩
      go_wp2_with fail
      refine (put_ok N k h1 h2 H3.out _).mono ?_
      rintro e W2 ⟨rfl, h2', b2, s2⟩
      have B2 := b1.trans (b2.mono b1.size)
      have HA := Lib.hid h2'
      clear b1 b2 h2'
      go_wp2_with fail
      refine (put_ok M k h1 h2 H3'.out _).mono ?_
      rintro e W3 ⟨rfl, h3', b3, s3⟩
      have B3 := B2.trans (b3.mono B2.size)
      have HA' := Lib.hid (HA.out.below b3 s2)
      have HB' := Lib.hid h3'
      clear B2 b3 h3'
      have HB3 := Lib.hid B3; clear B3
      go_wp2_with fail
      go_loopw [12] (fun i wr => ∃ j : Nat, j ≤ k ∧ i = .int .i64 ((j : Int) - 1) ∧ Hid (∀ t, j ≤ t → t < k → byteAt N t = byteAt M t) ∧ ∃ q, wr = W3.drewN q) (fun i _ => (intOf i + 1).toNat)
      case atStart => exact ⟨k, Nat.le_refl _, rfl, Lib.hid (fun t h1 h2 => absurd h1 (by omega)), 0, rfl⟩
      case round =>
        obtain ⟨j, hj, rfl, HE, q, rfl⟩ := hrel
        cases j with
        | zero =>
          have hz : ((0 : Nat) : Int) - 1 = -1 := rfl
          rw [hz]
          have hNM := all_eq H3.out H3'.out HE.out
          have HQ := Lib.hid hNM; clear hNM
          go_wp2
          go_ret
          exact ⟨by rw [HQ.out]; simp, below_drewN HB3.out _⟩
        | succ j =>
          have hz : ((j + 1 : Nat) : Int) - 1 = (j : Int) := by omega
          rw [hz]
          have hj0 : (0 : Int) ≤ j := by omega
          have hj1 : (j : Int) < k := by omega
          have ca := HA'.out.at_ (j := j) (by omega)
          have cb := HB'.out.at_ (j := j) (by omega)
          clear hz
          obtain ⟨x, hx⟩ : ∃ x : Nat, (byteAt N j).toNat = x := ⟨_, rfl⟩
          obtain ⟨y, hy⟩ : ∃ y : Nat, (byteAt M j).toNat = y := ⟨_, rfl⟩
          rw [hx] at ca
          rw [hy] at cb
          have HX := Lib.hid hx; clear hx
          have HY := Lib.hid hy; clear hy
          have HJ := Lib.hid hj; clear hj
          rcases Nat.lt_trichotomy x y with hlt | heq | hgt
          · have hNM : N < M := order_gt H3'.out H3.out (j := j) (by have := HJ.out; omega) (fun t h1 h2 => (HE.out t h1 h2).symm) (by rw [HX.out, HY.out]; exact hlt)
            have f1 : ((x : Int) != y) = true := by simp; omega
            have f2 : (x : Int) < y := by omega
            have f3 : (N : Int) < M := by omega
            have fz : (decide (y < x) == decide (M < N)) = true := by
              have e1 : decide (y < x) = false := by simp; omega
              have e2 : decide (M < N) = false := by simp; omega
              rw [e1, e2]; rfl
            have FZ := Lib.hid fz; clear fz
            clear hNM hlt
            go_wp2
            go_quiet (fail)
            go_wp2
            go_quiet (fail)
            go_wp2
            go_ret
            refine ⟨?_, below_drewN (below_drewN (below_drewN HB3.out _) _) _⟩
            show Ending.returned (.bool (decide (y < x) == decide (M < N))) = _
            rw [FZ.out]
          · have f1 : ((x : Int) != y) = false := by simp; omega
            have HQ := Lib.hid heq; clear heq
            go_wp2
            go_quiet (fail)
            go_wp2
            go_roundw
            case rel => exact ⟨j, by have := HJ.out; omega, rfl, Lib.hid (fun t h1 h2 => by
              rcases Nat.lt_or_ge j t with h | h
              · exact HE.out t h h2
              · obtain rfl : t = j := by omega
                exact UInt8.toNat_inj.1 (by rw [HX.out, HY.out]; exact HQ.out)), _, by simp [World.drewN]; rfl⟩
            case measure => simp [intOf]
          · have hNM : M < N := order_gt H3.out H3'.out (j := j) (by have := HJ.out; omega) (fun t h1 h2 => HE.out t h1 h2) (by rw [HX.out, HY.out]; exact hgt)
            have f1 : ((x : Int) != y) = true := by simp; omega
            have f2 : (y : Int) < x := by omega
            have f3 : (M : Int) < N := by omega
            clear hNM hgt
            go_wp2
            go_quiet (fail)
            go_wp2
            go_quiet (fail)
            go_wp2
            go_ret
            exact ⟨rfl, below_drewN (below_drewN (below_drewN HB3.out _) _) _⟩
    · have HB := Lib.hid hbad'; clear hbad'
      have H3 := Lib.hid h3; clear h3
      go_enter Try.func7, Try.ntmps7
      go_wp2_with fail
      refine (alive_any _).mono ?_
      rintro e W1 ⟨rfl, b1⟩
      go_wp2_with fail
      refine (put_ok N k h1 h2 H3.out _).mono ?_
      rintro e W2 ⟨rfl, _, b2, _⟩
      have B2 := b1.trans (b2.mono b1.size)
      clear b1 b2
      go_wp2_with fail
      refine (put_bad _ _ HB.out hm.2 _).mono ?_
      rintro e W3 ⟨rfl, b3⟩
      have B3 := B2.trans (b3.mono B2.size)
      clear B2 b3
      go_wp2_with fail
      go_ret
      exact ⟨rfl, B3⟩
  · rcases putCase m s with ⟨M, k, rfl, rfl, h1, h2, h3⟩ | hbad'
    · have HB := Lib.hid hbad; clear hbad
      have H3 := Lib.hid h3; clear h3
      go_enter Try.func7, Try.ntmps7
      go_wp2_with fail
      refine (alive_any _).mono ?_
      rintro e W1 ⟨rfl, b1⟩
      go_wp2_with fail
      refine (put_bad _ _ HB.out hn.2 _).mono ?_
      rintro e W2 ⟨rfl, b2⟩
      have B2 := b1.trans (b2.mono b1.size)
      clear b1 b2
      go_wp2_with fail
      refine (put_ok M k h1 h2 H3.out _).mono ?_
      rintro e W3 ⟨rfl, _, b3, _⟩
      have B3 := B2.trans (b3.mono B2.size)
      clear B2 b3
      go_wp2_with fail
      go_ret
      exact ⟨rfl, B3⟩
    · have HB := Lib.hid hbad; clear hbad
      have HB' := Lib.hid hbad'; clear hbad'
      go_enter Try.func7, Try.ntmps7
      go_wp2_with fail
      refine (alive_any _).mono ?_
      rintro e W1 ⟨rfl, b1⟩
      go_wp2_with fail
      refine (put_bad _ _ HB.out hn.2 _).mono ?_
      rintro e W2 ⟨rfl, b2⟩
      have B2 := b1.trans (b2.mono b1.size)
      clear b1 b2
      go_wp2_with fail
      refine (put_bad _ _ HB'.out hm.2 _).mono ?_
      rintro e W3 ⟨rfl, b3⟩
      have B3 := B2.trans (b3.mono B2.size)
      clear B2 b3
      go_wp2_with fail
      go_ret
      exact ⟨rfl, B3⟩
end Go.Proofs.Ytfejjpgjajacpaa

namespace Go.Proofs.Ytfejjpgjajacpaa.codeOrder
open Go.ChangeShapes Go.WideShapes Go.ChangeAt Go.RowKit
set_option linter.unusedVariables false

theorem own : ownKnob Try.prog.godebug = none := by kernel_rfl
theorem laidOut : laidOutB Try.prog = true := by kernel_rfl

theorem walk (a0 : Int) (a1 : Int) (a2 : Int) (w0 : (Lit.int .i64 a0).wf = true) (w1 : (Lit.int .i64 a1).wf = true) (w2 : (Lit.int .i64 a2).wf = true) (w : World) :
    Calls Try.prog 7 #[.int .i64 a0, .int .i64 a1, .int .i64 a2] w fun e w' => e = .returned (.bool true) ∧ Below w.heap.size w w' := order_walk a0 a1 a2 w0 w1 w2 w

set_option maxRecDepth 100000 in
theorem lifted (os : Os) (started : os.Started) (H : Type) (enc : TypeId × Value → H) :
    ReturnsInHanded {} Try.checked os 7 .any (Rows.codeOrderSpec.pre6 enc Try.prog Try.f7 Rows.codeOrderRow.domain false) (Rows.codeOrderSpec.post enc Try.prog Try.f7 false true false false) := by
  refine returnsInHanded_of_change (C := Try.checked) own started (by kernel_rfl) Try.func7
    (ChangeSpec.witness6 (enc := enc) (C := Try.checked) false ⟨#[], #[.int .i64 0, .int .i64 0, .int .i64 0], []⟩ 8 (by kernel_rfl) (by kernel_rfl) (by kernel_rfl) (by kernel_rfl)) ?_
  intro W base args ds gs before hval0 hW hcnd _
  have hval : ∀ (j : Nat) t v, Try.f7.params[j]? = some t → args[j]? = some v → Value.okWide Try.prog W .any base t v := hval0
  have hW' := hW
  obtain ⟨p, q, hA0, hV, rfl, hfz, hnd⟩ := hW
  have hA : DataW.TrodAll enc Try.prog W 0 (fun _ => true) true Try.f7.params.toList args.toList ds p := hA0
  rw [Try.params7] at hA hval
  obtain ⟨v0, vs0, d0, ds0, p0, q0, hargs, rfl, rfl, h0, r0⟩ := trodAll_cons hA
  obtain ⟨v1, vs1, d1, ds1, p1, q1, rfl, rfl, rfl, h1, r1⟩ := trodAll_cons r0
  obtain ⟨v2, vs2, d2, ds2, p2, q2, rfl, rfl, rfl, h2, r2⟩ := trodAll_cons r1
  obtain ⟨rfl, rfl, rfl⟩ := trodAll_nil r2
  obtain rfl : args = #[v0, v1, v2] := by cases args; simp_all
  obtain ⟨rfl, rfl⟩ := trodVars_none hV
  obtain ⟨a0, rfl, rfl, rfl, w0⟩ := open_int Try.underlying3 (hval 0 3 v0 rfl rfl) h0
  obtain ⟨a1, rfl, rfl, rfl, w1⟩ := open_int Try.underlying3 (hval 1 3 v1 rfl rfl) h1
  obtain ⟨a2, rfl, rfl, rfl, w2⟩ := open_int Try.underlying3 (hval 2 3 v2 rfl rfl) h2
  clear hA0 hval0
  refine (walk a0 a1 a2 w0 w1 w2 W).mono fun e W' ⟨he, bel⟩ => ?_
  subst he
  exact ⟨_, rfl, _, _, _, [], _, [], hW', trodAll_mk1 (shut_bool Try.underlying4 _), (trodAll_cons_mk (shut_int Try.underlying3 w0) (trodAll_cons_mk (shut_int Try.underlying3 w1) (trodAll_cons_mk (shut_int Try.underlying3 w2) trodAll_mk0))), rfl, bel.frame _, fun h => by cases h⟩

theorem over : Rows.codeOrderRow.holds Try.pinned (OpenSpec.ofChange Rows.codeOrderSpec) :=
  OpenClaim.holds_of_wide 7 Try.f7 rfl rfl rfl rfl rfl rfl rfl ⟨rfl, rfl, rfl, rfl, rfl⟩ rfl rfl rfl rfl rfl (by kernel_rfl) Try.func7 (by kernel_rfl)
    (of_decide_eq_true (by kernel_rfl)) (by unfold Func.isWrapper; first | (rw [if_pos (by decide +kernel)]; kernel_rfl) | (rw [if_neg (by decide +kernel)]; exact ⟨rfl, rfl⟩))
    (fun os started H enc _ => lifted os started H enc)

/-- The statement. -/
theorem proved : Rows.CodeOrderSaid :=
  over
end Go.Proofs.Ytfejjpgjajacpaa.codeOrder
