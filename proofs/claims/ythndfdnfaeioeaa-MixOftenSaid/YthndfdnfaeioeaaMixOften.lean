/-
  MixOftenSaid: for any four words and any count up to 255, so many turns, and as many back, leave the words as they were. No condition.
-/
import Derived.Test.YthndfdnfaeioeaaRows
import Derived.Test.YthndfdnfaeioeaaArr
namespace Go.Proofs.Ythndfdnfaeioeaa
open Go.RowKit Go.Shelf
set_option maxRecDepth 100000

theorem backsW_succ' : ∀ (n : Nat) (x : W4), backsW (n + 1) x = backsW n (backW x)
  | 0, _ => rfl
  | n + 1, x => by rw [backsW, backsW_succ' n x]; rfl
set_option maxHeartbeats 2000000 in
theorem often_w (x : W4) (n : Nat) (hn : n ≤ 255) (w : World) : Calls Try.prog 8 #[ag x, .int .u8 n] w fun e w' => e = .returned (.bool true) ∧ Below w.heap.size w w' := by
  have hn' : (n : Int) ≤ 255 := by omega
  have hn0 : (0 : Int) ≤ n := by omega
  have hb0 : Blk ((w.alloc (.cells (cl x) 23)).alloc (.cells (cl x) 23)) w.heap.size 23 (cl x) := (Blk.new w _ _).alloc _
  have hy0 := Blk.new (w.alloc (.cells (cl x) 23)) 23 (cl x)
  have hB0 : Below w.heap.size w ((w.alloc (.cells (cl x) 23)).alloc (.cells (cl x) 23)) := ((Below.refl _ w).alloc (Nat.le_refl _) _).alloc (by simp) _
  rw [World.size_alloc] at hy0
  have HB0 := Lib.hid hb0; clear hb0
  have HY0 := Lib.hid hy0; clear hy0
  have HBe := Lib.hid hB0; clear hB0
  have qe := fun W => (eql4 x x W).trans (by rw [eqW_self])
  go_enter Try.func8, Try.ntmps8
  go_wp2_with fail
  go_loopw [6] (fun i wr => ∃ k : Nat, k ≤ n ∧ i = .int .i64 k ∧ Blk wr (w.heap.size + 1) 23 (cl (turnsW k x)) ∧ Blk wr w.heap.size 23 (cl x) ∧ Below w.heap.size w wr) (fun i _ => n - (intOf i).toNat)
  case atStart => exact ⟨0, Nat.zero_le _, rfl, HY0.out, HB0.out, HBe.out⟩
  case round =>
    obtain ⟨k, hk, rfl, hy, hb, hbe⟩ := hrel
    have c0 := hy.cell 0
    have c1 := hy.cell 1
    have c2 := hy.cell 2
    have c3 := hy.cell 3
    have HY := Lib.hid hy; clear hy
    have HB := Lib.hid hb; clear hb
    have HE := Lib.hid hbe; clear hbe
    by_cases hlt : k < n
    · go_wp2_with fail
      refine (turn_any _ _).mono ?_
      rintro e w1 ⟨rfl, b1⟩
      have hy1 := HY.out.below b1 HY.out.lt
      have f := fun i => hy1.frozen i
      have d0 := hy1.cell 0
      have d1 := hy1.cell 1
      have d2 := hy1.cell 2
      have d3 := hy1.cell 3
      have HY1 := Lib.hid hy1; clear hy1
      have HB1 := Lib.hid (HB.out.below b1 HB.out.lt)
      have HE1 := Lib.hid (HE.out.trans (b1.mono HE.out.size)); clear b1
      clear c0 c1 c2 c3
      go_wp2_with fail
      go_roundw
      case rel => exact ⟨k + 1, by omega, by go_num, HY1.out.set4 _ _ _ _, (((HB1.out.far (by simp) _).far (by simp) _).far (by simp) _).far (by simp) _, below_set4 HE1.out (by omega) _ _ _ _⟩
      case measure => simp [intOf]; omega
    · obtain rfl : k = n := by omega
      clear c0 c1 c2 c3
      obtain ⟨z, hz⟩ : ∃ z, turnsW k x = z := ⟨_, rfl⟩
      rw [hz] at HY
      have HZ := Lib.hid hz; clear hz
      obtain ⟨w9, hw9⟩ : ∃ w9, wr = w9 := ⟨_, rfl⟩
      rw [hw9] at HY HB HE ⊢
      clear hw9
      go_wp2_with fail
      go_loopw [7] (fun i wr => ∃ j : Nat, j ≤ k ∧ i = .int .i64 j ∧ Blk wr (w.heap.size + 1) 23 (cl (backsW j z)) ∧ Blk wr w.heap.size 23 (cl x) ∧ Below w.heap.size w wr) (fun i _ => k - (intOf i).toNat)
      case atStart => exact ⟨0, Nat.zero_le _, rfl, HY.out, HB.out, HE.out⟩
      case round =>
        obtain ⟨j, hj, rfl, hy, hb, hbe⟩ := hrel
        have HB := Lib.hid hb; clear hb
        have HE := Lib.hid hbe; clear hbe
        by_cases hlt : j < k
        · have c0 := hy.cell 0
          have c1 := hy.cell 1
          have c2 := hy.cell 2
          have c3 := hy.cell 3
          have HY := Lib.hid hy; clear hy
          go_wp2_with fail
          refine (back_any _ _).mono ?_
          rintro e w1 ⟨rfl, b1⟩
          have hy1 := HY.out.below b1 HY.out.lt
          have f := fun i => hy1.frozen i
          have d0 := hy1.cell 0
          have d1 := hy1.cell 1
          have d2 := hy1.cell 2
          have d3 := hy1.cell 3
          have HY1 := Lib.hid hy1; clear hy1
          have HB1 := Lib.hid (HB.out.below b1 HB.out.lt)
          have HE1 := Lib.hid (HE.out.trans (b1.mono HE.out.size)); clear b1
          clear c0 c1 c2 c3
          go_wp2_with fail
          go_roundw
          case rel => exact ⟨j + 1, by omega, by go_num, HY1.out.set4 _ _ _ _, (((HB1.out.far (by simp) _).far (by simp) _).far (by simp) _).far (by simp) _, below_set4 HE1.out (by omega) _ _ _ _⟩
          case measure => simp [intOf]; omega
        · obtain rfl : j = k := by omega
          rw [show backsW j z = x by rw [← HZ.out]; exact backsW_turnsW j x] at hy
          have HY := Lib.hid hy; clear hy
          go_wp2_with fail
          refine (alive_mix _).mono ?_
          rintro e w1 ⟨rfl, b1⟩
          have hy1 := HY.out.below b1 HY.out.lt
          have hb1 := HB.out.below b1 HB.out.lt
          have c0 := hb1.cell 0
          have c1 := hb1.cell 1
          have c2 := hb1.cell 2
          have c3 := hb1.cell 3
          have d0 := hy1.cell 0
          have d1 := hy1.cell 1
          have d2 := hy1.cell 2
          have d3 := hy1.cell 3
          have HE1 := Lib.hid (HE.out.trans (b1.mono HE.out.size)); clear b1 hy1 hb1
          go_wp2_with fail
          go_ret
          exact ⟨rfl, HE1.out⟩

theorem mixOften_walk (z0 : List Int) (a1 : Int) (w : World) (l0 : z0.length = 4) (w0 : ∀ x ∈ z0, (Lit.int .u32 x).wf = true) (w1 : (Lit.int .u8 a1).wf = true) :
    Calls Try.prog 8 #[.agg (z0.map (Value.int .u32)).toArray, .int .u8 a1] w fun e w' => e = .returned (.bool true) ∧ Below w.heap.size w w' := by
  obtain ⟨x, hx⟩ := w4_of z0 l0 w0
  obtain ⟨h1, h2⟩ := u8_of_wf w1
  obtain ⟨n, rfl⟩ := Int.eq_ofNat_of_zero_le h1
  rw [hx]
  exact often_w x n (by omega) w
end Go.Proofs.Ythndfdnfaeioeaa

namespace Go.Proofs.Ythndfdnfaeioeaa.mixOften
open Go.ChangeShapes Go.WideShapes Go.ChangeAt Go.RowKit
set_option linter.unusedVariables false

theorem own : ownKnob Try.prog.godebug = none := by kernel_rfl
theorem laidOut : laidOutB Try.prog = true := by kernel_rfl

set_option maxRecDepth 100000 in
theorem lifted (os : Os) (started : os.Started) (H : Type) (enc : TypeId × Value → H) :
    ReturnsInHanded {} Try.checked os 8 .any (Rows.mixOftenSpec.pre6 enc Try.prog Try.f8 Rows.mixOftenRow.domain false) (Rows.mixOftenSpec.post enc Try.prog Try.f8 false true false false) := by
  refine returnsInHanded_of_change (C := Try.checked) own started (by kernel_rfl) Try.func8
    (ChangeSpec.witness6 (enc := enc) (C := Try.checked) false ⟨#[], #[.agg #[.int .u32 0, .int .u32 0, .int .u32 0, .int .u32 0], .int .u8 0], []⟩ 8 (by kernel_rfl) (by kernel_rfl) (by kernel_rfl) (by kernel_rfl)) ?_
  intro W base args ds gs before hval0 hW hcnd _
  have hval : ∀ (j : Nat) t v, Try.f8.params[j]? = some t → args[j]? = some v → Value.okWide Try.prog W .any base t v := hval0
  have hW' := hW
  obtain ⟨p, q, hA0, hV, rfl, hfz, hnd⟩ := hW
  have hA : DataW.TrodAll enc Try.prog W 0 (fun _ => true) true Try.f8.params.toList args.toList ds p := hA0
  rw [Try.params8] at hA hval
  obtain ⟨v0, vs0, d0, ds0, p0, q0, hargs, rfl, rfl, h0, r0⟩ := trodAll_cons hA
  obtain ⟨v1, vs1, d1, ds1, p1, q1, rfl, rfl, rfl, h1, r1⟩ := trodAll_cons r0
  obtain ⟨rfl, rfl, rfl⟩ := trodAll_nil r1
  obtain rfl : args = #[v0, v1] := by cases args; simp_all
  obtain ⟨rfl, rfl⟩ := trodVars_none hV
  have k0 := h0
  have lt0 : ∀ x ∈ p0, x.block < W.heap.size := by obtain ⟨m, hm⟩ := k0; exact DataW.trod_lt m _ _ _ hm
  obtain ⟨z0, rfl, l0, w0⟩ := open_ints_arr Try.underlying23 Try.underlying22 (by kernel_rfl) (by kernel_rfl) (hval 0 23 v0 rfl rfl) h0
  obtain ⟨a1, rfl, rfl, rfl, w1⟩ := open_int Try.underlying5 (hval 1 5 v1 rfl rfl) h1
  clear hA0 hval0
  refine (mixOften_walk z0 a1 W l0 w0 w1).mono fun e W' ⟨he, bel⟩ => ?_
  subst he
  exact ⟨_, rfl, _, _, _, [], _, [], hW', trodAll_mk1 (shut_bool Try.underlying4 _), (trodAll_cons_mk (Below.trod laidOut (by kernel_rfl) (of_decide_eq_true (by kernel_rfl)) k0 bel lt0) (trodAll_cons_mk (shut_int Try.underlying5 w1) trodAll_mk0)), rfl, bel.frame _, fun h => by cases h⟩

theorem over : Rows.mixOftenRow.holds Try.pinned (OpenSpec.ofChange Rows.mixOftenSpec) :=
  OpenClaim.holds_of_wide 8 Try.f8 rfl rfl rfl rfl rfl rfl rfl ⟨rfl, rfl, rfl, rfl, rfl⟩ rfl rfl rfl rfl rfl (by kernel_rfl) Try.func8 (by kernel_rfl)
    (of_decide_eq_true (by kernel_rfl)) (by unfold Func.isWrapper; first | (rw [if_pos (by decide +kernel)]; kernel_rfl) | (rw [if_neg (by decide +kernel)]; exact ⟨rfl, rfl⟩))
    (fun os started H enc _ => lifted os started H enc)

/-- The statement. -/
theorem proved : Rows.MixOftenSaid := over
end Go.Proofs.Ythndfdnfaeioeaa.mixOften
