/-
  MixPartsSaid: for any bytes (beyond 10,000 the law itself answers true), the sum is the first of the four words, and the key all of them, sixteen bytes, the lowest byte of each first. No condition.
-/
import Derived.Test.YthndfdnfaeioeaaRows
import Derived.Test.YthndfdnfaeioeaaHeld
import Derived.Deep.QuietTactic
import Derived.BigQuiet
namespace Go.Proofs.Ythndfdnfaeioeaa
open Go.RowKit Go.Shelf
set_option maxRecDepth 100000

theorem held1 {w W W1 : World} {g : Nat} {v0 : Value} (h : W.cell? ⟨g, 0, none⟩ = some v0 ∧ Below w.heap.size w W) (b : Below W.heap.size W W1) : W1.cell? ⟨g, 0, none⟩ = some v0 ∧ Below w.heap.size w W1 :=
  ⟨(b.cell (World.block_lt_of_cell? W _ h.1)).trans h.1, h.2.trans (b.mono h.2.size)⟩

theorem bytesW_get (x : W4) (j : Nat) (hj : j < 16) : ∃ v : Nat, v = (nthW x (j / 4)).toNat ∧ v < 4294967296 ∧ (bytesW x 4)[j]'(by rw [bytesW_length]; omega) = byteAt v (j % 4) := by
  refine ⟨_, rfl, (nthW x (j / 4)).isLt, ?_⟩
  have : j = 0 ∨ j = 1 ∨ j = 2 ∨ j = 3 ∨ j = 4 ∨ j = 5 ∨ j = 6 ∨ j = 7 ∨ j = 8 ∨ j = 9 ∨ j = 10 ∨ j = 11 ∨ j = 12 ∨ j = 13 ∨ j = 14 ∨ j = 15 := by omega
  rcases this with rfl | rfl | rfl | rfl | rfl | rfl | rfl | rfl | rfl | rfl | rfl | rfl | rfl | rfl | rfl | rfl <;> rfl
theorem cl_get (x : W4) (p : Nat) (hp : p < 4) : (cl x)[p]? = some (.int .u32 ((nthW x p).toNat : Int)) := by
  have : p = 0 ∨ p = 1 ∨ p = 2 ∨ p = 3 := by omega
  rcases this with rfl | rfl | rfl | rfl <;> rfl
theorem parts_far (a : Option Addr) (len cap : Nat) (w : World) (hl : (10000 : Int) < len) (_hm : (len : Int) ≤ 9223372036854775807) : Calls Try.prog 7 #[.slice a len cap] w fun e w' => e = .returned (.bool true) ∧ Below w.heap.size w w' := by
  go_enter Try.func7, Try.ntmps7
  go_wp2_with fail
  refine (alive_mix _).mono ?_
  rintro e w1 ⟨rfl, b1⟩
  have HB := Lib.hid b1; clear b1
  go_wp2_with fail
  go_ret
  exact ⟨rfl, HB.out⟩

set_option maxHeartbeats 4000000 in
theorem parts_near (a : Option Addr) (len cap : Nat) (s : List UInt8) (w : World) (hA : Bsl w w.heap.size a len cap s) (hl : (len : Int) ≤ 10000) : Calls Try.prog 7 #[.slice a len cap] w fun e w' => e = .returned (.bool true) ∧ Below w.heap.size w w' := by
  have i0 : (0 : Int) ≤ len := by omega
  have HA := Lib.hid hA; clear hA
  have HL : Hid (len ≤ 4294967295) := Lib.hid (by omega)
  obtain ⟨x, hx⟩ : ∃ x, fourW s = x := ⟨_, rfl⟩
  have HX := Lib.hid hx; clear hx
  go_enter Try.func7, Try.ntmps7
  go_wp2_with fail
  refine (alive_mix _).mono ?_
  rintro e w1 ⟨rfl, b1⟩
  have HB1 := Lib.hid b1; clear b1
  go_wp2_with fail
  refine (four_any a len cap s w1 ((HA.out.below HB1.out).more HB1.out.size) HL.out).mono ?_
  rintro e w2 ⟨rfl, b2⟩
  rw [HX.out]
  have HB2 := Lib.hid (HB1.out.trans (b2.mono HB1.out.size)); clear b2
  go_wp2_with fail
  obtain ⟨w3, hw3⟩ : ∃ w3, w2.alloc (.cells (cl x) 23) = w3 := ⟨_, rfl⟩
  obtain ⟨g, hg⟩ : ∃ g, w2.heap.size = g := ⟨_, rfl⟩
  have hb3 : Blk w3 g 23 (cl x) := by rw [← hw3, ← hg]; exact Blk.new w2 _ _
  have hB3 : Below w.heap.size w w3 := by rw [← hw3]; exact HB2.out.alloc HB2.out.size _
  rw [hw3, hg]
  have HB3 := Lib.hid hb3; clear hb3
  have HBe3 := Lib.hid hB3; clear hB3 hw3 hg
  refine (key_any a len cap s w3 ((HA.out.below HBe3.out).more HBe3.out.size) HL.out).mono ?_
  rintro e w4 ⟨g', cap', rfl, hg1, hg2, hg3, hg4, hh, b4⟩
  rw [HX.out] at hh
  have hb4 := HB3.out.below b4 HB3.out.lt
  have hB4 := HBe3.out.trans (b4.mono HBe3.out.size)
  have HH := Lib.hid hh; clear hh
  have HB4 := Lib.hid hb4; clear hb4
  have HBe4 := Lib.hid hB4; clear hB4 b4
  have sm : ∀ W, Below w.heap.size w W → Calls Try.prog 13 #[.slice a len cap] W fun e W' => e = .returned (.int .u32 (x.a.toNat : Int)) ∧ Below W.heap.size W W' := fun W hW => by
    have := sum_any a len cap s W ((HA.out.below hW).more hW.size) HL.out
    rwa [HX.out] at this
  have SM := Lib.hid sm; clear sm
  have h0 : w4.drew.cell? ⟨g, 0, none⟩ = some (.int .u32 (x.a.toNat : Int)) ∧ Below w4.heap.size w4 w4.drew := ⟨HB4.out.cell 0, (Below.refl _ _).drew⟩
  go_wp2_with fail
  go_region_held3 (fun W => W.cell? ⟨g, 0, none⟩ = some (.int .u32 (x.a.toNat : Int)) ∧ Below w4.heap.size w4 W) (assumption)
    (first | (go_at_call 13; refine (SM.out _ ?_).mono ?_; exact HBe4.out.trans (Below.mono (And.right (by assumption)) HBe4.out.size); rintro e w1 ⟨rfl, b1⟩; have hk := held1 (by assumption) b1; clear b1))
  have hb5 : Below w4.heap.size w4 w1 := And.right (by assumption)
  rename_i hHeld
  clear hk hHeld
  have HB5 := Lib.hid (HB4.out.below hb5 HB4.out.lt)
  have HH5 := Lib.hid (HH.out.below hb5 hg2)
  have HBe5 := Lib.hid (HBe4.out.trans (hb5.mono HBe4.out.size)); clear hb5 h0
  go_wp2_with fail
  go_loopw [6] (fun i wr => ∃ j : Nat, j ≤ 16 ∧ i = .int .i64 j ∧ ∃ n, wr = w1.drewN n) (fun i _ => 16 - (intOf i).toNat)
  case atStart => exact ⟨0, Nat.zero_le _, rfl, 0, rfl⟩
  case round =>
    obtain ⟨j, hj, rfl, n, rfl⟩ := hrel
    by_cases hlt : j < 16
    · obtain ⟨v, hv, hvl, hby⟩ := bytesW_get x j hlt
      have ck := (HH5.out.drewN n) j (by rw [bytesW_length]; omega)
      rw [hby, byteAt_toNat] at ck
      obtain ⟨p, hp⟩ : ∃ p, j / 4 = p := ⟨_, rfl⟩
      have cx := (HB5.out.drewN n).cell p
      rw [cl_get x p (by omega)] at cx
      rw [hp] at hv
      rw [← hv] at cx
      have d0 : (0 : Int) ≤ j := by omega
      have d1 : (j : Int) < 16 := by omega
      have d2 : (j : Int).tdiv 4 = (p : Int) := by rw [Int.tdiv_eq_ediv_of_nonneg (by omega)]; omega
      have d3 : (p : Int) < 4 := by omega
      have d4 : (0 : Int) ≤ (p : Int) := by omega
      have v0 : (0 : Int) ≤ v := by omega
      have v1 : (v : Int) ≤ 4294967295 := by omega
      clear hby hv
      have HP := Lib.hid hp; clear hp
      have HVL := Lib.hid hvl; clear hvl
      obtain ⟨q, hq⟩ : ∃ q, j % 4 = q := ⟨_, rfl⟩
      rw [hq] at ck
      have d5 : (j : Int).tmod 4 = (q : Int) := by rw [Int.tmod_eq_emod_of_nonneg (by omega)]; omega
      have hq4 : q = 0 ∨ q = 1 ∨ q = 2 ∨ q = 3 := by omega
      have HQ := Lib.hid hq; clear hq
      obtain ⟨wr, hwr⟩ : ∃ wr, w1.drewN n = wr := ⟨_, rfl⟩
      rw [hwr] at ck cx ⊢
      have HW := Lib.hid hwr; clear hwr
      rcases hq4 with rfl | rfl | rfl | rfl
      all_goals
        go_wp2_with fail
        go_quiet (fail)
        go_wp2
        go_roundw
        case rel => exact ⟨j + 1, by omega, by go_num, n + nq, by rw [← HW.out, World.drewN_drewN]⟩
        case measure => simp [intOf]; omega
    · obtain rfl : j = 16 := by omega
      go_wp2_with fail
      go_ret
      exact ⟨rfl, below_drewN HBe5.out _⟩

theorem mixParts_walk (a0 : Option Addr) (len0 cap0 : Nat) (s0 : List UInt8) (w : World) (h0 : Bsl w w.heap.size a0 len0 cap0 s0) :
    Calls Try.prog 7 #[.slice a0 len0 cap0] w fun e w' => e = .returned (.bool true) ∧ Below w.heap.size w w' := by
  by_cases hl : (10000 : Int) < len0
  · refine parts_far a0 len0 cap0 w hl ?_
    have h1 := h0.2.1
    have h2 := h0.2.2.1
    unfold maxLen at h2
    omega
  · exact parts_near a0 len0 cap0 s0 w h0 (by omega)
end Go.Proofs.Ythndfdnfaeioeaa

namespace Go.Proofs.Ythndfdnfaeioeaa.mixParts
open Go.ChangeShapes Go.WideShapes Go.ChangeAt Go.RowKit
set_option linter.unusedVariables false

theorem own : ownKnob Try.prog.godebug = none := by kernel_rfl
theorem laidOut : laidOutB Try.prog = true := by kernel_rfl

set_option maxRecDepth 100000 in
theorem lifted (os : Os) (started : os.Started) (H : Type) (enc : TypeId × Value → H) :
    ReturnsInHanded {} Try.checked os 7 .any (Rows.mixPartsSpec.pre6 enc Try.prog Try.f7 Rows.mixPartsRow.domain false) (Rows.mixPartsSpec.post enc Try.prog Try.f7 false true false false) := by
  refine returnsInHanded_of_change (C := Try.checked) own started (by kernel_rfl) Try.func7
    (ChangeSpec.witness6 (enc := enc) (C := Try.checked) false ⟨#[], #[.slice none 0 0], []⟩ 8 (by kernel_rfl) (by kernel_rfl) (by kernel_rfl) (by kernel_rfl)) ?_
  intro W base args ds gs before hval0 hW hcnd _
  have hval : ∀ (j : Nat) t v, Try.f7.params[j]? = some t → args[j]? = some v → Value.okWide Try.prog W .any base t v := hval0
  have hW' := hW
  obtain ⟨p, q, hA0, hV, rfl, hfz, hnd⟩ := hW
  have hA : DataW.TrodAll enc Try.prog W 0 (fun _ => true) true Try.f7.params.toList args.toList ds p := hA0
  rw [Try.params7] at hA hval
  obtain ⟨v0, vs0, d0, ds0, p0, q0, hargs, rfl, rfl, h0, r0⟩ := trodAll_cons hA
  obtain ⟨rfl, rfl, rfl⟩ := trodAll_nil r0
  obtain rfl : args = #[v0] := by cases args; simp_all
  obtain ⟨rfl, rfl⟩ := trodVars_none hV
  obtain ⟨a0, len0, cap0, rfl⟩ := okWide_slice Try.underlying25 (hval 0 25 v0 rfl rfl)
  have k0 := h0
  have lt0 : ∀ x ∈ p0, x.block < W.heap.size := by obtain ⟨m, hm⟩ := k0; exact DataW.trod_lt m _ _ _ hm
  obtain ⟨z0, w0⟩ : ∃ zs, IsRow .u8 W a0 len0 cap0 zs := by
    obtain ⟨fuel, hf⟩ := h0
    rcases open_ints Try.underlying25 Try.underlying5 (by kernel_rfl) hf with ⟨hcs, _⟩ | ⟨x, l, c, zs, hcs, _, hl, hm, hz, _, hcell, hwz⟩
    · simp [Value.cells] at hcs
      obtain ⟨rfl, rfl, rfl⟩ := hcs
      exact ⟨[], .inl ⟨rfl, rfl, rfl, rfl⟩⟩
    · simp [Value.cells] at hcs
      obtain ⟨rfl, rfl, rfl⟩ := hcs
      exact ⟨zs, .inr ⟨_, rfl, hl, hm, by simpa using hz, hcell, hwz⟩⟩
  clear hA0 hval0
  refine (mixParts_walk a0 len0 cap0 _ W (bsl_of_row w0)).mono fun e W' ⟨he, bel⟩ => ?_
  subst he
  exact ⟨_, rfl, _, _, _, [], _, [], hW', trodAll_mk1 (shut_bool Try.underlying4 _), (trodAll_cons_mk (Below.trod laidOut (by kernel_rfl) (of_decide_eq_true (by kernel_rfl)) k0 bel lt0) trodAll_mk0), rfl, bel.frame _, fun h => by cases h⟩

theorem over : Rows.mixPartsRow.holds Try.pinned (OpenSpec.ofChange Rows.mixPartsSpec) :=
  OpenClaim.holds_of_wide 7 Try.f7 rfl rfl rfl rfl rfl rfl rfl ⟨rfl, rfl, rfl, rfl, rfl⟩ rfl rfl rfl rfl rfl (by kernel_rfl) Try.func7 (by kernel_rfl)
    (of_decide_eq_true (by kernel_rfl)) (by unfold Func.isWrapper; first | (rw [if_pos (by decide +kernel)]; kernel_rfl) | (rw [if_neg (by decide +kernel)]; exact ⟨rfl, rfl⟩))
    (fun os started H enc _ => lifted os started H enc)

/-- The statement. -/
theorem proved : Rows.MixPartsSaid := over
end Go.Proofs.Ythndfdnfaeioeaa.mixParts
