/-
  WrapTellsSaid: for any passphrase, key, salt and bytes (beyond 10,000 bytes the law itself answers true) what Stretch, Wrap and Unwrap answer, and their errors, are the document's own; the key and the bytes stay. No condition.
-/
import Derived.Test.YtmlmgnifgcbehaaRows
import Derived.Test.YtmlmgnifgcbehaaWrapRefC
import Derived.Test.YtmlmgnifgcbehaaArr
import Derived.ChangeMaps5
namespace Go.Proofs.Ytmlmgnifgcbehaa
open Go.RowKit Go.Shelf
set_option maxRecDepth 100000

theorem tells_stretch (p : ByteArray) (hp : p.size ≤ 10000) (n : Nat) (hn : n < 4294967296) : ∃ S c, ∀ W, Calls Try.prog 11 #[.string p, .int .u32 n] W (Out S c W) ∧ Calls Try.prog 12 #[.string p, .int .u32 n] W (Out S c W) := by
  by_cases h : 64 < p.size
  · exact ⟨[], 3, fun W => ⟨(wStretch_bad p (by omega) (by omega) _ W).mono fun _ _ => out_err, (rStretch_bad p (by omega) (by omega) _ W).mono fun _ _ => out_err⟩⟩
  · exact ⟨_, 0, fun W => ⟨(wStretch_ok p (by omega) n hn W).mono fun _ _ => out_ok, (rStretch_ok p (by omega) n hn W).mono fun _ _ => out_ok⟩⟩
theorem tells_wrap (p : ByteArray) (hp : p.size ≤ 10000) (a : Option Addr) (len cap : Nat) (k : List UInt8) (n : Nat) (hn : n < 4294967296) : ∃ S c, ∀ W, Bsl W W.heap.size a len cap k →
    Calls Try.prog 8 #[.string p, .slice a len cap, .int .u32 n] W (Out S c W) ∧ Calls Try.prog 13 #[.string p, .slice a len cap, .int .u32 n] W (Out S c W) := by
  by_cases h : 64 < p.size
  · exact ⟨[], 3, fun W _ => ⟨(wWrap_pass p (by omega) (by omega) _ _ W).mono fun _ _ => out_err, (rWrap_pass p (by omega) (by omega) _ _ W).mono fun _ _ => out_err⟩⟩
  · by_cases h2 : len = 16
    · subst h2
      exact ⟨_, 0, fun W hA => ⟨(wWrap_ok p (by omega) a cap k n hn W hA).mono fun _ _ => out_ok, (rWrap_ok p (by omega) a cap k n hn W hA).mono fun _ _ => out_ok⟩⟩
    · exact ⟨[], 2, fun W _ => ⟨(wWrap_key p (by omega) a len cap h2 _ W).mono fun _ _ => out_err, (rWrap_key p (by omega) a len cap h2 _ W).mono fun _ _ => out_err⟩⟩
theorem tells_unwrap (p : ByteArray) (hp : p.size ≤ 10000) (a : Option Addr) (len cap : Nat) (s : List UInt8) : ∃ S c, ∀ W, Bsl W W.heap.size a len cap s →
    Calls Try.prog 9 #[.string p, .slice a len cap] W (Out S c W) ∧ Calls Try.prog 14 #[.string p, .slice a len cap] W (Out S c W) := by
  by_cases h : 64 < p.size
  · exact ⟨[], 3, fun W _ => ⟨(wUnwrap_pass p (by omega) (by omega) _ W).mono fun _ _ => out_err, (rUnwrap_pass p (by omega) (by omega) _ W).mono fun _ _ => out_err⟩⟩
  · by_cases h2 : len = 24
    · subst h2
      cases hr : decide (s.drop 20 = tagL (stOf (strB p) s) (s.take 20)) with
      | true => exact ⟨_, 0, fun W hA => ⟨(wUnwrap_fit p (by omega) a cap s true hr W hA).mono fun _ _ h => out_ok (h.1 rfl), (rUnwrap_fit p (by omega) a cap s true hr W hA).mono fun _ _ h => out_ok (h.1 rfl)⟩⟩
      | false => exact ⟨[], 201, fun W hA => ⟨(wUnwrap_fit p (by omega) a cap s false hr W hA).mono fun _ _ h => out_err (h.2 rfl), (rUnwrap_fit p (by omega) a cap s false hr W hA).mono fun _ _ h => out_err (h.2 rfl)⟩⟩
    · exact ⟨[], 8, fun W _ => ⟨(wUnwrap_len p (by omega) a len cap h2 W).mono fun _ _ => out_err, (rUnwrap_len p (by omega) a len cap h2 W).mono fun _ _ => out_err⟩⟩

theorem wrapTells_far (p : ByteArray) (a : Option Addr) (la ca : Nat) (b : Option Addr) (lb cb : Nat) (v : Value) (w : World) (_hp : (p.size : Int) ≤ 9223372036854775807) (_ha : (la : Int) ≤ 9223372036854775807) (_hb : (lb : Int) ≤ 9223372036854775807)
    (h : (10000 : Int) < p.size ∨ ((p.size : Int) ≤ 10000 ∧ (10000 : Int) < la) ∨ ((p.size : Int) ≤ 10000 ∧ (la : Int) ≤ 10000 ∧ (10000 : Int) < lb)) :
    Calls Try.prog 4 #[.string p, .slice a la ca, v, .slice b lb cb] w fun e w' => e = .returned (.bool true) ∧ Below w.heap.size w w' := by
  have i0 : (0 : Int) ≤ p.size := by omega
  have i1 : (0 : Int) ≤ la := by omega
  have i2 : (0 : Int) ≤ lb := by omega
  rcases h with h | ⟨h1, h⟩ | ⟨h1, h2, h⟩
  all_goals
    go_enter Try.func4, Try.ntmps4
    go_wp2_with fail
    go_ret
    exact ⟨rfl, Below.refl _ _⟩

set_option maxHeartbeats 8000000 in
theorem wrapTells_near (p : ByteArray) (a : Option Addr) (la ca : Nat) (s : List UInt8) (n : Nat) (hn : n < 4294967296) (b : Option Addr) (lb cb : Nat) (t : List UInt8) (w : World) (hp : (p.size : Int) ≤ 10000) (hla : (la : Int) ≤ 10000) (hlb : (lb : Int) ≤ 10000) (hA : Bsl w w.heap.size a la ca s) (hB : Bsl w w.heap.size b lb cb t) :
    Calls Try.prog 4 #[.string p, .slice a la ca, .int .u32 n, .slice b lb cb] w fun e w' => e = .returned (.bool true) ∧ Below w.heap.size w w' := by
  have i0 : (0 : Int) ≤ p.size := by omega
  have i1 : (0 : Int) ≤ la := by omega
  have i2 : (0 : Int) ≤ lb := by omega
  obtain ⟨S1, c1, t1⟩ := tells_stretch p (by omega) n hn
  obtain ⟨S2, c2, t2⟩ := tells_wrap p (by omega) a la ca s n hn
  obtain ⟨S3, c3, t3⟩ := tells_unwrap p (by omega) b lb cb t
  have v1 := hA.conv
  have v2 := hB.conv
  have T1 := Lib.hid t1; clear t1
  have T2 := Lib.hid t2; clear t2
  have T3 := Lib.hid t3; clear t3
  have HA := Lib.hid hA; clear hA
  have HB := Lib.hid hB; clear hB
  go_enter Try.func4, Try.ntmps4
  go_wp2_with fail
  clear v1 v2
  refine (T1.out w).1.mono ?_
  rintro e w1 ⟨a1, l1, k1, rfl, h1, b1⟩
  have HA1 := Lib.hid (HA.out.step b1)
  have HB1 := Lib.hid (HB.out.step b1)
  have HX1 := Lib.hid h1; clear h1
  have HE1 := Lib.hid b1; clear b1 HA HB
  go_wp2_with fail
  refine (T1.out w1).2.mono ?_
  rintro e w2 ⟨a2, l2, k2, rfl, h2, b2⟩
  have HA2 := Lib.hid (HA1.out.step b2)
  have HB2 := Lib.hid (HB1.out.step b2)
  have HX2 := Lib.hid (HX1.out.step b2)
  have HY2 := Lib.hid h2; clear h2
  have HE2 := Lib.hid (HE1.out.trans (b2.mono HE1.out.size)); clear b2 HA1 HB1 HX1 HE1
  go_wp2_with fail
  refine (T2.out w2 HA2.out).1.mono ?_
  rintro e w3 ⟨a3, l3, k3, rfl, h3, b3⟩
  have HA3 := Lib.hid (HA2.out.step b3)
  have HB3 := Lib.hid (HB2.out.step b3)
  have HX3 := Lib.hid (HX2.out.step b3)
  have HY3 := Lib.hid (HY2.out.step b3)
  have HZ3 := Lib.hid h3; clear h3
  have HE3 := Lib.hid (HE2.out.trans (b3.mono HE2.out.size)); clear b3 HA2 HB2 HX2 HY2 HE2
  go_wp2_with fail
  refine (T2.out w3 HA3.out).2.mono ?_
  rintro e w4 ⟨a4, l4, k4, rfl, h4, b4⟩
  have HA4 := Lib.hid (HA3.out.step b4)
  have HB4 := Lib.hid (HB3.out.step b4)
  have HX4 := Lib.hid (HX3.out.step b4)
  have HY4 := Lib.hid (HY3.out.step b4)
  have HZ4 := Lib.hid (HZ3.out.step b4)
  have HU4 := Lib.hid h4; clear h4
  have HE4 := Lib.hid (HE3.out.trans (b4.mono HE3.out.size)); clear b4 HA3 HB3 HX3 HY3 HZ3 HE3
  go_wp2_with fail
  refine (T3.out w4 HB4.out).1.mono ?_
  rintro e w5 ⟨a5, l5, k5, rfl, h5, b5⟩
  have HA5 := Lib.hid (HA4.out.step b5)
  have HB5 := Lib.hid (HB4.out.step b5)
  have HX5 := Lib.hid (HX4.out.step b5)
  have HY5 := Lib.hid (HY4.out.step b5)
  have HZ5 := Lib.hid (HZ4.out.step b5)
  have HU5 := Lib.hid (HU4.out.step b5)
  have HV5 := Lib.hid h5; clear h5
  have HE5 := Lib.hid (HE4.out.trans (b5.mono HE4.out.size)); clear b5 HA4 HB4 HX4 HY4 HZ4 HU4 HE4
  go_wp2_with fail
  refine (T3.out w5 HB5.out).2.mono ?_
  rintro e w6 ⟨a6, l6, k6, rfl, h6, b6⟩
  have q1 := (HA5.out.step b6).conv
  have q2 := (HB5.out.step b6).conv
  have q3 := (HX5.out.step b6).conv
  have q4 := (HY5.out.step b6).conv
  have q5 := (HZ5.out.step b6).conv
  have q6 := (HU5.out.step b6).conv
  have q7 := (HV5.out.step b6).conv
  have q8 := h6.conv
  have HE6 := Lib.hid (HE5.out.trans (b6.mono HE5.out.size)); clear b6 h6 HA5 HB5 HX5 HY5 HZ5 HU5 HV5 HE5
  go_wp2_with fail
  go_ret
  exact ⟨rfl, HE6.out⟩
theorem wrapTells_walk (p : ByteArray) (a : Option Addr) (la ca : Nat) (s : List UInt8) (z : Int) (b : Option Addr) (lb cb : Nat) (t : List UInt8) (w : World) (hp : p.size ≤ maxLen) (hA : Bsl w w.heap.size a la ca s) (hz : (Lit.int .u32 z).wf = true) (hB : Bsl w w.heap.size b lb cb t) :
    Calls Try.prog 4 #[.string p, .slice a la ca, .int .u32 z, .slice b lb cb] w fun e w' => e = .returned (.bool true) ∧ Below w.heap.size w w' := by
  obtain ⟨h1, h2⟩ := u32_of_wf hz
  obtain ⟨n, rfl⟩ := Int.eq_ofNat_of_zero_le h1
  have hm : (p.size : Int) ≤ 9223372036854775807 := by unfold maxLen at hp; omega
  have ha : (la : Int) ≤ 9223372036854775807 := by have h3 := hA.2.1; have h4 := hA.2.2.1; unfold maxLen at h4; omega
  have hb : (lb : Int) ≤ 9223372036854775807 := by have h3 := hB.2.1; have h4 := hB.2.2.1; unfold maxLen at h4; omega
  by_cases k : (p.size : Int) ≤ 10000 ∧ (la : Int) ≤ 10000 ∧ (lb : Int) ≤ 10000
  · exact wrapTells_near p a la ca s n (by omega) b lb cb t w k.1 k.2.1 k.2.2 hA hB
  · exact wrapTells_far p a la ca b lb cb _ w hm ha hb (by omega)
end Go.Proofs.Ytmlmgnifgcbehaa

namespace Go.Proofs.Ytmlmgnifgcbehaa.wrapTells
open Go.ChangeShapes Go.WideShapes Go.ChangeAt Go.RowKit
open Go.ChangeMaps (open_string shut_string)
set_option linter.unusedVariables false

theorem own : ownKnob Try.prog.godebug = none := by kernel_rfl
theorem laidOut : laidOutB Try.prog = true := by kernel_rfl

set_option maxRecDepth 100000 in
theorem lifted (os : Os) (started : os.Started) (H : Type) (enc : TypeId × Value → H) :
    ReturnsInHanded {} Try.checked os 4 .any (Rows.wrapTellsSpec.pre6 enc Try.prog Try.f4 Rows.wrapTellsRow.domain false) (Rows.wrapTellsSpec.post enc Try.prog Try.f4 false true false false) := by
  refine returnsInHanded_of_change (C := Try.checked) own started (by kernel_rfl) Try.func4
    (ChangeSpec.witness6 (enc := enc) (C := Try.checked) false ⟨#[], #[.string ⟨#[]⟩, .slice none 0 0, .int .u32 0, .slice none 0 0], []⟩ 8 (by kernel_rfl) (by kernel_rfl) (by kernel_rfl) (by kernel_rfl)) ?_
  intro W base args ds gs before hval0 hW hcnd _
  have hval : ∀ (j : Nat) t v, Try.f4.params[j]? = some t → args[j]? = some v → Value.okWide Try.prog W .any base t v := hval0
  have hW' := hW
  obtain ⟨p, q, hA0, hV, rfl, hfz, hnd⟩ := hW
  have hA : DataW.TrodAll enc Try.prog W 0 (fun _ => true) true Try.f4.params.toList args.toList ds p := hA0
  rw [Try.params4] at hA hval
  obtain ⟨v0, vs0, d0, ds0, p0, q0, hargs, rfl, rfl, h0, r0⟩ := trodAll_cons hA
  obtain ⟨v1, vs1, d1, ds1, p1, q1, rfl, rfl, rfl, h1, r1⟩ := trodAll_cons r0
  obtain ⟨v2, vs2, d2, ds2, p2, q2, rfl, rfl, rfl, h2, r2⟩ := trodAll_cons r1
  obtain ⟨v3, vs3, d3, ds3, p3, q3, rfl, rfl, rfl, h3, r3⟩ := trodAll_cons r2
  obtain ⟨rfl, rfl, rfl⟩ := trodAll_nil r3
  obtain rfl : args = #[v0, v1, v2, v3] := by cases args; simp_all
  obtain ⟨rfl, rfl⟩ := trodVars_none hV
  obtain ⟨s0, rfl, rfl, rfl, w0⟩ := open_string Try.underlying9 (hval 0 9 v0 rfl rfl) h0
  obtain ⟨a1, len1, cap1, rfl⟩ := okWide_slice Try.underlying22 (hval 1 22 v1 rfl rfl)
  have k1 := h1
  have lt1 : ∀ x ∈ p1, x.block < W.heap.size := by obtain ⟨m, hm⟩ := k1; exact DataW.trod_lt m _ _ _ hm
  obtain ⟨z1, w1⟩ : ∃ zs, IsRow .u8 W a1 len1 cap1 zs := by
    obtain ⟨fuel, hf⟩ := h1
    rcases open_ints Try.underlying22 Try.underlying5 (by kernel_rfl) hf with ⟨hcs, _⟩ | ⟨x, l, c, zs, hcs, _, hl, hm, hz, _, hcell, hwz⟩
    · simp [Value.cells] at hcs
      obtain ⟨rfl, rfl, rfl⟩ := hcs
      exact ⟨[], .inl ⟨rfl, rfl, rfl, rfl⟩⟩
    · simp [Value.cells] at hcs
      obtain ⟨rfl, rfl, rfl⟩ := hcs
      exact ⟨zs, .inr ⟨_, rfl, hl, hm, by simpa using hz, hcell, hwz⟩⟩
  obtain ⟨a2, rfl, rfl, rfl, w2⟩ := open_int Try.underlying26 (hval 2 26 v2 rfl rfl) h2
  obtain ⟨a3, len3, cap3, rfl⟩ := okWide_slice Try.underlying22 (hval 3 22 v3 rfl rfl)
  have k3 := h3
  have lt3 : ∀ x ∈ p3, x.block < W.heap.size := by obtain ⟨m, hm⟩ := k3; exact DataW.trod_lt m _ _ _ hm
  obtain ⟨z3, w3⟩ : ∃ zs, IsRow .u8 W a3 len3 cap3 zs := by
    obtain ⟨fuel, hf⟩ := h3
    rcases open_ints Try.underlying22 Try.underlying5 (by kernel_rfl) hf with ⟨hcs, _⟩ | ⟨x, l, c, zs, hcs, _, hl, hm, hz, _, hcell, hwz⟩
    · simp [Value.cells] at hcs
      obtain ⟨rfl, rfl, rfl⟩ := hcs
      exact ⟨[], .inl ⟨rfl, rfl, rfl, rfl⟩⟩
    · simp [Value.cells] at hcs
      obtain ⟨rfl, rfl, rfl⟩ := hcs
      exact ⟨zs, .inr ⟨_, rfl, hl, hm, by simpa using hz, hcell, hwz⟩⟩
  clear hA0 hval0
  refine (wrapTells_walk s0 a1 len1 cap1 _ a2 a3 len3 cap3 _ W w0 (bsl_of_row w1) w2 (bsl_of_row w3)).mono fun e W' ⟨he, bel⟩ => ?_
  subst he
  exact ⟨_, rfl, _, _, _, [], _, [], hW', trodAll_mk1 (shut_bool Try.underlying4 _), (trodAll_cons_mk (shut_string Try.underlying9 w0) (trodAll_cons_mk (Below.trod laidOut (by kernel_rfl) (of_decide_eq_true (by kernel_rfl)) k1 bel lt1) (trodAll_cons_mk (shut_int Try.underlying26 w2) (trodAll_cons_mk (Below.trod laidOut (by kernel_rfl) (of_decide_eq_true (by kernel_rfl)) k3 bel lt3) trodAll_mk0)))), rfl, bel.frame _, fun h => by cases h⟩

theorem over : Rows.wrapTellsRow.holds Try.pinned (OpenSpec.ofChange Rows.wrapTellsSpec) :=
  OpenClaim.holds_of_wide 4 Try.f4 rfl rfl rfl rfl rfl rfl rfl ⟨rfl, rfl, rfl, rfl, rfl⟩ rfl rfl rfl rfl rfl (by kernel_rfl) Try.func4 (by kernel_rfl)
    (of_decide_eq_true (by kernel_rfl)) (by unfold Func.isWrapper; first | (rw [if_pos (by decide +kernel)]; kernel_rfl) | (rw [if_neg (by decide +kernel)]; exact ⟨rfl, rfl⟩))
    (fun os started H enc _ => lifted os started H enc)

/-- The statement. -/
theorem proved : Rows.WrapTellsSaid := over
end Go.Proofs.Ytmlmgnifgcbehaa.wrapTells
