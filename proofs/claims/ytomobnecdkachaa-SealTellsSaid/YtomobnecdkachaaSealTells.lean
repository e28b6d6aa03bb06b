/-
  SealTellsSaid: for any key, number, bytes and tag (where the key or the bytes have more than 10,000 bytes the law itself answers true) what Seal and Open answer, and their errors, are the document's own; the bytes stay. No condition.
-/
import Derived.Test.YtomobnecdkachaaRows
import Derived.Test.YtomobnecdkachaaSealRef
import Derived.Test.YtomobnecdkachaaArr
namespace Go.Proofs.Ytomobnecdkachaa
open Go.RowKit Go.Shelf
set_option maxRecDepth 100000

theorem tells_seal (a : Option Addr) (la ca : Nat) (k : List UInt8) (iv : Nat) (hiv : iv < 4294967296) (b : Option Addr) (lb cb : Nat) (s : List UInt8) : ∃ c t N x, ∀ W, Bsl W W.heap.size a la ca k → Bsl W W.heap.size b lb cb s →
    Calls Try.prog 7 #[.slice a la ca, .int .u32 iv, .slice b lb cb] W (OutT' c t N x W) ∧ Calls Try.prog 10 #[.slice a la ca, .int .u32 iv, .slice b lb cb] W (OutT' c t N x W) := by
  by_cases h : la = 16
  · subst h
    by_cases h1 : 256 < lb
    · exact ⟨3, 0, 0, [], fun W _ _ => ⟨(Seal_far a ca _ b lb cb h1 W).mono fun _ _ => OutT.outT', rSeal_far a ca _ b lb cb h1 W⟩⟩
    · exact ⟨0, _, lb, _, fun W hA hS => ⟨(Seal_ok a ca k iv hiv b lb cb s (by omega) W hA hS).mono fun _ _ => OutT.outT', rSeal_ok a ca k iv hiv b lb cb s (by omega) W hA hS⟩⟩
  · exact ⟨2, 0, 0, [], fun W _ _ => ⟨(Seal_key a la ca h _ _ W).mono fun _ _ => OutT.outT', rSeal_key a la ca h _ _ W⟩⟩
theorem tells_open (a : Option Addr) (la ca : Nat) (k : List UInt8) (iv : Nat) (hiv : iv < 4294967296) (b : Option Addr) (lb cb : Nat) (s : List UInt8) (t : BitVec 32) : ∃ c N x, ∀ W, Bsl W W.heap.size a la ca k → Bsl W W.heap.size b lb cb s →
    Calls Try.prog 8 #[.slice a la ca, .int .u32 iv, .slice b lb cb, .int .u32 (t.toNat : Int)] W (Out' c N x W) ∧ Calls Try.prog 11 #[.slice a la ca, .int .u32 iv, .slice b lb cb, .int .u32 (t.toNat : Int)] W (Out' c N x W) := by
  by_cases h : la = 16
  · subst h
    by_cases h1 : 256 < lb
    · exact ⟨3, 0, [], fun W _ _ => ⟨(Open_far a ca _ _ b lb cb h1 W).mono fun _ _ => Out.out', rOpen_far a ca _ _ b lb cb h1 W⟩⟩
    · by_cases h2 : sealW k iv s = t
      · subst h2
        exact ⟨0, lb, _, fun W hA hS => ⟨(Open_ok a ca k iv hiv b lb cb s (by omega) W hA hS).mono fun _ _ => Out.out', rOpen_ok a ca k iv hiv b lb cb s (by omega) W hA hS⟩⟩
      · exact ⟨131, 0, [], fun W hA hS => ⟨(Open_tag a ca k iv hiv b lb cb s (by omega) t h2 W hA hS).mono fun _ _ ⟨he, hb⟩ => ⟨none, 0, he, bsl_nil _, hb⟩, rOpen_tag a ca k iv hiv b lb cb s (by omega) t h2 W hA hS⟩⟩
  · exact ⟨2, 0, [], fun W _ _ => ⟨(Open_key a la ca h _ _ _ W).mono fun _ _ => Out.out', rOpen_key a la ca h _ _ _ W⟩⟩

theorem sealTells_far (a : Option Addr) (la ca : Nat) (u v : Value) (b : Option Addr) (lb cb : Nat) (w : World) (_ha : (la : Int) ≤ 9223372036854775807) (_hb : (lb : Int) ≤ 9223372036854775807) (h : (10000 : Int) < la ∨ ((la : Int) ≤ 10000 ∧ (10000 : Int) < lb)) :
    Calls Try.prog 4 #[.slice a la ca, u, .slice b lb cb, v] w fun e w' => e = .returned (.bool true) ∧ Below w.heap.size w w' := by
  have i1 : (0 : Int) ≤ la := by omega
  have i2 : (0 : Int) ≤ lb := by omega
  rcases h with h | ⟨h1, h⟩
  all_goals
    go_enter Try.func4, Try.ntmps4
    go_wp2_with fail
    go_ret
    exact ⟨rfl, Below.refl _ _⟩

set_option maxHeartbeats 8000000 in
theorem sealTells_near (a : Option Addr) (la ca : Nat) (k : List UInt8) (iv : Nat) (hiv : iv < 4294967296) (b : Option Addr) (lb cb : Nat) (s : List UInt8) (t : BitVec 32) (w : World) (hla : (la : Int) ≤ 10000) (hlb : (lb : Int) ≤ 10000) (hA : Bsl w w.heap.size a la ca k) (hB : Bsl w w.heap.size b lb cb s) :
    Calls Try.prog 4 #[.slice a la ca, .int .u32 iv, .slice b lb cb, .int .u32 (t.toNat : Int)] w fun e w' => e = .returned (.bool true) ∧ Below w.heap.size w w' := by
  have i1 : (0 : Int) ≤ la := by omega
  have i2 : (0 : Int) ≤ lb := by omega
  obtain ⟨c1, m1, N1, S1, t1⟩ := tells_seal a la ca k iv hiv b lb cb s
  obtain ⟨c2, N2, S2, t2⟩ := tells_open a la ca k iv hiv b lb cb s t
  have v1 := hB.conv
  have T1 := Lib.hid t1; clear t1
  have T2 := Lib.hid t2; clear t2
  have HA := Lib.hid hA; clear hA
  have HB := Lib.hid hB; clear hB
  go_enter Try.func4, Try.ntmps4
  go_wp2_with fail
  clear v1
  refine (T1.out w HA.out HB.out).1.mono ?_
  rintro e w1 ⟨a1, k1, rfl, h1, b1⟩
  have HA1 := Lib.hid (HA.out.step b1)
  have HB1 := Lib.hid (HB.out.step b1)
  have HX1 := Lib.hid h1; clear h1
  have HE1 := Lib.hid b1; clear b1 HA HB
  go_wp2_with fail
  refine (T1.out w1 HA1.out HB1.out).2.mono ?_
  rintro e w2 ⟨a2, k2, rfl, h2, b2⟩
  have HA2 := Lib.hid (HA1.out.step b2)
  have HB2 := Lib.hid (HB1.out.step b2)
  have HX2 := Lib.hid (HX1.out.step b2)
  have HY2 := Lib.hid h2; clear h2
  have HE2 := Lib.hid (HE1.out.trans (b2.mono HE1.out.size)); clear b2 HA1 HB1 HX1 HE1
  go_wp2_with fail
  refine (T2.out w2 HA2.out HB2.out).1.mono ?_
  rintro e w3 ⟨a3, k3, rfl, h3, b3⟩
  have HA3 := Lib.hid (HA2.out.step b3)
  have HB3 := Lib.hid (HB2.out.step b3)
  have HX3 := Lib.hid (HX2.out.step b3)
  have HY3 := Lib.hid (HY2.out.step b3)
  have HV3 := Lib.hid h3; clear h3
  have HE3 := Lib.hid (HE2.out.trans (b3.mono HE2.out.size)); clear b3 HA2 HB2 HX2 HY2 HE2
  go_wp2_with fail
  refine (T2.out w3 HA3.out HB3.out).2.mono ?_
  rintro e w4 ⟨a4, k4, rfl, h4, b4⟩
  have q3 := (HX3.out.step b4).conv
  have q4 := (HY3.out.step b4).conv
  have q5 := (HV3.out.step b4).conv
  have q6 := h4.conv
  have q7 := (HB3.out.step b4).conv
  have HE4 := Lib.hid (HE3.out.trans (b4.mono HE3.out.size)); clear b4 h4 HA3 HB3 HX3 HY3 HE3 HV3
  go_wp2_with fail
  go_ret
  exact ⟨rfl, HE4.out⟩
theorem sealTells_walk (a0 : Option Addr) (len0 cap0 : Nat) (s0 : List UInt8) (a1 : Int) (a2 : Option Addr) (len2 cap2 : Nat) (s2 : List UInt8) (a3 : Int) (w : World) (h0 : Bsl w w.heap.size a0 len0 cap0 s0) (w1 : (Lit.int .u32 a1).wf = true) (h2 : Bsl w w.heap.size a2 len2 cap2 s2) (w3 : (Lit.int .u32 a3).wf = true) :
    Calls Try.prog 4 #[.slice a0 len0 cap0, .int .u32 a1, .slice a2 len2 cap2, .int .u32 a3] w fun e w' => e = .returned (.bool true) ∧ Below w.heap.size w w' := by
  obtain ⟨g1, g2⟩ := u32_of_wf w1
  obtain ⟨iv, rfl⟩ := Int.eq_ofNat_of_zero_le g1
  obtain ⟨g3, g4⟩ := u32_of_wf w3
  obtain ⟨n, rfl⟩ := Int.eq_ofNat_of_zero_le g3
  obtain ⟨t, ht⟩ : ∃ t : BitVec 32, t.toNat = n := ⟨BitVec.ofNat 32 n, by rw [BitVec.toNat_ofNat]; omega⟩
  subst ht
  have hk : (len0 : Int) ≤ 9223372036854775807 := by have h5 := h0.2.1; have h4 := h0.2.2.1; unfold maxLen at h4; omega
  have hb : (len2 : Int) ≤ 9223372036854775807 := by have h5 := h2.2.1; have h4 := h2.2.2.1; unfold maxLen at h4; omega
  by_cases k : (len0 : Int) ≤ 10000 ∧ (len2 : Int) ≤ 10000
  · exact sealTells_near a0 len0 cap0 s0 iv (by omega) a2 len2 cap2 s2 t w k.1 k.2 h0 h2
  · exact sealTells_far a0 len0 cap0 _ _ a2 len2 cap2 w hk hb (by omega)
end Go.Proofs.Ytomobnecdkachaa

namespace Go.Proofs.Ytomobnecdkachaa.sealTells
open Go.ChangeShapes Go.WideShapes Go.ChangeAt Go.RowKit
set_option linter.unusedVariables false

theorem own : ownKnob Try.prog.godebug = none := by kernel_rfl
theorem laidOut : laidOutB Try.prog = true := by kernel_rfl

set_option maxRecDepth 100000 in
theorem lifted (os : Os) (started : os.Started) (H : Type) (enc : TypeId × Value → H) :
    ReturnsInHanded {} Try.checked os 4 .any (Rows.sealTellsSpec.pre6 enc Try.prog Try.f4 Rows.sealTellsRow.domain false) (Rows.sealTellsSpec.post enc Try.prog Try.f4 false true false false) := by
  refine returnsInHanded_of_change (C := Try.checked) own started (by kernel_rfl) Try.func4
    (ChangeSpec.witness6 (enc := enc) (C := Try.checked) false ⟨#[], #[.slice none 0 0, .int .u32 0, .slice none 0 0, .int .u32 0], []⟩ 8 (by kernel_rfl) (by kernel_rfl) (by kernel_rfl) (by kernel_rfl)) ?_
  intro W base args ds gs before hval0 hW hcnd _
  have hval : ∀ (j : Nat) t v, Try.f4.params[j]? = some t → args[j]? = some v → Value.okWide Try.prog W .any base t v := hval0
  have hW' := hW
  obtain ⟨p, q, hA0, hV, rfl, hfz, hnd⟩ := hW
  have hA : DataW.TrodAll enc Try.prog W 0 (fun _ => true) true Try.f4.params.toList args.toList ds p := hA0
  rw [Try.params4] at hA hval
  obtain ⟨v0, vs0, d0, ds0, p0, q0, hargs, rfl, rfl, h0, r0⟩ := trodAll_cons hA
  obtain ⟨v1, vs1, d1, ds1, p1, q1, rfl, rfl, rfl, h1, r1⟩ := trodAll_cons r0
  obtain ⟨v2, vs2, d2, ds2, p2, q2, rfl, rfl, rfl, h2, r2⟩ := trodAll_cons r1
  obtain ⟨v3, vs3, d3, ds3, p3, q3, rfl, rfl, rfl, h3, r3⟩ := trodAll_cons r2
  obtain ⟨rfl, rfl, rfl⟩ := trodAll_nil r3
  obtain rfl : args = #[v0, v1, v2, v3] := by cases args; simp_all
  obtain ⟨rfl, rfl⟩ := trodVars_none hV
  obtain ⟨a0, len0, cap0, rfl⟩ := okWide_slice Try.underlying22 (hval 0 22 v0 rfl rfl)
  have k0 := h0
  have lt0 : ∀ x ∈ p0, x.block < W.heap.size := by obtain ⟨m, hm⟩ := k0; exact DataW.trod_lt m _ _ _ hm
  obtain ⟨z0, w0⟩ : ∃ zs, IsRow .u8 W a0 len0 cap0 zs := by
    obtain ⟨fuel, hf⟩ := h0
    rcases open_ints Try.underlying22 Try.underlying5 (by kernel_rfl) hf with ⟨hcs, _⟩ | ⟨x, l, c, zs, hcs, _, hl, hm, hz, _, hcell, hwz⟩
    · simp [Value.cells] at hcs
      obtain ⟨rfl, rfl, rfl⟩ := hcs
      exact ⟨[], .inl ⟨rfl, rfl, rfl, rfl⟩⟩
    · simp [Value.cells] at hcs
      obtain ⟨rfl, rfl, rfl⟩ := hcs
      exact ⟨zs, .inr ⟨_, rfl, hl, hm, by simpa using hz, hcell, hwz⟩⟩
  obtain ⟨a1, rfl, rfl, rfl, w1⟩ := open_int Try.underlying23 (hval 1 23 v1 rfl rfl) h1
  obtain ⟨a2, len2, cap2, rfl⟩ := okWide_slice Try.underlying22 (hval 2 22 v2 rfl rfl)
  have k2 := h2
  have lt2 : ∀ x ∈ p2, x.block < W.heap.size := by obtain ⟨m, hm⟩ := k2; exact DataW.trod_lt m _ _ _ hm
  obtain ⟨z2, w2⟩ : ∃ zs, IsRow .u8 W a2 len2 cap2 zs := by
    obtain ⟨fuel, hf⟩ := h2
    rcases open_ints Try.underlying22 Try.underlying5 (by kernel_rfl) hf with ⟨hcs, _⟩ | ⟨x, l, c, zs, hcs, _, hl, hm, hz, _, hcell, hwz⟩
    · simp [Value.cells] at hcs
      obtain ⟨rfl, rfl, rfl⟩ := hcs
      exact ⟨[], .inl ⟨rfl, rfl, rfl, rfl⟩⟩
    · simp [Value.cells] at hcs
      obtain ⟨rfl, rfl, rfl⟩ := hcs
      exact ⟨zs, .inr ⟨_, rfl, hl, hm, by simpa using hz, hcell, hwz⟩⟩
  obtain ⟨a3, rfl, rfl, rfl, w3⟩ := open_int Try.underlying23 (hval 3 23 v3 rfl rfl) h3
  clear hA0 hval0
  refine (sealTells_walk a0 len0 cap0 _ a1 a2 len2 cap2 _ a3 W (bsl_of_row w0) w1 (bsl_of_row w2) w3).mono fun e W' ⟨he, bel⟩ => ?_
  subst he
  exact ⟨_, rfl, _, _, _, [], _, [], hW', trodAll_mk1 (shut_bool Try.underlying4 _), (trodAll_cons_mk (Below.trod laidOut (by kernel_rfl) (of_decide_eq_true (by kernel_rfl)) k0 bel lt0) (trodAll_cons_mk (shut_int Try.underlying23 w1) (trodAll_cons_mk (Below.trod laidOut (by kernel_rfl) (of_decide_eq_true (by kernel_rfl)) k2 bel lt2) (trodAll_cons_mk (shut_int Try.underlying23 w3) trodAll_mk0)))), rfl, bel.frame _, fun h => by cases h⟩

theorem over : Rows.sealTellsRow.holds Try.pinned (OpenSpec.ofChange Rows.sealTellsSpec) :=
  OpenClaim.holds_of_wide 4 Try.f4 rfl rfl rfl rfl rfl rfl rfl ⟨rfl, rfl, rfl, rfl, rfl⟩ rfl rfl rfl rfl rfl (by kernel_rfl) Try.func4 (by kernel_rfl)
    (of_decide_eq_true (by kernel_rfl)) (by unfold Func.isWrapper; first | (rw [if_pos (by decide +kernel)]; kernel_rfl) | (rw [if_neg (by decide +kernel)]; exact ⟨rfl, rfl⟩))
    (fun os started H enc _ => lifted os started H enc)

/-- The statement. -/
theorem proved : Rows.SealTellsSaid := over
end Go.Proofs.Ytomobnecdkachaa.sealTells
