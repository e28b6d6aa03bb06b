/-
  SealBackSaid: for any key, number, bytes and tag (where the key or the bytes have more than 10,000 bytes the law itself answers what its example answers): what is sealed is opened, and by no other tag; what is opened is sealed as just these bytes, with just this tag. No condition.
-/
import Derived.Test.YtomobnecdkachaaRows
import Derived.Test.YtomobnecdkachaaSealAll
import Derived.Test.YtomobnecdkachaaArr
namespace Go.Proofs.Ytomobnecdkachaa
open Go.RowKit Go.Shelf
set_option maxRecDepth 100000

theorem sealBack_far (k : Option Addr) (lk ck : Nat) (u v : Value) (b : Option Addr) (lb cb : Nat) (w : World) (_hk : (lk : Int) ≤ 9223372036854775807) (_hb : (lb : Int) ≤ 9223372036854775807)
    (h : (10000 : Int) < lk ∨ ((lk : Int) ≤ 10000 ∧ (10000 : Int) < lb)) :
    Calls Try.prog 5 #[.slice k lk ck, u, .slice b lb cb, v] w fun e w' => e = .returned (.bool true) ∧ Below w.heap.size w w' := by
  have i0 : (0 : Int) ≤ lk := by omega
  have i1 : (0 : Int) ≤ lb := by omega
  rcases h with h | ⟨h1, h⟩
  all_goals
    go_enter Try.func5, Try.ntmps5
    go_wp2_with fail
    refine (alive_seal _).mono ?_
    rintro e w1 ⟨rfl, b1⟩
    have HB1 := Lib.hid b1; clear b1
    go_wp2_with fail
    go_ret
    exact ⟨rfl, HB1.out⟩

set_option maxHeartbeats 4000000 in
theorem sealBack_bad (A : Option Addr) (lk ck : Nat) (iv : Nat) (b : Option Addr) (lb cb : Nat) (v : Value) (w : World)
    (hlk : (lk : Int) ≤ 10000) (hlb : (lb : Int) ≤ 10000) (c : Int) (h1 : (c == 0) = false) (h2 : (c != 0) = true)
    (T1 : ∀ W, Calls Try.prog 7 #[.slice A lk ck, .int .u32 iv, .slice b lb cb] W (OutT c 0 0 [] W))
    (T2 : ∀ W, Calls Try.prog 8 #[.slice A lk ck, .int .u32 iv, .slice b lb cb, v] W (Out c 0 [] W)) :
    Calls Try.prog 5 #[.slice A lk ck, .int .u32 iv, .slice b lb cb, v] w fun e w' => e = .returned (.bool true) ∧ Below w.heap.size w w' := by
  have i0 : (0 : Int) ≤ lk := by omega
  have i1 : (0 : Int) ≤ lb := by omega
  have HT1 := Lib.hid T1; clear T1
  have HT2 := Lib.hid T2; clear T2
  go_enter Try.func5, Try.ntmps5
  go_wp2_with fail
  refine (alive_seal _).mono ?_
  rintro e w1 ⟨rfl, b1⟩
  have HE1 := Lib.hid b1; clear b1
  go_wp2_with fail
  refine (HT1.out w1).mono ?_
  rintro e w2 ⟨a2, k2, rfl, _, b2⟩
  have HE2 := Lib.hid (HE1.out.trans (b2.mono HE1.out.size)); clear b2 HE1
  go_wp2_with fail
  refine (HT2.out w2).mono ?_
  rintro e w3 ⟨a3, k3, rfl, _, b3⟩
  have HE3 := Lib.hid (HE2.out.trans (b3.mono HE2.out.size)); clear b3 HE2
  go_wp2_with fail
  go_ret
  exact ⟨rfl, HE3.out⟩

set_option maxHeartbeats 8000000 in
theorem sealBack_near (A : Option Addr) (ck : Nat) (k : List UInt8) (iv : Nat) (hiv : iv < 4294967296) (b : Option Addr) (lb cb : Nat) (s : List UInt8) (t : BitVec 32) (w : World)
    (hlb : lb ≤ 256) (hK : Bsl w w.heap.size A 16 ck k) (hB : Bsl w w.heap.size b lb cb s) :
    Calls Try.prog 5 #[.slice A 16 ck, .int .u32 iv, .slice b lb cb, .int .u32 (t.toNat : Int)] w fun e w' => e = .returned (.bool true) ∧ Below w.heap.size w w' := by
  have i1 : (0 : Int) ≤ lb := by omega
  have i3 : (lb : Int) ≤ 256 := by omega
  have HK := Lib.hid hK; clear hK
  have HB := Lib.hid hB; clear hB
  have hsl : (turnW' k iv s).length = lb := by rw [turnW'_length]; exact HB.out.1
  obtain ⟨x, hx⟩ : ∃ x, turnW' k iv s = x := ⟨_, rfl⟩
  have hxx : turnW' k iv x = s := by rw [← hx, turnW'_twice]
  have HXE := Lib.hid hx
  have HXX := Lib.hid hxx
  obtain ⟨m, hm⟩ : ∃ m, sealW k iv x = m := ⟨_, rfl⟩
  have HM := Lib.hid hm
  clear hx hxx hm hsl
  go_enter Try.func5, Try.ntmps5
  go_wp2_with fail
  refine (alive_seal _).mono ?_
  rintro e w1 ⟨rfl, b1⟩
  have HK1 := Lib.hid (HK.out.step b1)
  have HB1 := Lib.hid (HB.out.step b1)
  have HE1 := Lib.hid b1; clear b1 HK HB
  have t2 := Seal_ok A ck k iv hiv b lb cb s hlb w1 HK1.out HB1.out
  rw [HXE.out, HM.out] at t2
  have HT2 := Lib.hid t2; clear t2
  go_wp2_with fail
  refine HT2.out.mono ?_
  rintro e w2 ⟨a2, k2, rfl, h2, b2⟩
  have HK2 := Lib.hid (HK1.out.step b2)
  have HB2 := Lib.hid (HB1.out.step b2)
  have HX2 := Lib.hid (own_bsl h2)
  have HE2 := Lib.hid (HE1.out.trans (b2.mono HE1.out.size)); clear b2 h2 HK1 HB1 HE1 HT2
  have t3 := Open_ok A ck k iv hiv a2 lb k2 x hlb w2 HK2.out HX2.out
  rw [HXX.out, HM.out] at t3
  have HT3 := Lib.hid t3; clear t3
  go_wp2_with fail
  refine HT3.out.mono ?_
  rintro e w3 ⟨a3, k3, rfl, h3, b3⟩
  have HK3 := Lib.hid (HK2.out.step b3)
  have HB3 := Lib.hid (HB2.out.step b3)
  have HX3 := Lib.hid (HX2.out.step b3)
  have HP3 := Lib.hid (own_bsl h3)
  have HE3 := Lib.hid (HE2.out.trans (b3.mono HE2.out.size)); clear b3 h3 HK2 HB2 HX2 HE2 HT3
  obtain ⟨c4, n4, x4, q4, t4⟩ := open_tells A ck k iv hiv a2 lb k2 x hlb t
  rw [HM.out] at q4
  have HT4 := Lib.hid (t4 w3 HK3.out HX3.out); clear t4
  go_wp2_with fail
  refine HT4.out.mono ?_
  rintro e w4 ⟨a4, k4, rfl, h4, b4⟩
  have HK4 := Lib.hid (HK3.out.step b4)
  have HB4 := Lib.hid (HB3.out.step b4)
  have v1 := HB4.out.conv
  have v2 := (HP3.out.step b4).conv
  have HE4 := Lib.hid (HE3.out.trans (b4.mono HE3.out.size)); clear b4 h4 HK3 HB3 HX3 HP3 HE3 HT4
  have qs : ((strOf s).toList != (strOf s).toList) = false := by simp
  by_cases hst : sealW k iv s = t
  · have t5 := Open_ok A ck k iv hiv b lb cb s hlb w4 HK4.out HB4.out
    rw [HXE.out, hst] at t5
    have HT5 := Lib.hid t5; clear t5
    have HST := Lib.hid hst; clear hst
    go_wp2_with fail
    refine HT5.out.mono ?_
    rintro e w5 ⟨a5, k5, rfl, h5, b5⟩
    have HK5 := Lib.hid (HK4.out.step b5)
    have HB5 := Lib.hid (HB4.out.step b5)
    have HP5 := Lib.hid (own_bsl h5)
    have HE5 := Lib.hid (HE4.out.trans (b5.mono HE4.out.size)); clear b5 h5 HK4 HB4 HE4 HT5 v1 v2 q4 qs
    have t6 := Seal_ok A ck k iv hiv a5 lb k5 x hlb w5 HK5.out HP5.out
    rw [HXX.out, HST.out] at t6
    have HT6 := Lib.hid t6; clear t6
    go_wp2_with fail
    refine HT6.out.mono ?_
    rintro e w6 ⟨a6, k6, rfl, h6, b6⟩
    have v1 := (HB5.out.step b6).conv
    have v2 := (own_bsl h6).conv
    have HE6 := Lib.hid (HE5.out.trans (b6.mono HE5.out.size)); clear b6 h6 HK5 HB5 HP5 HE5 HT6
    have qs := texts_same s s rfl
    go_wp2_with fail
    go_ret
    exact ⟨rfl, HE6.out⟩
  · have HT5 := Lib.hid (Open_tag A ck k iv hiv b lb cb s hlb t hst w4 HK4.out HB4.out)
    clear hst
    go_wp2_with fail
    refine HT5.out.mono ?_
    rintro e w5 ⟨rfl, b5⟩
    have HE5 := Lib.hid (HE4.out.trans (b5.mono HE4.out.size)); clear b5 HK4 HB4 HE4 HT5 v1 v2 q4 qs
    go_wp2_with fail
    go_ret
    exact ⟨rfl, HE5.out⟩
theorem sealBack_walk (a0 : Option Addr) (len0 cap0 : Nat) (s0 : List UInt8) (a1 : Int) (a2 : Option Addr) (len2 cap2 : Nat) (s2 : List UInt8) (a3 : Int) (w : World) (h0 : Bsl w w.heap.size a0 len0 cap0 s0) (w1 : (Lit.int .u32 a1).wf = true) (h2 : Bsl w w.heap.size a2 len2 cap2 s2) (w3 : (Lit.int .u32 a3).wf = true) :
    Calls Try.prog 5 #[.slice a0 len0 cap0, .int .u32 a1, .slice a2 len2 cap2, .int .u32 a3] w fun e w' => e = .returned (.bool true) ∧ Below w.heap.size w w' := by
  obtain ⟨g1, g2⟩ := u32_of_wf w1
  obtain ⟨iv, rfl⟩ := Int.eq_ofNat_of_zero_le g1
  obtain ⟨g3, g4⟩ := u32_of_wf w3
  obtain ⟨n, rfl⟩ := Int.eq_ofNat_of_zero_le g3
  obtain ⟨t, ht⟩ : ∃ t : BitVec 32, t.toNat = n := ⟨BitVec.ofNat 32 n, by rw [BitVec.toNat_ofNat]; omega⟩
  subst ht
  have hk : (len0 : Int) ≤ 9223372036854775807 := by have h5 := h0.2.1; have h4 := h0.2.2.1; unfold maxLen at h4; omega
  have hb : (len2 : Int) ≤ 9223372036854775807 := by have h5 := h2.2.1; have h4 := h2.2.2.1; unfold maxLen at h4; omega
  by_cases k : (len0 : Int) ≤ 10000 ∧ (len2 : Int) ≤ 10000
  · obtain ⟨k1, k2⟩ := k
    by_cases e1 : len0 = 16
    · subst e1
      by_cases e2 : len2 ≤ 256
      · exact sealBack_near a0 cap0 s0 iv (by omega) a2 len2 cap2 s2 t w e2 h0 h2
      · exact sealBack_bad a0 16 cap0 iv a2 len2 cap2 _ w k1 k2 3 rfl rfl (fun W => Seal_far a0 cap0 _ a2 len2 cap2 (by omega) W) (fun W => Open_far a0 cap0 _ _ a2 len2 cap2 (by omega) W)
    · exact sealBack_bad a0 len0 cap0 iv a2 len2 cap2 _ w k1 k2 2 rfl rfl (fun W => Seal_key a0 len0 cap0 e1 _ _ W) (fun W => Open_key a0 len0 cap0 e1 _ _ _ W)
  · exact sealBack_far a0 len0 cap0 _ _ a2 len2 cap2 w hk hb (by omega)
end Go.Proofs.Ytomobnecdkachaa

namespace Go.Proofs.Ytomobnecdkachaa.sealBack
open Go.ChangeShapes Go.WideShapes Go.ChangeAt Go.RowKit
set_option linter.unusedVariables false

theorem own : ownKnob Try.prog.godebug = none := by kernel_rfl
theorem laidOut : laidOutB Try.prog = true := by kernel_rfl

set_option maxRecDepth 100000 in
theorem lifted (os : Os) (started : os.Started) (H : Type) (enc : TypeId × Value → H) :
    ReturnsInHanded {} Try.checked os 5 .any (Rows.sealBackSpec.pre6 enc Try.prog Try.f5 Rows.sealBackRow.domain false) (Rows.sealBackSpec.post enc Try.prog Try.f5 false true false false) := by
  refine returnsInHanded_of_change (C := Try.checked) own started (by kernel_rfl) Try.func5
    (ChangeSpec.witness6 (enc := enc) (C := Try.checked) false ⟨#[], #[.slice none 0 0, .int .u32 0, .slice none 0 0, .int .u32 0], []⟩ 8 (by kernel_rfl) (by kernel_rfl) (by kernel_rfl) (by kernel_rfl)) ?_
  intro W base args ds gs before hval0 hW hcnd _
  have hval : ∀ (j : Nat) t v, Try.f5.params[j]? = some t → args[j]? = some v → Value.okWide Try.prog W .any base t v := hval0
  have hW' := hW
  obtain ⟨p, q, hA0, hV, rfl, hfz, hnd⟩ := hW
  have hA : DataW.TrodAll enc Try.prog W 0 (fun _ => true) true Try.f5.params.toList args.toList ds p := hA0
  rw [Try.params5] at hA hval
  obtain ⟨v0, vs0, d0, ds0, p0, q0, hargs, rfl, rfl, h0, r0⟩ := trodAll_cons hA
  obtain ⟨v1, vs1, d1, ds1, p1, q1, rfl, rfl, rfl, h1, r1⟩ := trodAll_cons r0
  obtain ⟨v2, vs2, d2, ds2, p2, q2, rfl, rfl, rfl, h2, r2⟩ := trodAll_cons r1
  obtain ⟨v3, vs3, d3, ds3, p3, q3, rfl, rfl, rfl, h3, r3⟩ := trodAll_cons r2
  obtain ⟨rfl, rfl, rfl⟩ := trodAll_nil r3
  obtain rfl : args = #[v0, v1, v2, v3] := by cases args; simp_all
  obtain ⟨rfl, rfl⟩ := trodVars_none hV
  obtain ⟨a0, len0, cap0, rfl⟩ := okWide_slice Try.underlying22 (hval 0 22 v0 rfl rfl)
  have k0 := h0
  have lt0 : ∀ x ∈ p0, x.block < W.heap.size := by obtain ⟨m, hm⟩ := k0; exact DataW.trod_lt m _ _ _ hm
  obtain ⟨z0, w0⟩ : ∃ zs, IsRow .u8 W a0 len0 cap0 zs := by
    obtain ⟨fuel, hf⟩ := h0
    rcases open_ints Try.underlying22 Try.underlying5 (by kernel_rfl) hf with ⟨hcs, _⟩ | ⟨x, l, c, zs, hcs, _, hl, hm, hz, _, hcell, hwz⟩
    · simp [Value.cells] at hcs
      obtain ⟨rfl, rfl, rfl⟩ := hcs
      exact ⟨[], .inl ⟨rfl, rfl, rfl, rfl⟩⟩
    · simp [Value.cells] at hcs
      obtain ⟨rfl, rfl, rfl⟩ := hcs
      exact ⟨zs, .inr ⟨_, rfl, hl, hm, by simpa using hz, hcell, hwz⟩⟩
  obtain ⟨a1, rfl, rfl, rfl, w1⟩ := open_int Try.underlying23 (hval 1 23 v1 rfl rfl) h1
  obtain ⟨a2, len2, cap2, rfl⟩ := okWide_slice Try.underlying22 (hval 2 22 v2 rfl rfl)
  have k2 := h2
  have lt2 : ∀ x ∈ p2, x.block < W.heap.size := by obtain ⟨m, hm⟩ := k2; exact DataW.trod_lt m _ _ _ hm
  obtain ⟨z2, w2⟩ : ∃ zs, IsRow .u8 W a2 len2 cap2 zs := by
    obtain ⟨fuel, hf⟩ := h2
    rcases open_ints Try.underlying22 Try.underlying5 (by kernel_rfl) hf with ⟨hcs, _⟩ | ⟨x, l, c, zs, hcs, _, hl, hm, hz, _, hcell, hwz⟩
    · simp [Value.cells] at hcs
      obtain ⟨rfl, rfl, rfl⟩ := hcs
      exact ⟨[], .inl ⟨rfl, rfl, rfl, rfl⟩⟩
    · simp [Value.cells] at hcs
      obtain ⟨rfl, rfl, rfl⟩ := hcs
      exact ⟨zs, .inr ⟨_, rfl, hl, hm, by simpa using hz, hcell, hwz⟩⟩
  obtain ⟨a3, rfl, rfl, rfl, w3⟩ := open_int Try.underlying23 (hval 3 23 v3 rfl rfl) h3
  clear hA0 hval0
  refine (sealBack_walk a0 len0 cap0 _ a1 a2 len2 cap2 _ a3 W (bsl_of_row w0) w1 (bsl_of_row w2) w3).mono fun e W' ⟨he, bel⟩ => ?_
  subst he
  exact ⟨_, rfl, _, _, _, [], _, [], hW', trodAll_mk1 (shut_bool Try.underlying4 _), (trodAll_cons_mk (Below.trod laidOut (by kernel_rfl) (of_decide_eq_true (by kernel_rfl)) k0 bel lt0) (trodAll_cons_mk (shut_int Try.underlying23 w1) (trodAll_cons_mk (Below.trod laidOut (by kernel_rfl) (of_decide_eq_true (by kernel_rfl)) k2 bel lt2) (trodAll_cons_mk (shut_int Try.underlying23 w3) trodAll_mk0)))), rfl, bel.frame _, fun h => by cases h⟩

theorem over : Rows.sealBackRow.holds Try.pinned (OpenSpec.ofChange Rows.sealBackSpec) :=
  OpenClaim.holds_of_wide 5 Try.f5 rfl rfl rfl rfl rfl rfl rfl ⟨rfl, rfl, rfl, rfl, rfl⟩ rfl rfl rfl rfl rfl (by kernel_rfl) Try.func5 (by kernel_rfl)
    (of_decide_eq_true (by kernel_rfl)) (by unfold Func.isWrapper; first | (rw [if_pos (by decide +kernel)]; kernel_rfl) | (rw [if_neg (by decide +kernel)]; exact ⟨rfl, rfl⟩))
    (fun os started H enc _ => lifted os started H enc)

/-- The statement. -/
theorem proved : Rows.SealBackSaid := over
end Go.Proofs.Ytomobnecdkachaa.sealBack
