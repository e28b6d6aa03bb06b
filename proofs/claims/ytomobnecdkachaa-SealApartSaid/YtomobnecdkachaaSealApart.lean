/-
  SealApartSaid: for any key, number and two texts (where the key has more than 1,000 bytes or a text more than 10,000, or one of them is refused, the law itself answers what its example answers): they are sealed as the same bytes just if they are the same, and then with the same tag; and as many bytes as they have. No condition.
-/
import Derived.Test.YtomobnecdkachaaRows
import Derived.Test.YtomobnecdkachaaSealAll
import Derived.Test.YtomobnecdkachaaArr
namespace Go.Proofs.Ytomobnecdkachaa
open Go.RowKit Go.Shelf
set_option maxRecDepth 100000

theorem sealApart_far (k : Option Addr) (lk ck : Nat) (u : Value) (a : Option Addr) (la ca : Nat) (b : Option Addr) (lb cb : Nat) (w : World) (_hk : (lk : Int) ≤ 9223372036854775807) (_ha : (la : Int) ≤ 9223372036854775807) (_hb : (lb : Int) ≤ 9223372036854775807)
    (h : (1000 : Int) < lk ∨ ((lk : Int) ≤ 1000 ∧ (10000 : Int) < la) ∨ ((lk : Int) ≤ 1000 ∧ (la : Int) ≤ 10000 ∧ (10000 : Int) < lb)) :
    Calls Try.prog 6 #[.slice k lk ck, u, .slice a la ca, .slice b lb cb] w fun e w' => e = .returned (.bool true) ∧ Below w.heap.size w w' := by
  have i0 : (0 : Int) ≤ lk := by omega
  have i1 : (0 : Int) ≤ la := by omega
  have i2 : (0 : Int) ≤ lb := by omega
  rcases h with h | ⟨h1, h⟩ | ⟨h1, h2, h⟩
  all_goals
    go_enter Try.func6, Try.ntmps6
    go_wp2_with fail
    refine (alive_seal _).mono ?_
    rintro e w1 ⟨rfl, b1⟩
    have HB1 := Lib.hid b1; clear b1
    go_wp2_with fail
    go_ret
    exact ⟨rfl, HB1.out⟩

set_option maxHeartbeats 4000000 in
theorem sealApart_bad (A : Option Addr) (lk ck : Nat) (k : List UInt8) (iv : Nat) (a : Option Addr) (la ca : Nat) (s : List UInt8) (b : Option Addr) (lb cb : Nat) (t : List UInt8) (w : World)
    (hlk : (lk : Int) ≤ 1000) (hla : (la : Int) ≤ 10000) (hlb : (lb : Int) ≤ 10000) (hK : Bsl w w.heap.size A lk ck k) (hA : Bsl w w.heap.size a la ca s) (hB : Bsl w w.heap.size b lb cb t)
    (c1 : Int) (t1 : BitVec 32) (n1 : Nat) (x1 : List UInt8) (T1 : ∀ W, Bsl W W.heap.size A lk ck k → Bsl W W.heap.size a la ca s → Calls Try.prog 7 #[.slice A lk ck, .int .u32 iv, .slice a la ca] W (OutT c1 t1 n1 x1 W))
    (c2 : Int) (t2 : BitVec 32) (n2 : Nat) (x2 : List UInt8) (T2 : ∀ W, Bsl W W.heap.size A lk ck k → Bsl W W.heap.size b lb cb t → Calls Try.prog 7 #[.slice A lk ck, .int .u32 iv, .slice b lb cb] W (OutT c2 t2 n2 x2 W))
    (h : (c1 != 0) = true ∨ ((c1 != 0) = false ∧ (c2 != 0) = true)) :
    Calls Try.prog 6 #[.slice A lk ck, .int .u32 iv, .slice a la ca, .slice b lb cb] w fun e w' => e = .returned (.bool true) ∧ Below w.heap.size w w' := by
  have i0 : (0 : Int) ≤ lk := by omega
  have i1 : (0 : Int) ≤ la := by omega
  have i2 : (0 : Int) ≤ lb := by omega
  have HK := Lib.hid hK; clear hK
  have HA := Lib.hid hA; clear hA
  have HB := Lib.hid hB; clear hB
  have HT1 := Lib.hid T1; clear T1
  have HT2 := Lib.hid T2; clear T2
  rcases h with h | ⟨h1, h2⟩
  all_goals
    go_enter Try.func6, Try.ntmps6
    go_wp2_with fail
    refine (alive_seal _).mono ?_
    rintro e w1 ⟨rfl, b1⟩
    have HK1 := Lib.hid (HK.out.step b1)
    have HA1 := Lib.hid (HA.out.step b1)
    have HB1 := Lib.hid (HB.out.step b1)
    have HE1 := Lib.hid b1; clear b1 HK HA HB
    go_wp2_with fail
    refine (HT1.out w1 HK1.out HA1.out).mono ?_
    rintro e w2 ⟨a2, k2, rfl, _, b2⟩
    have HK2 := Lib.hid (HK1.out.step b2)
    have HB2 := Lib.hid (HB1.out.step b2)
    have HE2 := Lib.hid (HE1.out.trans (b2.mono HE1.out.size)); clear b2 HK1 HA1 HB1 HE1
    go_wp2_with fail
    refine (HT2.out w2 HK2.out HB2.out).mono ?_
    rintro e w3 ⟨a3, k3, rfl, _, b3⟩
    have HE3 := Lib.hid (HE2.out.trans (b3.mono HE2.out.size)); clear b3 HK2 HB2 HE2
    go_wp2_with fail
    go_ret
    exact ⟨rfl, HE3.out⟩

set_option maxHeartbeats 4000000 in
theorem sealApart_near (A : Option Addr) (ck : Nat) (k : List UInt8) (iv : Nat) (hiv : iv < 4294967296) (a : Option Addr) (la ca : Nat) (s : List UInt8) (b : Option Addr) (lb cb : Nat) (t : List UInt8) (w : World)
    (hla : la ≤ 256) (hlb : lb ≤ 256) (hK : Bsl w w.heap.size A 16 ck k) (hA : Bsl w w.heap.size a la ca s) (hB : Bsl w w.heap.size b lb cb t) :
    Calls Try.prog 6 #[.slice A 16 ck, .int .u32 iv, .slice a la ca, .slice b lb cb] w fun e w' => e = .returned (.bool true) ∧ Below w.heap.size w w' := by
  have i1 : (0 : Int) ≤ la := by omega
  have i2 : (0 : Int) ≤ lb := by omega
  have i3 : (la : Int) ≤ 256 := by omega
  have i4 : (lb : Int) ≤ 256 := by omega
  have HK := Lib.hid hK; clear hK
  have HA := Lib.hid hA; clear hA
  have HB := Lib.hid hB; clear hB
  go_enter Try.func6, Try.ntmps6
  go_wp2_with fail
  refine (alive_seal _).mono ?_
  rintro e w1 ⟨rfl, b1⟩
  have HK1 := Lib.hid (HK.out.step b1)
  have HA1 := Lib.hid (HA.out.step b1)
  have HB1 := Lib.hid (HB.out.step b1)
  have HE1 := Lib.hid b1; clear b1 HK HA HB
  go_wp2_with fail
  refine (Seal_ok A ck k iv hiv a la ca s hla w1 HK1.out HA1.out).mono ?_
  rintro e w2 ⟨a2, k2, rfl, h2, b2⟩
  have HK2 := Lib.hid (HK1.out.step b2)
  have HA2 := Lib.hid (HA1.out.step b2)
  have HB2 := Lib.hid (HB1.out.step b2)
  have HX2 := Lib.hid (own_bsl h2)
  have HE2 := Lib.hid (HE1.out.trans (b2.mono HE1.out.size)); clear b2 h2 HK1 HA1 HB1 HE1
  go_wp2_with fail
  refine (Seal_ok A ck k iv hiv b lb cb t hlb w2 HK2.out HB2.out).mono ?_
  rintro e w3 ⟨a3, k3, rfl, h3, b3⟩
  have v1 := (HA2.out.step b3).conv
  have v2 := (HB2.out.step b3).conv
  have v3 := (HX2.out.step b3).conv
  have v4 := (own_bsl h3).conv
  have HE3 := Lib.hid (HE2.out.trans (b3.mono HE2.out.size)); clear b3 h3 HK2 HA2 HB2 HX2 HE2
  have hi := @turnW'_inj k iv s t
  obtain ⟨x, hx⟩ : ∃ x, turnW' k iv s = x := ⟨_, rfl⟩
  obtain ⟨y, hy⟩ : ∃ y, turnW' k iv t = y := ⟨_, rfl⟩
  by_cases hst : s = t
  · subst hst
    rw [hx] at hy v3 ⊢
    subst hy
    have q1 := texts_same s s rfl
    have q2 := texts_same x x rfl
    rw [hx] at v4
    clear hx hi
    obtain ⟨m, hm⟩ : ∃ m, sealW k iv x = m := ⟨_, rfl⟩
    rw [hm]
    clear hm
    go_wp2_with fail
    go_ret
    exact ⟨rfl, HE3.out⟩
  · have q1 := texts_not s t hst
    have q2 := texts_not x y (fun e => hst (hi (by rw [hx, hy, e])))
    rw [hx] at v3 ⊢
    rw [hy] at v4 ⊢
    clear hx hy hi hst
    go_wp2_with fail
    go_ret
    exact ⟨rfl, HE3.out⟩
theorem sealApart_walk (a0 : Option Addr) (len0 cap0 : Nat) (s0 : List UInt8) (a1 : Int) (a2 : Option Addr) (len2 cap2 : Nat) (s2 : List UInt8) (a3 : Option Addr) (len3 cap3 : Nat) (s3 : List UInt8) (w : World) (h0 : Bsl w w.heap.size a0 len0 cap0 s0) (w1 : (Lit.int .u32 a1).wf = true) (h2 : Bsl w w.heap.size a2 len2 cap2 s2) (h3 : Bsl w w.heap.size a3 len3 cap3 s3) :
    Calls Try.prog 6 #[.slice a0 len0 cap0, .int .u32 a1, .slice a2 len2 cap2, .slice a3 len3 cap3] w fun e w' => e = .returned (.bool true) ∧ Below w.heap.size w w' := by
  obtain ⟨g1, g2⟩ := u32_of_wf w1
  obtain ⟨iv, rfl⟩ := Int.eq_ofNat_of_zero_le g1
  have hk : (len0 : Int) ≤ 9223372036854775807 := by have h5 := h0.2.1; have h4 := h0.2.2.1; unfold maxLen at h4; omega
  have ha : (len2 : Int) ≤ 9223372036854775807 := by have h5 := h2.2.1; have h4 := h2.2.2.1; unfold maxLen at h4; omega
  have hb : (len3 : Int) ≤ 9223372036854775807 := by have h5 := h3.2.1; have h4 := h3.2.2.1; unfold maxLen at h4; omega
  by_cases k : (len0 : Int) ≤ 1000 ∧ (len2 : Int) ≤ 10000 ∧ (len3 : Int) ≤ 10000
  · obtain ⟨k1, k2, k3⟩ := k
    obtain ⟨c1, t1, n1, x1, e1, T1⟩ := seal_tells a0 len0 cap0 s0 iv (by omega) a2 len2 cap2 s2
    obtain ⟨c2, t2, n2, x2, e2, T2⟩ := seal_tells a0 len0 cap0 s0 iv (by omega) a3 len3 cap3 s3
    by_cases hc1 : c1 = 0
    · obtain ⟨rfl, l2⟩ := e1 hc1
      by_cases hc2 : c2 = 0
      · exact sealApart_near a0 cap0 s0 iv (by omega) a2 len2 cap2 s2 a3 len3 cap3 s3 w l2 (e2 hc2).2 h0 h2 h3
      · exact sealApart_bad a0 16 cap0 s0 iv a2 len2 cap2 s2 a3 len3 cap3 s3 w k1 k2 k3 h0 h2 h3 c1 t1 n1 x1 T1 c2 t2 n2 x2 T2 (.inr ⟨by simp [hc1], by simp [hc2]⟩)
    · exact sealApart_bad a0 len0 cap0 s0 iv a2 len2 cap2 s2 a3 len3 cap3 s3 w k1 k2 k3 h0 h2 h3 c1 t1 n1 x1 T1 c2 t2 n2 x2 T2 (.inl (by simp [hc1]))
  · exact sealApart_far a0 len0 cap0 _ a2 len2 cap2 a3 len3 cap3 w hk ha hb (by omega)
end Go.Proofs.Ytomobnecdkachaa

namespace Go.Proofs.Ytomobnecdkachaa.sealApart
open Go.ChangeShapes Go.WideShapes Go.ChangeAt Go.RowKit
set_option linter.unusedVariables false

theorem own : ownKnob Try.prog.godebug = none := by kernel_rfl
theorem laidOut : laidOutB Try.prog = true := by kernel_rfl

set_option maxRecDepth 100000 in
theorem lifted (os : Os) (started : os.Started) (H : Type) (enc : TypeId × Value → H) :
    ReturnsInHanded {} Try.checked os 6 .any (Rows.sealApartSpec.pre6 enc Try.prog Try.f6 Rows.sealApartRow.domain false) (Rows.sealApartSpec.post enc Try.prog Try.f6 false true false false) := by
  refine returnsInHanded_of_change (C := Try.checked) own started (by kernel_rfl) Try.func6
    (ChangeSpec.witness6 (enc := enc) (C := Try.checked) false ⟨#[], #[.slice none 0 0, .int .u32 0, .slice none 0 0, .slice none 0 0], []⟩ 8 (by kernel_rfl) (by kernel_rfl) (by kernel_rfl) (by kernel_rfl)) ?_
  intro W base args ds gs before hval0 hW hcnd _
  have hval : ∀ (j : Nat) t v, Try.f6.params[j]? = some t → args[j]? = some v → Value.okWide Try.prog W .any base t v := hval0
  have hW' := hW
  obtain ⟨p, q, hA0, hV, rfl, hfz, hnd⟩ := hW
  have hA : DataW.TrodAll enc Try.prog W 0 (fun _ => true) true Try.f6.params.toList args.toList ds p := hA0
  rw [Try.params6] at hA hval
  obtain ⟨v0, vs0, d0, ds0, p0, q0, hargs, rfl, rfl, h0, r0⟩ := trodAll_cons hA
  obtain ⟨v1, vs1, d1, ds1, p1, q1, rfl, rfl, rfl, h1, r1⟩ := trodAll_cons r0
  obtain ⟨v2, vs2, d2, ds2, p2, q2, rfl, rfl, rfl, h2, r2⟩ := trodAll_cons r1
  obtain ⟨v3, vs3, d3, ds3, p3, q3, rfl, rfl, rfl, h3, r3⟩ := trodAll_cons r2
  obtain ⟨rfl, rfl, rfl⟩ := trodAll_nil r3
  obtain rfl : args = #[v0, v1, v2, v3] := by cases args; simp_all
  obtain ⟨rfl, rfl⟩ := trodVars_none hV
  obtain ⟨a0, len0, cap0, rfl⟩ := okWide_slice Try.underlying22 (hval 0 22 v0 rfl rfl)
  have k0 := h0
  have lt0 : ∀ x ∈ p0, x.block < W.heap.size := by obtain ⟨m, hm⟩ := k0; exact DataW.trod_lt m _ _ _ hm
  obtain ⟨z0, w0⟩ : ∃ zs, IsRow .u8 W a0 len0 cap0 zs := by
    obtain ⟨fuel, hf⟩ := h0
    rcases open_ints Try.underlying22 Try.underlying5 (by kernel_rfl) hf with ⟨hcs, _⟩ | ⟨x, l, c, zs, hcs, _, hl, hm, hz, _, hcell, hwz⟩
    · simp [Value.cells] at hcs
      obtain ⟨rfl, rfl, rfl⟩ := hcs
      exact ⟨[], .inl ⟨rfl, rfl, rfl, rfl⟩⟩
    · simp [Value.cells] at hcs
      obtain ⟨rfl, rfl, rfl⟩ := hcs
      exact ⟨zs, .inr ⟨_, rfl, hl, hm, by simpa using hz, hcell, hwz⟩⟩
  obtain ⟨a1, rfl, rfl, rfl, w1⟩ := open_int Try.underlying23 (hval 1 23 v1 rfl rfl) h1
  obtain ⟨a2, len2, cap2, rfl⟩ := okWide_slice Try.underlying22 (hval 2 22 v2 rfl rfl)
  have k2 := h2
  have lt2 : ∀ x ∈ p2, x.block < W.heap.size := by obtain ⟨m, hm⟩ := k2; exact DataW.trod_lt m _ _ _ hm
  obtain ⟨z2, w2⟩ : ∃ zs, IsRow .u8 W a2 len2 cap2 zs := by
    obtain ⟨fuel, hf⟩ := h2
    rcases open_ints Try.underlying22 Try.underlying5 (by kernel_rfl) hf with ⟨hcs, _⟩ | ⟨x, l, c, zs, hcs, _, hl, hm, hz, _, hcell, hwz⟩
    · simp [Value.cells] at hcs
      obtain ⟨rfl, rfl, rfl⟩ := hcs
      exact ⟨[], .inl ⟨rfl, rfl, rfl, rfl⟩⟩
    · simp [Value.cells] at hcs
      obtain ⟨rfl, rfl, rfl⟩ := hcs
      exact ⟨zs, .inr ⟨_, rfl, hl, hm, by simpa using hz, hcell, hwz⟩⟩
  obtain ⟨a3, len3, cap3, rfl⟩ := okWide_slice Try.underlying22 (hval 3 22 v3 rfl rfl)
  have k3 := h3
  have lt3 : ∀ x ∈ p3, x.block < W.heap.size := by obtain ⟨m, hm⟩ := k3; exact DataW.trod_lt m _ _ _ hm
  obtain ⟨z3, w3⟩ : ∃ zs, IsRow .u8 W a3 len3 cap3 zs := by
    obtain ⟨fuel, hf⟩ := h3
    rcases open_ints Try.underlying22 Try.underlying5 (by kernel_rfl) hf with ⟨hcs, _⟩ | ⟨x, l, c, zs, hcs, _, hl, hm, hz, _, hcell, hwz⟩
    · simp [Value.cells] at hcs
      obtain ⟨rfl, rfl, rfl⟩ := hcs
      exact ⟨[], .inl ⟨rfl, rfl, rfl, rfl⟩⟩
    · simp [Value.cells] at hcs
      obtain ⟨rfl, rfl, rfl⟩ := hcs
      exact ⟨zs, .inr ⟨_, rfl, hl, hm, by simpa using hz, hcell, hwz⟩⟩
  clear hA0 hval0
  refine (sealApart_walk a0 len0 cap0 _ a1 a2 len2 cap2 _ a3 len3 cap3 _ W (bsl_of_row w0) w1 (bsl_of_row w2) (bsl_of_row w3)).mono fun e W' ⟨he, bel⟩ => ?_
  subst he
  exact ⟨_, rfl, _, _, _, [], _, [], hW', trodAll_mk1 (shut_bool Try.underlying4 _), (trodAll_cons_mk (Below.trod laidOut (by kernel_rfl) (of_decide_eq_true (by kernel_rfl)) k0 bel lt0) (trodAll_cons_mk (shut_int Try.underlying23 w1) (trodAll_cons_mk (Below.trod laidOut (by kernel_rfl) (of_decide_eq_true (by kernel_rfl)) k2 bel lt2) (trodAll_cons_mk (Below.trod laidOut (by kernel_rfl) (of_decide_eq_true (by kernel_rfl)) k3 bel lt3) trodAll_mk0)))), rfl, bel.frame _, fun h => by cases h⟩

theorem over : Rows.sealApartRow.holds Try.pinned (OpenSpec.ofChange Rows.sealApartSpec) :=
  OpenClaim.holds_of_wide 6 Try.f6 rfl rfl rfl rfl rfl rfl rfl ⟨rfl, rfl, rfl, rfl, rfl⟩ rfl rfl rfl rfl rfl (by kernel_rfl) Try.func6 (by kernel_rfl)
    (of_decide_eq_true (by kernel_rfl)) (by unfold Func.isWrapper; first | (rw [if_pos (by decide +kernel)]; kernel_rfl) | (rw [if_neg (by decide +kernel)]; exact ⟨rfl, rfl⟩))
    (fun os started H enc _ => lifted os started H enc)

/-- The statement. -/
theorem proved : Rows.SealApartSaid := over
end Go.Proofs.Ytomobnecdkachaa.sealApart
