/-
  ChainSameSaid: for any seed, leaf and two texts (where one of the three has more than 1,000 bytes the law itself answers what its example answers): two texts with one sum have one signature, and of each text with the other one's signature one public key is recovered; a seed or a leaf that is none is refused alike for both. No condition.
-/
import Derived.Test.YtmegnjmnkhpppaaRows
import Derived.Test.YtmegnjmnkhpppaaChainAll
import Derived.Test.YtmegnjmnkhpppaaArr
namespace Go.Proofs.Ytmegnjmnkhpppaa
open Go.RowKit Go.Shelf
set_option maxRecDepth 100000

theorem Sign_none (a : Option Addr) (len cap : Nat) (l : Int) (h : len ≠ 16 ∨ l < 0 ∨ 7 < l) (u : Value) (w : World) : Calls Try.prog 8 #[.slice a len cap, .int .i64 l, u] w fun en w' => ∃ b c, en = .returned (.tuple #[.slice b 0 c, .int .i64 2]) ∧ Below w.heap.size w w' := by
  have : Calls Try.prog 8 #[.slice a len cap, .int .i64 l, u] w (ToldO ([], 2) w) := by
    by_cases h1 : len = 16
    · subst h1
      exact Sign_leaf a cap l (by omega) u w
    · exact Sign_seed a len cap h1 l u w
  refine this.mono ?_
  rintro e w' ⟨b, c, he, _, hb⟩
  exact ⟨b, c, he, hb⟩
theorem chainSame_far (k : Option Addr) (lk ck : Nat) (u : Value) (b : Option Addr) (lb cb : Nat) (c : Option Addr) (lc cc : Nat) (w : World) (_hk : (lk : Int) ≤ 9223372036854775807) (_hb : (lb : Int) ≤ 9223372036854775807) (_hc : (lc : Int) ≤ 9223372036854775807)
    (h : (1000 : Int) < lk ∨ ((lk : Int) ≤ 1000 ∧ (1000 : Int) < lb) ∨ ((lk : Int) ≤ 1000 ∧ (lb : Int) ≤ 1000 ∧ (1000 : Int) < lc)) :
    Calls Try.prog 7 #[.slice k lk ck, u, .slice b lb cb, .slice c lc cc] w fun e w' => e = .returned (.bool true) ∧ Below w.heap.size w w' := by
  have i0 : (0 : Int) ≤ lk := by omega
  have i1 : (0 : Int) ≤ lb := by omega
  have i2 : (0 : Int) ≤ lc := by omega
  rcases h with h | ⟨h1, h⟩ | ⟨h1, h2, h⟩
  all_goals
    go_enter Try.func7, Try.ntmps7
    go_wp2_with fail
    refine (alive_chain _).mono ?_
    rintro e w1 ⟨rfl, b1⟩
    have HB1 := Lib.hid b1; clear b1
    go_wp2_with fail
    go_ret
    exact ⟨rfl, HB1.out⟩
set_option maxHeartbeats 4000000 in
theorem chainSame_bad (A : Option Addr) (lk ck : Nat) (l : Int) (b : Option Addr) (lb cb : Nat) (c : Option Addr) (lc cc : Nat) (w : World)
    (hlk : (lk : Int) ≤ 1000) (hlb : (lb : Int) ≤ 1000) (hlc : (lc : Int) ≤ 1000) (h : lk ≠ 16 ∨ l < 0 ∨ 7 < l) :
    Calls Try.prog 7 #[.slice A lk ck, .int .i64 l, .slice b lb cb, .slice c lc cc] w fun e w' => e = .returned (.bool true) ∧ Below w.heap.size w w' := by
  have i0 : (0 : Int) ≤ lk := by omega
  have i1 : (0 : Int) ≤ lb := by omega
  have i2 : (0 : Int) ≤ lc := by omega
  have HT1 := Lib.hid (Sign_none A lk ck l h (.slice b lb cb))
  have HT2 := Lib.hid (Sign_none A lk ck l h (.slice c lc cc))
  go_enter Try.func7, Try.ntmps7
  go_wp2_with fail
  refine (alive_chain _).mono ?_
  rintro e w1 ⟨rfl, b1⟩
  have HE1 := Lib.hid b1; clear b1
  go_wp2_with fail
  refine (HT1.out w1).mono ?_
  rintro e w2 ⟨a2, k2, rfl, b2⟩
  have HE2 := Lib.hid (HE1.out.trans (b2.mono HE1.out.size)); clear b2 HE1
  go_wp2_with fail
  refine (HT2.out w2).mono ?_
  rintro e w3 ⟨a3, k3, rfl, b3⟩
  have HE3 := Lib.hid (HE2.out.trans (b3.mono HE2.out.size)); clear b3 HE2
  go_wp2_with fail
  go_ret
  exact ⟨rfl, HE3.out⟩
set_option maxHeartbeats 8000000 in
theorem chainSame_near (A : Option Addr) (ck : Nat) (sd : List UInt8) (l : Nat) (hl : l < 8) (b : Option Addr) (lb cb : Nat) (s : List UInt8) (c : Option Addr) (lc cc : Nat) (t : List UInt8) (w : World)
    (hlb : (lb : Int) ≤ 1000) (hlc : (lc : Int) ≤ 1000) (hA : Bsl w w.heap.size A 16 ck sd) (hB : Bsl w w.heap.size b lb cb s) (hC : Bsl w w.heap.size c lc cc t) :
    Calls Try.prog 7 #[.slice A 16 ck, .int .i64 l, .slice b lb cb, .slice c lc cc] w fun e w' => e = .returned (.bool true) ∧ Below w.heap.size w w' := by
  have i1 : (0 : Int) ≤ lb := by omega
  have i2 : (0 : Int) ≤ lc := by omega
  have HA := Lib.hid hA; clear hA
  have HB := Lib.hid hB; clear hB
  have HC := Lib.hid hC; clear hC
  go_enter Try.func7, Try.ntmps7
  go_wp2_with fail
  refine (alive_chain _).mono ?_
  rintro e w1 ⟨rfl, b1⟩
  have HA1 := Lib.hid (HA.out.step b1)
  have HB1 := Lib.hid (HB.out.step b1)
  have HC1 := Lib.hid (HC.out.step b1)
  have HE1 := Lib.hid b1; clear b1 HA HB HC
  obtain ⟨x, hx⟩ : ∃ x, (fourW s).a.toNat = x := ⟨_, rfl⟩
  obtain ⟨y, hy⟩ : ∃ y, (fourW t).a.toNat = y := ⟨_, rfl⟩
  have HXE := Lib.hid hx; clear hx
  have HYE := Lib.hid hy; clear hy
  have h2 := Sign_ok A ck sd l hl b lb cb s w1 HA1.out HB1.out (by omega)
  rw [HXE.out] at h2
  have HS2 := Lib.hid h2; clear h2
  go_wp2_with fail
  refine HS2.out.mono ?_
  rintro e w2 ⟨v2, rfl, h2, b2⟩
  obtain ⟨g2, k2, rfl, _, hgl, hgc, hgm, hgs, hgh⟩ := bsl_of_own h2 (by omega)
  have HX2 := Lib.hid (bsl_of_holds hgs hgc hgm hgl hgh)
  have HA2 := Lib.hid (HA1.out.step b2)
  have HB2 := Lib.hid (HB1.out.step b2)
  have HC2 := Lib.hid (HC1.out.step b2)
  have HE2 := Lib.hid (HE1.out.trans (b2.mono HE1.out.size)); clear b2 h2 hgl hgc hgm hgs hgh HA1 HB1 HC1 HE1 HS2
  have h3 := Sign_ok A ck sd l hl c lc cc t w2 HA2.out HC2.out (by omega)
  rw [HYE.out] at h3
  have HS3 := Lib.hid h3; clear h3
  go_wp2_with fail
  refine HS3.out.mono ?_
  rintro e w3 ⟨v3, rfl, h3, b3⟩
  obtain ⟨g3, k3, rfl, _, hgl, hgc, hgm, hgs, hgh⟩ := bsl_of_own h3 (by omega)
  have HY3 := Lib.hid (bsl_of_holds hgs hgc hgm hgl hgh)
  have HX3 := Lib.hid (HX2.out.step b3)
  have HB3 := Lib.hid (HB2.out.step b3)
  have HC3 := Lib.hid (HC2.out.step b3)
  have HE3 := Lib.hid (HE2.out.trans (b3.mono HE2.out.size)); clear b3 h3 hgl hgc hgm hgs hgh HA2 HB2 HC2 HE2 HS3 HX2
  have h4 := sum_any b lb cb s w3 HB3.out (by omega)
  rw [HXE.out] at h4
  have HS4 := Lib.hid h4; clear h4
  go_wp2_with fail
  refine HS4.out.mono ?_
  rintro e w4 ⟨rfl, b4⟩
  have HX4 := Lib.hid (HX3.out.step b4)
  have HY4 := Lib.hid (HY3.out.step b4)
  have HB4 := Lib.hid (HB3.out.step b4)
  have HC4 := Lib.hid (HC3.out.step b4)
  have HE4 := Lib.hid (HE3.out.trans (b4.mono HE3.out.size)); clear b4 HB3 HC3 HE3 HS4 HX3 HY3
  have h5 := sum_any c lc cc t w4 HC4.out (by omega)
  rw [HYE.out] at h5
  have HS5 := Lib.hid h5; clear h5
  go_wp2_with fail
  refine HS5.out.mono ?_
  rintro e w5 ⟨rfl, b5⟩
  have HX5 := Lib.hid (HX4.out.step b5)
  have HY5 := Lib.hid (HY4.out.step b5)
  have HB5 := Lib.hid (HB4.out.step b5)
  have HC5 := Lib.hid (HC4.out.step b5)
  have HE5 := Lib.hid (HE4.out.trans (b5.mono HE4.out.size)); clear b5 HB4 HC4 HE4 HS5 HX4 HY4
  by_cases hxy : x = y
  · subst hxy
    have q1 : ((x : Int) != (x : Int)) = false := by simp
    obtain ⟨S, hS⟩ : ∃ S, valsL sd l (digL x) 10 = S := ⟨_, rfl⟩
    rw [hS] at HX5 HY5
    clear hS
    have h6 := Recover_ok l hl b lb cb s g3 0 k3 S w5 HB5.out (by omega) HY5.out
    rw [HXE.out] at h6
    obtain ⟨p, hp⟩ : ∃ p, pubL l (takenL l (digL x) S 10) = p := ⟨_, rfl⟩
    rw [hp] at h6
    have HPE := Lib.hid hp; clear hp
    have HS6 := Lib.hid h6; clear h6
    go_wp2_with fail
    refine HS6.out.mono ?_
    rintro e w6 ⟨g6, k6, rfl, _, h6, b6⟩
    have HX6 := Lib.hid (HX5.out.step b6)
    have HY6 := Lib.hid (HY5.out.step b6)
    have HC6 := Lib.hid (HC5.out.step b6)
    have HP6 := Lib.hid h6
    have HE6 := Lib.hid (HE5.out.trans (b6.mono HE5.out.size)); clear b6 h6 HB5 HC5 HE5 HS6 HX5 HY5 q1
    have h7 := Recover_ok l hl c lc cc t g2 0 k2 S w6 HC6.out (by omega) HX6.out
    rw [HYE.out, HPE.out] at h7
    have HS7 := Lib.hid h7; clear h7
    go_wp2_with fail
    refine HS7.out.mono ?_
    rintro e w7 ⟨g7, k7, rfl, _, h7, b7⟩
    have v1 := (HX6.out.step b7).conv
    have v2 := (HY6.out.step b7).conv
    have v3 := (HP6.out.step b7).conv
    have v4 := h7.conv
    have qs := texts_same S S rfl
    have qp := texts_same p p rfl
    have HE7 := Lib.hid (HE6.out.trans (b7.mono HE6.out.size)); clear b7 h7 HC6 HE6 HS7 HX6 HY6 HP6
    go_wp2_with fail
    go_ret
    exact ⟨rfl, HE7.out⟩
  · have q1 : ((x : Int) != (y : Int)) = true := bne_iff_ne.2 (by omega)
    go_wp2_with fail
    go_ret
    exact ⟨rfl, HE5.out⟩
theorem chainSame_walk (a0 : Option Addr) (len0 cap0 : Nat) (s0 : List UInt8) (a1 : Int) (a2 : Option Addr) (len2 cap2 : Nat) (s2 : List UInt8) (a3 : Option Addr) (len3 cap3 : Nat) (s3 : List UInt8) (w : World) (h0 : Bsl w w.heap.size a0 len0 cap0 s0) (_w1 : (Lit.int .i64 a1).wf = true) (h2 : Bsl w w.heap.size a2 len2 cap2 s2) (h3 : Bsl w w.heap.size a3 len3 cap3 s3) :
    Calls Try.prog 7 #[.slice a0 len0 cap0, .int .i64 a1, .slice a2 len2 cap2, .slice a3 len3 cap3] w fun e w' => e = .returned (.bool true) ∧ Below w.heap.size w w' := by
  have hk : (len0 : Int) ≤ 9223372036854775807 := by have h5 := h0.2.1; have h4 := h0.2.2.1; unfold maxLen at h4; omega
  have hb : (len2 : Int) ≤ 9223372036854775807 := by have h5 := h2.2.1; have h4 := h2.2.2.1; unfold maxLen at h4; omega
  have hc : (len3 : Int) ≤ 9223372036854775807 := by have h5 := h3.2.1; have h4 := h3.2.2.1; unfold maxLen at h4; omega
  by_cases k : (len0 : Int) ≤ 1000 ∧ (len2 : Int) ≤ 1000 ∧ (len3 : Int) ≤ 1000
  · obtain ⟨k1, k2, k3⟩ := k
    by_cases e1 : len0 ≠ 16 ∨ a1 < 0 ∨ 7 < a1
    · exact chainSame_bad a0 len0 cap0 a1 a2 len2 cap2 a3 len3 cap3 w k1 k2 k3 e1
    · obtain rfl : len0 = 16 := by omega
      obtain ⟨l, rfl⟩ := Int.eq_ofNat_of_zero_le (show 0 ≤ a1 by omega)
      exact chainSame_near a0 cap0 s0 l (by omega) a2 len2 cap2 s2 a3 len3 cap3 s3 w k2 k3 h0 h2 h3
  · exact chainSame_far a0 len0 cap0 _ a2 len2 cap2 a3 len3 cap3 w hk hb hc (by omega)
end Go.Proofs.Ytmegnjmnkhpppaa

namespace Go.Proofs.Ytmegnjmnkhpppaa.chainSame
open Go.ChangeShapes Go.WideShapes Go.ChangeAt Go.RowKit
set_option linter.unusedVariables false

theorem own : ownKnob Try.prog.godebug = none := by kernel_rfl
theorem laidOut : laidOutB Try.prog = true := by kernel_rfl

set_option maxRecDepth 100000 in
theorem lifted (os : Os) (started : os.Started) (H : Type) (enc : TypeId × Value → H) :
    ReturnsInHanded {} Try.checked os 7 .any (Rows.chainSameSpec.pre6 enc Try.prog Try.f7 Rows.chainSameRow.domain false) (Rows.chainSameSpec.post enc Try.prog Try.f7 false true false false) := by
  refine returnsInHanded_of_change (C := Try.checked) own started (by kernel_rfl) Try.func7
    (ChangeSpec.witness6 (enc := enc) (C := Try.checked) false ⟨#[], #[.slice none 0 0, .int .i64 0, .slice none 0 0, .slice none 0 0], []⟩ 8 (by kernel_rfl) (by kernel_rfl) (by kernel_rfl) (by kernel_rfl)) ?_
  intro W base args ds gs before hval0 hW hcnd _
  have hval : ∀ (j : Nat) t v, Try.f7.params[j]? = some t → args[j]? = some v → Value.okWide Try.prog W .any base t v := hval0
  have hW' := hW
  obtain ⟨p, q, hA0, hV, rfl, hfz, hnd⟩ := hW
  have hA : DataW.TrodAll enc Try.prog W 0 (fun _ => true) true Try.f7.params.toList args.toList ds p := hA0
  rw [Try.params7] at hA hval
  obtain ⟨v0, vs0, d0, ds0, p0, q0, hargs, rfl, rfl, h0, r0⟩ := trodAll_cons hA
  obtain ⟨v1, vs1, d1, ds1, p1, q1, rfl, rfl, rfl, h1, r1⟩ := trodAll_cons r0
  obtain ⟨v2, vs2, d2, ds2, p2, q2, rfl, rfl, rfl, h2, r2⟩ := trodAll_cons r1
  obtain ⟨v3, vs3, d3, ds3, p3, q3, rfl, rfl, rfl, h3, r3⟩ := trodAll_cons r2
  obtain ⟨rfl, rfl, rfl⟩ := trodAll_nil r3
  obtain rfl : args = #[v0, v1, v2, v3] := by cases args; simp_all
  obtain ⟨rfl, rfl⟩ := trodVars_none hV
  obtain ⟨a0, len0, cap0, rfl⟩ := okWide_slice Try.underlying22 (hval 0 22 v0 rfl rfl)
  have k0 := h0
  have lt0 : ∀ x ∈ p0, x.block < W.heap.size := by obtain ⟨m, hm⟩ := k0; exact DataW.trod_lt m _ _ _ hm
  obtain ⟨z0, w0⟩ : ∃ zs, IsRow .u8 W a0 len0 cap0 zs := by
    obtain ⟨fuel, hf⟩ := h0
    rcases open_ints Try.underlying22 Try.underlying5 (by kernel_rfl) hf with ⟨hcs, _⟩ | ⟨x, l, c, zs, hcs, _, hl, hm, hz, _, hcell, hwz⟩
    · simp [Value.cells] at hcs
      obtain ⟨rfl, rfl, rfl⟩ := hcs
      exact ⟨[], .inl ⟨rfl, rfl, rfl, rfl⟩⟩
    · simp [Value.cells] at hcs
      obtain ⟨rfl, rfl, rfl⟩ := hcs
      exact ⟨zs, .inr ⟨_, rfl, hl, hm, by simpa using hz, hcell, hwz⟩⟩
  obtain ⟨a1, rfl, rfl, rfl, w1⟩ := open_int Try.underlying3 (hval 1 3 v1 rfl rfl) h1
  obtain ⟨a2, len2, cap2, rfl⟩ := okWide_slice Try.underlying22 (hval 2 22 v2 rfl rfl)
  have k2 := h2
  have lt2 : ∀ x ∈ p2, x.block < W.heap.size := by obtain ⟨m, hm⟩ := k2; exact DataW.trod_lt m _ _ _ hm
  obtain ⟨z2, w2⟩ : ∃ zs, IsRow .u8 W a2 len2 cap2 zs := by
    obtain ⟨fuel, hf⟩ := h2
    rcases open_ints Try.underlying22 Try.underlying5 (by kernel_rfl) hf with ⟨hcs, _⟩ | ⟨x, l, c, zs, hcs, _, hl, hm, hz, _, hcell, hwz⟩
    · simp [Value.cells] at hcs
      obtain ⟨rfl, rfl, rfl⟩ := hcs
      exact ⟨[], .inl ⟨rfl, rfl, rfl, rfl⟩⟩
    · simp [Value.cells] at hcs
      obtain ⟨rfl, rfl, rfl⟩ := hcs
      exact ⟨zs, .inr ⟨_, rfl, hl, hm, by simpa using hz, hcell, hwz⟩⟩
  obtain ⟨a3, len3, cap3, rfl⟩ := okWide_slice Try.underlying22 (hval 3 22 v3 rfl rfl)
  have k3 := h3
  have lt3 : ∀ x ∈ p3, x.block < W.heap.size := by obtain ⟨m, hm⟩ := k3; exact DataW.trod_lt m _ _ _ hm
  obtain ⟨z3, w3⟩ : ∃ zs, IsRow .u8 W a3 len3 cap3 zs := by
    obtain ⟨fuel, hf⟩ := h3
    rcases open_ints Try.underlying22 Try.underlying5 (by kernel_rfl) hf with ⟨hcs, _⟩ | ⟨x, l, c, zs, hcs, _, hl, hm, hz, _, hcell, hwz⟩
    · simp [Value.cells] at hcs
      obtain ⟨rfl, rfl, rfl⟩ := hcs
      exact ⟨[], .inl ⟨rfl, rfl, rfl, rfl⟩⟩
    · simp [Value.cells] at hcs
      obtain ⟨rfl, rfl, rfl⟩ := hcs
      exact ⟨zs, .inr ⟨_, rfl, hl, hm, by simpa using hz, hcell, hwz⟩⟩
  clear hA0 hval0
  refine (chainSame_walk a0 len0 cap0 _ a1 a2 len2 cap2 _ a3 len3 cap3 _ W (bsl_of_row w0) w1 (bsl_of_row w2) (bsl_of_row w3)).mono fun e W' ⟨he, bel⟩ => ?_
  subst he
  exact ⟨_, rfl, _, _, _, [], _, [], hW', trodAll_mk1 (shut_bool Try.underlying4 _), (trodAll_cons_mk (Below.trod laidOut (by kernel_rfl) (of_decide_eq_true (by kernel_rfl)) k0 bel lt0) (trodAll_cons_mk (shut_int Try.underlying3 w1) (trodAll_cons_mk (Below.trod laidOut (by kernel_rfl) (of_decide_eq_true (by kernel_rfl)) k2 bel lt2) (trodAll_cons_mk (Below.trod laidOut (by kernel_rfl) (of_decide_eq_true (by kernel_rfl)) k3 bel lt3) trodAll_mk0)))), rfl, bel.frame _, fun h => by cases h⟩

theorem over : Rows.chainSameRow.holds Try.pinned (OpenSpec.ofChange Rows.chainSameSpec) :=
  OpenClaim.holds_of_wide 7 Try.f7 rfl rfl rfl rfl rfl rfl rfl ⟨rfl, rfl, rfl, rfl, rfl⟩ rfl rfl rfl rfl rfl (by kernel_rfl) Try.func7 (by kernel_rfl)
    (of_decide_eq_true (by kernel_rfl)) (by unfold Func.isWrapper; first | (rw [if_pos (by decide +kernel)]; kernel_rfl) | (rw [if_neg (by decide +kernel)]; exact ⟨rfl, rfl⟩))
    (fun os started H enc _ => lifted os started H enc)

/-- The statement. -/
theorem proved : Rows.ChainSameSaid := over
end Go.Proofs.Ytmegnjmnkhpppaa.chainSame
