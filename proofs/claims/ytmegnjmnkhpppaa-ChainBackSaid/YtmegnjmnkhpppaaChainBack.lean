/-
  ChainBackSaid: for any seed, leaf and text (where the seed or the text has more than 10,000 bytes the law itself answers what its example answers): what is recovered of the text signed with the seed's leaf is the leaf's public key, and what is signed has 160 bytes; or both are refused with the same error and no bytes. No condition.
-/
import Derived.Test.YtmegnjmnkhpppaaRows
import Derived.Test.YtmegnjmnkhpppaaChainAll
import Derived.Test.YtmegnjmnkhpppaaArr
namespace Go.Proofs.Ytmegnjmnkhpppaa
open Go.RowKit Go.Shelf
set_option maxRecDepth 100000

theorem Public_bad (a : Option Addr) (len cap : Nat) (l : Int) (h : len ≠ 16 ∨ l < 0 ∨ 7 < l) (w : World) : Calls Try.prog 11 #[.slice a len cap, .int .i64 l] w fun en w' => ∃ b c, en = .returned (.tuple #[.slice b 0 c, .int .i64 2]) ∧ Below w.heap.size w w' := by
  have : Calls Try.prog 11 #[.slice a len cap, .int .i64 l] w (ToldB ([], 2) w) := by
    by_cases h1 : len = 16
    · subst h1
      exact Public_leaf a cap l (by omega) w
    · exact Public_seed a len cap h1 l w
  refine this.mono ?_
  rintro e w' ⟨b, c, he, _, hb⟩
  exact ⟨b, c, he, hb⟩
theorem Sign_bad (a : Option Addr) (len cap : Nat) (l : Int) (h : len ≠ 16 ∨ l < 0 ∨ 7 < l) (u : Value) (w : World) : Calls Try.prog 8 #[.slice a len cap, .int .i64 l, u] w fun en w' => ∃ b c, en = .returned (.tuple #[.slice b 0 c, .int .i64 2]) ∧ Below w.heap.size w w' := by
  have : Calls Try.prog 8 #[.slice a len cap, .int .i64 l, u] w (ToldO ([], 2) w) := by
    by_cases h1 : len = 16
    · subst h1
      exact Sign_leaf a cap l (by omega) u w
    · exact Sign_seed a len cap h1 l u w
  refine this.mono ?_
  rintro e w' ⟨b, c, he, _, hb⟩
  exact ⟨b, c, he, hb⟩
theorem chainBack_far (k : Option Addr) (lk ck : Nat) (u : Value) (b : Option Addr) (lb cb : Nat) (w : World) (_hk : (lk : Int) ≤ 9223372036854775807) (_hb : (lb : Int) ≤ 9223372036854775807)
    (h : (10000 : Int) < lk ∨ ((lk : Int) ≤ 10000 ∧ (10000 : Int) < lb)) :
    Calls Try.prog 5 #[.slice k lk ck, u, .slice b lb cb] w fun e w' => e = .returned (.bool true) ∧ Below w.heap.size w w' := by
  have i0 : (0 : Int) ≤ lk := by omega
  have i1 : (0 : Int) ≤ lb := by omega
  rcases h with h | ⟨h1, h⟩
  all_goals
    go_enter Try.func5, Try.ntmps5
    go_wp2_with fail
    refine (alive_chain _).mono ?_
    rintro e w1 ⟨rfl, b1⟩
    have HB1 := Lib.hid b1; clear b1
    go_wp2_with fail
    go_ret
    exact ⟨rfl, HB1.out⟩
set_option maxHeartbeats 4000000 in
theorem chainBack_bad (A : Option Addr) (lk ck : Nat) (l : Int) (b : Option Addr) (lb cb : Nat) (w : World)
    (hlk : (lk : Int) ≤ 10000) (hlb : (lb : Int) ≤ 10000) (h : lk ≠ 16 ∨ l < 0 ∨ 7 < l) :
    Calls Try.prog 5 #[.slice A lk ck, .int .i64 l, .slice b lb cb] w fun e w' => e = .returned (.bool true) ∧ Below w.heap.size w w' := by
  have i0 : (0 : Int) ≤ lk := by omega
  have i1 : (0 : Int) ≤ lb := by omega
  have HT1 := Lib.hid (Public_bad A lk ck l h)
  have HT2 := Lib.hid (Sign_bad A lk ck l h (.slice b lb cb))
  go_enter Try.func5, Try.ntmps5
  go_wp2_with fail
  refine (alive_chain _).mono ?_
  rintro e w1 ⟨rfl, b1⟩
  have HE1 := Lib.hid b1; clear b1
  go_wp2_with fail
  refine (HT1.out w1).mono ?_
  rintro e w2 ⟨a2, k2, rfl, b2⟩
  have HE2 := Lib.hid (HE1.out.trans (b2.mono HE1.out.size)); clear b2 HE1
  go_wp2_with fail
  refine (HT2.out w2).mono ?_
  rintro e w3 ⟨a3, k3, rfl, b3⟩
  have HE3 := Lib.hid (HE2.out.trans (b3.mono HE2.out.size)); clear b3 HE2
  go_wp2_with fail
  go_ret
  exact ⟨rfl, HE3.out⟩
set_option maxHeartbeats 4000000 in
theorem chainBack_near (A : Option Addr) (ck : Nat) (sd : List UInt8) (l : Nat) (hl : l < 8) (b : Option Addr) (lb cb : Nat) (s : List UInt8) (w : World)
    (hlb : (lb : Int) ≤ 10000) (hA : Bsl w w.heap.size A 16 ck sd) (hB : Bsl w w.heap.size b lb cb s) :
    Calls Try.prog 5 #[.slice A 16 ck, .int .i64 l, .slice b lb cb] w fun e w' => e = .returned (.bool true) ∧ Below w.heap.size w w' := by
  have i1 : (0 : Int) ≤ lb := by omega
  have HA := Lib.hid hA; clear hA
  have HB := Lib.hid hB; clear hB
  go_enter Try.func5, Try.ntmps5
  go_wp2_with fail
  refine (alive_chain _).mono ?_
  rintro e w1 ⟨rfl, b1⟩
  have HA1 := Lib.hid (HA.out.step b1)
  have HB1 := Lib.hid (HB.out.step b1)
  have HE1 := Lib.hid b1; clear b1 HA HB
  have hp := Public_ok A ck sd l hl w1 HA1.out
  have hr := rec_sign sd l (fourW s).a.toNat
  obtain ⟨p, hpe⟩ : ∃ p, pubL l (valsL sd l lasts 10) = p := ⟨_, rfl⟩
  rw [hpe] at hp hr
  clear hpe
  have HP := Lib.hid hp; clear hp
  have HR := Lib.hid hr; clear hr
  go_wp2_with fail
  refine HP.out.mono ?_
  rintro e w2 ⟨g2, k2, rfl, _, h2, b2⟩
  have HA2 := Lib.hid (HA1.out.step b2)
  have HB2 := Lib.hid (HB1.out.step b2)
  have HQ2 := Lib.hid h2
  have HE2 := Lib.hid (HE1.out.trans (b2.mono HE1.out.size)); clear b2 h2 HA1 HB1 HE1 HP
  have HS := Lib.hid (Sign_ok A ck sd l hl b lb cb s w2 HA2.out HB2.out (by omega))
  go_wp2_with fail
  refine HS.out.mono ?_
  rintro e w3 ⟨v3, rfl, h3, b3⟩
  obtain ⟨g3, k3, rfl, _, hgl, hgc, hgm, hgs, hgh⟩ := bsl_of_own h3 (by omega)
  have HB3 := Lib.hid (HB2.out.step b3)
  have HQ3 := Lib.hid (HQ2.out.step b3)
  have HE3 := Lib.hid (HE2.out.trans (b3.mono HE2.out.size)); clear b3 h3 HA2 HB2 HQ2 HE2 HS
  have hrc := Recover_ok l hl b lb cb s g3 0 k3 _ w3 HB3.out (by omega) (bsl_of_holds hgs hgc hgm hgl hgh)
  rw [HR.out] at hrc
  have HRC := Lib.hid hrc; clear hrc hgs hgc hgm hgl hgh
  go_wp2_with fail
  refine HRC.out.mono ?_
  rintro e w4 ⟨g4, k4, rfl, _, h4, b4⟩
  have v1 := (HQ3.out.step b4).conv
  have v2 := h4.conv
  have qs := texts_same p p rfl
  have HE4 := Lib.hid (HE3.out.trans (b4.mono HE3.out.size)); clear b4 h4 HB3 HQ3 HE3 HRC
  go_wp2_with fail
  go_ret
  exact ⟨rfl, HE4.out⟩
theorem chainBack_walk (a0 : Option Addr) (len0 cap0 : Nat) (s0 : List UInt8) (a1 : Int) (a2 : Option Addr) (len2 cap2 : Nat) (s2 : List UInt8) (w : World) (h0 : Bsl w w.heap.size a0 len0 cap0 s0) (_w1 : (Lit.int .i64 a1).wf = true) (h2 : Bsl w w.heap.size a2 len2 cap2 s2) :
    Calls Try.prog 5 #[.slice a0 len0 cap0, .int .i64 a1, .slice a2 len2 cap2] w fun e w' => e = .returned (.bool true) ∧ Below w.heap.size w w' := by
  have hk : (len0 : Int) ≤ 9223372036854775807 := by have h5 := h0.2.1; have h4 := h0.2.2.1; unfold maxLen at h4; omega
  have hb : (len2 : Int) ≤ 9223372036854775807 := by have h5 := h2.2.1; have h4 := h2.2.2.1; unfold maxLen at h4; omega
  by_cases k : (len0 : Int) ≤ 10000 ∧ (len2 : Int) ≤ 10000
  · obtain ⟨k1, k2⟩ := k
    by_cases e1 : len0 ≠ 16 ∨ a1 < 0 ∨ 7 < a1
    · exact chainBack_bad a0 len0 cap0 a1 a2 len2 cap2 w k1 k2 e1
    · obtain rfl : len0 = 16 := by omega
      obtain ⟨l, rfl⟩ := Int.eq_ofNat_of_zero_le (show 0 ≤ a1 by omega)
      exact chainBack_near a0 cap0 s0 l (by omega) a2 len2 cap2 s2 w k2 h0 h2
  · exact chainBack_far a0 len0 cap0 _ a2 len2 cap2 w hk hb (by omega)
end Go.Proofs.Ytmegnjmnkhpppaa

namespace Go.Proofs.Ytmegnjmnkhpppaa.chainBack
open Go.ChangeShapes Go.WideShapes Go.ChangeAt Go.RowKit
set_option linter.unusedVariables false

theorem own : ownKnob Try.prog.godebug = none := by kernel_rfl
theorem laidOut : laidOutB Try.prog = true := by kernel_rfl

set_option maxRecDepth 100000 in
theorem lifted (os : Os) (started : os.Started) (H : Type) (enc : TypeId × Value → H) :
    ReturnsInHanded {} Try.checked os 5 .any (Rows.chainBackSpec.pre6 enc Try.prog Try.f5 Rows.chainBackRow.domain false) (Rows.chainBackSpec.post enc Try.prog Try.f5 false true false false) := by
  refine returnsInHanded_of_change (C := Try.checked) own started (by kernel_rfl) Try.func5
    (ChangeSpec.witness6 (enc := enc) (C := Try.checked) false ⟨#[], #[.slice none 0 0, .int .i64 0, .slice none 0 0], []⟩ 8 (by kernel_rfl) (by kernel_rfl) (by kernel_rfl) (by kernel_rfl)) ?_
  intro W base args ds gs before hval0 hW hcnd _
  have hval : ∀ (j : Nat) t v, Try.f5.params[j]? = some t → args[j]? = some v → Value.okWide Try.prog W .any base t v := hval0
  have hW' := hW
  obtain ⟨p, q, hA0, hV, rfl, hfz, hnd⟩ := hW
  have hA : DataW.TrodAll enc Try.prog W 0 (fun _ => true) true Try.f5.params.toList args.toList ds p := hA0
  rw [Try.params5] at hA hval
  obtain ⟨v0, vs0, d0, ds0, p0, q0, hargs, rfl, rfl, h0, r0⟩ := trodAll_cons hA
  obtain ⟨v1, vs1, d1, ds1, p1, q1, rfl, rfl, rfl, h1, r1⟩ := trodAll_cons r0
  obtain ⟨v2, vs2, d2, ds2, p2, q2, rfl, rfl, rfl, h2, r2⟩ := trodAll_cons r1
  obtain ⟨rfl, rfl, rfl⟩ := trodAll_nil r2
  obtain rfl : args = #[v0, v1, v2] := by cases args; simp_all
  obtain ⟨rfl, rfl⟩ := trodVars_none hV
  obtain ⟨a0, len0, cap0, rfl⟩ := okWide_slice Try.underlying22 (hval 0 22 v0 rfl rfl)
  have k0 := h0
  have lt0 : ∀ x ∈ p0, x.block < W.heap.size := by obtain ⟨m, hm⟩ := k0; exact DataW.trod_lt m _ _ _ hm
  obtain ⟨z0, w0⟩ : ∃ zs, IsRow .u8 W a0 len0 cap0 zs := by
    obtain ⟨fuel, hf⟩ := h0
    rcases open_ints Try.underlying22 Try.underlying5 (by kernel_rfl) hf with ⟨hcs, _⟩ | ⟨x, l, c, zs, hcs, _, hl, hm, hz, _, hcell, hwz⟩
    · simp [Value.cells] at hcs
      obtain ⟨rfl, rfl, rfl⟩ := hcs
      exact ⟨[], .inl ⟨rfl, rfl, rfl, rfl⟩⟩
    · simp [Value.cells] at hcs
      obtain ⟨rfl, rfl, rfl⟩ := hcs
      exact ⟨zs, .inr ⟨_, rfl, hl, hm, by simpa using hz, hcell, hwz⟩⟩
  obtain ⟨a1, rfl, rfl, rfl, w1⟩ := open_int Try.underlying3 (hval 1 3 v1 rfl rfl) h1
  obtain ⟨a2, len2, cap2, rfl⟩ := okWide_slice Try.underlying22 (hval 2 22 v2 rfl rfl)
  have k2 := h2
  have lt2 : ∀ x ∈ p2, x.block < W.heap.size := by obtain ⟨m, hm⟩ := k2; exact DataW.trod_lt m _ _ _ hm
  obtain ⟨z2, w2⟩ : ∃ zs, IsRow .u8 W a2 len2 cap2 zs := by
    obtain ⟨fuel, hf⟩ := h2
    rcases open_ints Try.underlying22 Try.underlying5 (by kernel_rfl) hf with ⟨hcs, _⟩ | ⟨x, l, c, zs, hcs, _, hl, hm, hz, _, hcell, hwz⟩
    · simp [Value.cells] at hcs
      obtain ⟨rfl, rfl, rfl⟩ := hcs
      exact ⟨[], .inl ⟨rfl, rfl, rfl, rfl⟩⟩
    · simp [Value.cells] at hcs
      obtain ⟨rfl, rfl, rfl⟩ := hcs
      exact ⟨zs, .inr ⟨_, rfl, hl, hm, by simpa using hz, hcell, hwz⟩⟩
  clear hA0 hval0
  refine (chainBack_walk a0 len0 cap0 _ a1 a2 len2 cap2 _ W (bsl_of_row w0) w1 (bsl_of_row w2)).mono fun e W' ⟨he, bel⟩ => ?_
  subst he
  exact ⟨_, rfl, _, _, _, [], _, [], hW', trodAll_mk1 (shut_bool Try.underlying4 _), (trodAll_cons_mk (Below.trod laidOut (by kernel_rfl) (of_decide_eq_true (by kernel_rfl)) k0 bel lt0) (trodAll_cons_mk (shut_int Try.underlying3 w1) (trodAll_cons_mk (Below.trod laidOut (by kernel_rfl) (of_decide_eq_true (by kernel_rfl)) k2 bel lt2) trodAll_mk0))), rfl, bel.frame _, fun h => by cases h⟩

theorem over : Rows.chainBackRow.holds Try.pinned (OpenSpec.ofChange Rows.chainBackSpec) :=
  OpenClaim.holds_of_wide 5 Try.f5 rfl rfl rfl rfl rfl rfl rfl ⟨rfl, rfl, rfl, rfl, rfl⟩ rfl rfl rfl rfl rfl (by kernel_rfl) Try.func5 (by kernel_rfl)
    (of_decide_eq_true (by kernel_rfl)) (by unfold Func.isWrapper; first | (rw [if_pos (by decide +kernel)]; kernel_rfl) | (rw [if_neg (by decide +kernel)]; exact ⟨rfl, rfl⟩))
    (fun os started H enc _ => lifted os started H enc)

/-- The statement. -/
theorem proved : Rows.ChainBackSaid := over
end Go.Proofs.Ytmegnjmnkhpppaa.chainBack
