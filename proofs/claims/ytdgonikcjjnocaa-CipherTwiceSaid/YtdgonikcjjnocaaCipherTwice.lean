/-
  CipherTwiceSaid: for any key, number, bytes and length (beyond 10,000 bytes the law itself answers what its example answers): what was turned and is turned again is what it was; noughts turned are the stream; fewer bytes of a stream begin more of it; beside an error nothing is answered. No condition.
-/
import Derived.Test.YtdgonikcjjnocaaRows
import Derived.Test.YtdgonikcjjnocaaCipherAll
import Derived.Test.YtdgonikcjjnocaaArr
import Derived.BigQuiet
namespace Go.Proofs.Ytdgonikcjjnocaa
open Go.RowKit Go.Shelf
set_option maxRecDepth 100000

theorem cipherTwice_far (a : Option Addr) (la ca : Nat) (u v : Value) (b : Option Addr) (lb cb : Nat) (w : World) (_ha : (la : Int) ≤ 9223372036854775807) (_hb : (lb : Int) ≤ 9223372036854775807) (h : (10000 : Int) < la ∨ ((la : Int) ≤ 10000 ∧ (10000 : Int) < lb)) :
    Calls Try.prog 5 #[.slice a la ca, u, .slice b lb cb, v] w fun e w' => e = .returned (.bool true) ∧ Below w.heap.size w w' := by
  have i1 : (0 : Int) ≤ la := by omega
  have i2 : (0 : Int) ≤ lb := by omega
  rcases h with h | ⟨h1, h⟩
  all_goals
    go_enter Try.func5, Try.ntmps5
    go_wp2_with fail
    refine (alive_cipher _).mono ?_
    rintro e w1 ⟨rfl, b1⟩
    have HB1 := Lib.hid b1; clear b1
    go_wp2_with fail
    go_ret
    exact ⟨rfl, HB1.out⟩
theorem cipherTwice_bad (a : Option Addr) (la ca : Nat) (iv : Nat) (v : Value) (b : Option Addr) (lb cb : Nat) (w : World) (hla : (la : Int) ≤ 10000) (hlb : (lb : Int) ≤ 10000) (c : Int) (hc : (c != 0) = true) (ht : ∀ W, Calls Try.prog 8 #[.slice a la ca, .int .u32 iv, .slice b lb cb] W (Out c 0 [] W)) :
    Calls Try.prog 5 #[.slice a la ca, .int .u32 iv, .slice b lb cb, v] w fun e w' => e = .returned (.bool true) ∧ Below w.heap.size w w' := by
  have i1 : (0 : Int) ≤ la := by omega
  have i2 : (0 : Int) ≤ lb := by omega
  have HT := Lib.hid ht; clear ht
  go_enter Try.func5, Try.ntmps5
  go_wp2_with fail
  refine (alive_cipher _).mono ?_
  rintro e w1 ⟨rfl, b1⟩
  have HB1 := Lib.hid b1; clear b1
  go_wp2_with fail
  refine (HT.out w1).mono ?_
  rintro e w2 ⟨a2, c2, rfl, _, b2⟩
  have HB2 := Lib.hid (HB1.out.trans (b2.mono HB1.out.size)); clear b2
  go_wp2_with fail
  go_ret
  exact ⟨rfl, HB2.out⟩

set_option maxHeartbeats 8000000 in
theorem cipherTwice_near (a : Option Addr) (ca : Nat) (k : List UInt8) (iv : Nat) (hiv : iv < 4294967296) (b : Option Addr) (lb cb : Nat) (s : List UInt8) (n : Nat) (hn : n ≤ 65535) (w : World) (hl : lb ≤ 4096) (hA : Bsl w w.heap.size a 16 ca k) (hB : Bsl w w.heap.size b lb cb s) :
    Calls Try.prog 5 #[.slice a 16 ca, .int .u32 iv, .slice b lb cb, .int .u16 n] w fun e w' => e = .returned (.bool true) ∧ Below w.heap.size w w' := by
  have i1 : (0 : Int) ≤ lb := by omega
  have i2 : (lb : Int) ≤ 4096 := by omega
  have n0 : (0 : Int) ≤ n := by omega
  have n1 : (n : Int) ≤ 65535 := by omega
  have hs := hB.1
  obtain ⟨F, hF⟩ : ∃ F : Nat, n % (lb + 1) = F := ⟨_, rfl⟩
  have hFl : F ≤ lb := by have := Nat.mod_lt n (show 0 < lb + 1 by omega); omega
  have hFi : (n : Int) % ((lb : Int) + 1) = (F : Int) := by rw [← hF]; simp
  have HFL := Lib.hid hFl; clear hFl hF
  have HS := Lib.hid hs; clear hs
  have HA := Lib.hid hA; clear hA
  have HB := Lib.hid hB; clear hB
  go_enter Try.func5, Try.ntmps5
  go_wp2_with fail
  refine (alive_cipher _).mono ?_
  rintro e w1 ⟨rfl, b1⟩
  have HA1 := Lib.hid (HA.out.step b1)
  have HB1 := Lib.hid (HB.out.step b1)
  have HE1 := Lib.hid b1; clear b1 HA HB
  go_wp2_with fail
  refine (Turn_ok a ca k iv hiv b lb cb s hl w1 HA1.out HB1.out).mono ?_
  rintro e w2 ⟨a2, c2, rfl, h2, b2⟩
  have HA2 := Lib.hid (HA1.out.step b2)
  have HB2 := Lib.hid (HB1.out.step b2)
  have HX2 := Lib.hid (own_bsl h2)
  have HE2 := Lib.hid (HE1.out.trans (b2.mono HE1.out.size)); clear b2 h2 HA1 HB1 HE1
  go_wp2_with fail
  have t3 := Turn_ok a ca k iv hiv a2 lb c2 _ hl w2 HA2.out HX2.out
  rw [turnW'_twice] at t3
  refine t3.mono ?_
  rintro e w3 ⟨a3, c3, rfl, h3, b3⟩
  have HA3 := Lib.hid (HA2.out.step b3)
  have HB3 := Lib.hid (HB2.out.step b3)
  have HY3 := Lib.hid (own_bsl h3)
  have HE3 := Lib.hid (HE2.out.trans (b3.mono HE2.out.size)); clear t3 b3 h3 HA2 HB2 HX2 HE2
  go_wp2_with fail
  refine (Stream_ok a ca k iv lb hiv hl w3 HA3.out).mono ?_
  rintro e w4 ⟨a4, c4, rfl, h4, b4⟩
  have HA4 := Lib.hid (HA3.out.step b4)
  have HB4 := Lib.hid (HB3.out.step b4)
  have HY4 := Lib.hid (HY3.out.step b4)
  have HS4 := Lib.hid (own_bsl h4)
  have HE4 := Lib.hid (HE3.out.trans (b4.mono HE3.out.size)); clear b4 h4 HA3 HB3 HY3 HE3
  obtain ⟨w5, hw5⟩ : ∃ w5, w4.alloc (.cells (Array.replicate lb (.int .u8 0)) 5) = w5 := ⟨_, rfl⟩
  have x5 := noughts_bsl lb (by omega) w4
  have b5 := (Below.refl w4.heap.size w4).alloc (Nat.le_refl _) (.cells (Array.replicate lb (.int .u8 0)) 5)
  have m5 : (Instr.makeSlice 22 (.int .i64 lb) (.int .i64 lb)).run Try.prog w4 = .ok (.slice (some ⟨w4.heap.size, 0, none⟩) lb lb) w5 := by rw [← hw5]; exact make_noughts lb (by omega) w4
  rw [hw5] at x5 b5
  clear hw5
  have HA5 := Lib.hid (HA4.out.step b5)
  have HB5 := Lib.hid (HB4.out.step b5)
  have HY5 := Lib.hid (HY4.out.step b5)
  have HS5 := Lib.hid (HS4.out.step b5)
  have HE5 := Lib.hid (HE4.out.trans (b5.mono HE4.out.size))
  have t6 := Turn_ok a ca k iv hiv _ lb lb _ hl w5 HA5.out x5
  rw [turnW'_noughts] at t6
  have HT6 := Lib.hid t6; clear t6 x5 b5 HA4 HB4 HY4 HS4 HE4
  go_wp2_with fail
  refine HT6.out.mono ?_
  rintro e w6 ⟨a6, c6, rfl, h6, b6⟩
  have HA6 := Lib.hid (HA5.out.step b6)
  have HB6 := Lib.hid (HB5.out.step b6)
  have HY6 := Lib.hid (HY5.out.step b6)
  have HS6 := Lib.hid (HS5.out.step b6)
  have HZ6 := Lib.hid (own_bsl h6)
  have HE6 := Lib.hid (HE5.out.trans (b6.mono HE5.out.size)); clear b6 h6 m5 HT6 HA5 HB5 HY5 HS5 HE5
  go_wp2_with fail
  refine (Stream_ok a ca k iv F hiv (by have := HFL.out; omega) w6 HA6.out).mono ?_
  rintro e w7 ⟨a7, c7, rfl, h7, b7⟩
  have v1 := fun q => ((HY6.out.step b7).below (below_drewN (Below.refl _ w7) q)).conv
  have v2 := fun q => ((HB6.out.step b7).below (below_drewN (Below.refl _ w7) q)).conv
  have v3 := fun q => ((HZ6.out.step b7).below (below_drewN (Below.refl _ w7) q)).conv
  have v4 := fun q => ((HS6.out.step b7).below (below_drewN (Below.refl _ w7) q)).conv
  have v5 := fun q => ((own_bsl h7).below (below_drewN (Below.refl _ w7) q)).conv
  have hs7 := HS6.out.step b7
  have v6 := fun q => ((hs7.pre F HFL.out).below (below_drewN (Below.refl _ w7) q)).conv
  rw [stW_take k iv F lb HFL.out] at v6
  have hto : ∀ W : World, (Instr.slice 22 (.slice a4 lb c4) none (some (.int .i64 (F : Int))) none).run Try.prog W = .ok (.slice a4 F c4) W := fun W => slice_to W a4 lb c4 F (by have := hs7.2.1; have := HFL.out; omega)
  have hto2 : ∀ W : World, (Instr.slice 22 (.slice a4 lb c4) none (some (.int .i64 ((n : Int) % ((lb : Int) + 1)))) none).run Try.prog W = .ok (.slice a4 F c4) W := fun W => by rw [hFi]; exact hto W
  have HE7 := Lib.hid (HE6.out.trans (b7.mono HE6.out.size)); clear b7 h7 hs7 HA6 HB6 HY6 HS6 HZ6 HE6
  go_wp2_with fail
  go_quiet (fail)
  go_wp2_with fail
  go_ret
  exact ⟨rfl, below_drewN HE7.out _⟩
theorem cipherTwice_walk (a0 : Option Addr) (len0 cap0 : Nat) (s0 : List UInt8) (a1 : Int) (a2 : Option Addr) (len2 cap2 : Nat) (s2 : List UInt8) (a3 : Int) (w : World) (h0 : Bsl w w.heap.size a0 len0 cap0 s0) (w1 : (Lit.int .u32 a1).wf = true) (h2 : Bsl w w.heap.size a2 len2 cap2 s2) (w3 : (Lit.int .u16 a3).wf = true) :
    Calls Try.prog 5 #[.slice a0 len0 cap0, .int .u32 a1, .slice a2 len2 cap2, .int .u16 a3] w fun e w' => e = .returned (.bool true) ∧ Below w.heap.size w w' := by
  obtain ⟨g1, g2⟩ := u32_of_wf w1
  obtain ⟨iv, rfl⟩ := Int.eq_ofNat_of_zero_le g1
  obtain ⟨g3, g4⟩ := u16_of_wf w3
  obtain ⟨n, rfl⟩ := Int.eq_ofNat_of_zero_le g3
  have ha : (len0 : Int) ≤ 9223372036854775807 := by have h3 := h0.2.1; have h4 := h0.2.2.1; unfold maxLen at h4; omega
  have hb : (len2 : Int) ≤ 9223372036854775807 := by have h5 := h2.2.1; have h4 := h2.2.2.1; unfold maxLen at h4; omega
  by_cases k : (len0 : Int) ≤ 10000 ∧ (len2 : Int) ≤ 10000
  · by_cases k1 : len0 = 16
    · subst k1
      by_cases k2 : len2 ≤ 4096
      · exact cipherTwice_near a0 cap0 s0 iv (by omega) a2 len2 cap2 s2 n (by omega) w k2 h0 h2
      · exact cipherTwice_bad a0 16 cap0 iv _ a2 len2 cap2 w k.1 k.2 3 rfl fun W => Turn_far a0 cap0 _ a2 len2 cap2 (by omega) W
    · exact cipherTwice_bad a0 len0 cap0 iv _ a2 len2 cap2 w k.1 k.2 2 rfl fun W => Turn_key a0 len0 cap0 k1 _ _ W
  · exact cipherTwice_far a0 len0 cap0 _ _ a2 len2 cap2 w ha hb (by omega)
end Go.Proofs.Ytdgonikcjjnocaa

namespace Go.Proofs.Ytdgonikcjjnocaa.cipherTwice
open Go.ChangeShapes Go.WideShapes Go.ChangeAt Go.RowKit
set_option linter.unusedVariables false

theorem own : ownKnob Try.prog.godebug = none := by kernel_rfl
theorem laidOut : laidOutB Try.prog = true := by kernel_rfl

set_option maxRecDepth 100000 in
theorem lifted (os : Os) (started : os.Started) (H : Type) (enc : TypeId × Value → H) :
    ReturnsInHanded {} Try.checked os 5 .any (Rows.cipherTwiceSpec.pre6 enc Try.prog Try.f5 Rows.cipherTwiceRow.domain false) (Rows.cipherTwiceSpec.post enc Try.prog Try.f5 false true false false) := by
  refine returnsInHanded_of_change (C := Try.checked) own started (by kernel_rfl) Try.func5
    (ChangeSpec.witness6 (enc := enc) (C := Try.checked) false ⟨#[], #[.slice none 0 0, .int .u32 0, .slice none 0 0, .int .u16 0], []⟩ 8 (by kernel_rfl) (by kernel_rfl) (by kernel_rfl) (by kernel_rfl)) ?_
  intro W base args ds gs before hval0 hW hcnd _
  have hval : ∀ (j : Nat) t v, Try.f5.params[j]? = some t → args[j]? = some v → Value.okWide Try.prog W .any base t v := hval0
  have hW' := hW
  obtain ⟨p, q, hA0, hV, rfl, hfz, hnd⟩ := hW
  have hA : DataW.TrodAll enc Try.prog W 0 (fun _ => true) true Try.f5.params.toList args.toList ds p := hA0
  rw [Try.params5] at hA hval
  obtain ⟨v0, vs0, d0, ds0, p0, q0, hargs, rfl, rfl, h0, r0⟩ := trodAll_cons hA
  obtain ⟨v1, vs1, d1, ds1, p1, q1, rfl, rfl, rfl, h1, r1⟩ := trodAll_cons r0
  obtain ⟨v2, vs2, d2, ds2, p2, q2, rfl, rfl, rfl, h2, r2⟩ := trodAll_cons r1
  obtain ⟨v3, vs3, d3, ds3, p3, q3, rfl, rfl, rfl, h3, r3⟩ := trodAll_cons r2
  obtain ⟨rfl, rfl, rfl⟩ := trodAll_nil r3
  obtain rfl : args = #[v0, v1, v2, v3] := by cases args; simp_all
  obtain ⟨rfl, rfl⟩ := trodVars_none hV
  obtain ⟨a0, len0, cap0, rfl⟩ := okWide_slice Try.underlying22 (hval 0 22 v0 rfl rfl)
  have k0 := h0
  have lt0 : ∀ x ∈ p0, x.block < W.heap.size := by obtain ⟨m, hm⟩ := k0; exact DataW.trod_lt m _ _ _ hm
  obtain ⟨z0, w0⟩ : ∃ zs, IsRow .u8 W a0 len0 cap0 zs := by
    obtain ⟨fuel, hf⟩ := h0
    rcases open_ints Try.underlying22 Try.underlying5 (by kernel_rfl) hf with ⟨hcs, _⟩ | ⟨x, l, c, zs, hcs, _, hl, hm, hz, _, hcell, hwz⟩
    · simp [Value.cells] at hcs
      obtain ⟨rfl, rfl, rfl⟩ := hcs
      exact ⟨[], .inl ⟨rfl, rfl, rfl, rfl⟩⟩
    · simp [Value.cells] at hcs
      obtain ⟨rfl, rfl, rfl⟩ := hcs
      exact ⟨zs, .inr ⟨_, rfl, hl, hm, by simpa using hz, hcell, hwz⟩⟩
  obtain ⟨a1, rfl, rfl, rfl, w1⟩ := open_int Try.underlying26 (hval 1 26 v1 rfl rfl) h1
  obtain ⟨a2, len2, cap2, rfl⟩ := okWide_slice Try.underlying22 (hval 2 22 v2 rfl rfl)
  have k2 := h2
  have lt2 : ∀ x ∈ p2, x.block < W.heap.size := by obtain ⟨m, hm⟩ := k2; exact DataW.trod_lt m _ _ _ hm
  obtain ⟨z2, w2⟩ : ∃ zs, IsRow .u8 W a2 len2 cap2 zs := by
    obtain ⟨fuel, hf⟩ := h2
    rcases open_ints Try.underlying22 Try.underlying5 (by kernel_rfl) hf with ⟨hcs, _⟩ | ⟨x, l, c, zs, hcs, _, hl, hm, hz, _, hcell, hwz⟩
    · simp [Value.cells] at hcs
      obtain ⟨rfl, rfl, rfl⟩ := hcs
      exact ⟨[], .inl ⟨rfl, rfl, rfl, rfl⟩⟩
    · simp [Value.cells] at hcs
      obtain ⟨rfl, rfl, rfl⟩ := hcs
      exact ⟨zs, .inr ⟨_, rfl, hl, hm, by simpa using hz, hcell, hwz⟩⟩
  obtain ⟨a3, rfl, rfl, rfl, w3⟩ := open_int Try.underlying33 (hval 3 33 v3 rfl rfl) h3
  clear hA0 hval0
  refine (cipherTwice_walk a0 len0 cap0 _ a1 a2 len2 cap2 _ a3 W (bsl_of_row w0) w1 (bsl_of_row w2) w3).mono fun e W' ⟨he, bel⟩ => ?_
  subst he
  exact ⟨_, rfl, _, _, _, [], _, [], hW', trodAll_mk1 (shut_bool Try.underlying4 _), (trodAll_cons_mk (Below.trod laidOut (by kernel_rfl) (of_decide_eq_true (by kernel_rfl)) k0 bel lt0) (trodAll_cons_mk (shut_int Try.underlying26 w1) (trodAll_cons_mk (Below.trod laidOut (by kernel_rfl) (of_decide_eq_true (by kernel_rfl)) k2 bel lt2) (trodAll_cons_mk (shut_int Try.underlying33 w3) trodAll_mk0)))), rfl, bel.frame _, fun h => by cases h⟩

theorem over : Rows.cipherTwiceRow.holds Try.pinned (OpenSpec.ofChange Rows.cipherTwiceSpec) :=
  OpenClaim.holds_of_wide 5 Try.f5 rfl rfl rfl rfl rfl rfl rfl ⟨rfl, rfl, rfl, rfl, rfl⟩ rfl rfl rfl rfl rfl (by kernel_rfl) Try.func5 (by kernel_rfl)
    (of_decide_eq_true (by kernel_rfl)) (by unfold Func.isWrapper; first | (rw [if_pos (by decide +kernel)]; kernel_rfl) | (rw [if_neg (by decide +kernel)]; exact ⟨rfl, rfl⟩))
    (fun os started H enc _ => lifted os started H enc)

/-- The statement. -/
theorem proved : Rows.CipherTwiceSaid := over
end Go.Proofs.Ytdgonikcjjnocaa.cipherTwice
