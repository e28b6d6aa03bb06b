/-
  SignChecksSaid: for any public key, text and signature (where one of the three has more than 10,000 bytes the law itself answers true) whether the signature is one of the text, or the error, is the document's own, and the signature stays. No condition.
-/
import Derived.Test.YtoednighmdoooaaRows
import Derived.Test.YtoednighmdoooaaSignRefC
import Derived.Test.YtoednighmdoooaaArr
namespace Go.Proofs.Ytoednighmdoooaa
open Go.RowKit Go.Shelf
set_option maxRecDepth 100000

theorem signChecks_far (a : Option Addr) (la ca : Nat) (b : Option Addr) (lb cb : Nat) (d : Option Addr) (ld cd : Nat) (w : World) (_ha : (la : Int) ≤ 9223372036854775807) (_hb : (lb : Int) ≤ 9223372036854775807) (_hd : (ld : Int) ≤ 9223372036854775807)
    (h : (10000 : Int) < la ∨ ((la : Int) ≤ 10000 ∧ (10000 : Int) < lb) ∨ ((la : Int) ≤ 10000 ∧ (lb : Int) ≤ 10000 ∧ (10000 : Int) < ld)) :
    Calls Try.prog 5 #[.slice a la ca, .slice b lb cb, .slice d ld cd] w fun e w' => e = .returned (.bool true) ∧ Below w.heap.size w w' := by
  have i1 : (0 : Int) ≤ la := by omega
  have i2 : (0 : Int) ≤ lb := by omega
  have i3 : (0 : Int) ≤ ld := by omega
  rcases h with h | ⟨h1, h⟩ | ⟨h1, h2, h⟩
  all_goals
    go_enter Try.func5, Try.ntmps5
    go_wp2_with fail
    go_ret
    exact ⟨rfl, Below.refl _ _⟩
theorem tells_check (a : Option Addr) (la ca : Nat) (k : List UInt8) (b : Option Addr) (lb cb : Nat) (s : List UInt8) (hb : lb ≤ 100000) (d : Option Addr) (ld cd : Nat) (g : List UInt8) : ∃ (r : Bool) (c : Int), ∀ W, Bsl W W.heap.size a la ca k → Bsl W W.heap.size b lb cb s → Bsl W W.heap.size d ld cd g →
    Calls Try.prog 9 #[.slice a la ca, .slice b lb cb, .slice d ld cd] W (fun en w' => en = .returned (.tuple #[.bool r, .int .i64 c]) ∧ Below W.heap.size W w') ∧
    Calls Try.prog 15 #[.slice a la ca, .slice b lb cb, .slice d ld cd] W (fun en w' => en = .returned (.tuple #[.bool r, .int .i64 c]) ∧ Below W.heap.size W w') :=
  ⟨(schkO k (fourW s).a.toNat g).1, (schkO k (fourW s).a.toNat g).2, fun W h1 h2 h3 => ⟨Check_any a la ca k b lb cb s d ld cd g W h1 h2 (by omega) h3, rCheck_any a la ca k b lb cb s d ld cd g W h1 h2 hb h3⟩⟩
set_option maxHeartbeats 4000000 in
theorem signChecks_near (a : Option Addr) (la ca : Nat) (k : List UInt8) (b : Option Addr) (lb cb : Nat) (s : List UInt8) (d : Option Addr) (ld cd : Nat) (g : List UInt8) (w : World)
    (hla : (la : Int) ≤ 10000) (hlb : (lb : Int) ≤ 10000) (hld : (ld : Int) ≤ 10000) (hA : Bsl w w.heap.size a la ca k) (hB : Bsl w w.heap.size b lb cb s) (hD : Bsl w w.heap.size d ld cd g) :
    Calls Try.prog 5 #[.slice a la ca, .slice b lb cb, .slice d ld cd] w fun e w' => e = .returned (.bool true) ∧ Below w.heap.size w w' := by
  have i1 : (0 : Int) ≤ la := by omega
  have i2 : (0 : Int) ≤ lb := by omega
  have i3 : (0 : Int) ≤ ld := by omega
  obtain ⟨r, c, t1⟩ := tells_check a la ca k b lb cb s (by omega) d ld cd g
  have v1 := hD.conv
  have T1 := Lib.hid t1; clear t1
  have HA := Lib.hid hA; clear hA
  have HB := Lib.hid hB; clear hB
  have HD := Lib.hid hD; clear hD
  go_enter Try.func5, Try.ntmps5
  go_wp2_with fail
  clear v1
  refine (T1.out w HA.out HB.out HD.out).1.mono ?_
  rintro e w1 ⟨rfl, b1⟩
  have HA1 := Lib.hid (HA.out.step b1)
  have HB1 := Lib.hid (HB.out.step b1)
  have HD1 := Lib.hid (HD.out.step b1)
  have HE1 := Lib.hid b1; clear b1 HA HB HD
  go_wp2_with fail
  refine (T1.out w1 HA1.out HB1.out HD1.out).2.mono ?_
  rintro e w2 ⟨rfl, b2⟩
  have v2 := (HD1.out.step b2).conv
  have qs : ((strOf g).toList == (strOf g).toList) = true := by simp
  have HE2 := Lib.hid (HE1.out.trans (b2.mono HE1.out.size)); clear b2 HA1 HB1 HD1 HE1 T1
  go_wp2_with fail
  go_ret
  exact ⟨rfl, HE2.out⟩
theorem signChecks_walk (a0 : Option Addr) (len0 cap0 : Nat) (s0 : List UInt8) (a1 : Option Addr) (len1 cap1 : Nat) (s1 : List UInt8) (a2 : Option Addr) (len2 cap2 : Nat) (s2 : List UInt8) (w : World) (h0 : Bsl w w.heap.size a0 len0 cap0 s0) (h1 : Bsl w w.heap.size a1 len1 cap1 s1) (h2 : Bsl w w.heap.size a2 len2 cap2 s2) :
    Calls Try.prog 5 #[.slice a0 len0 cap0, .slice a1 len1 cap1, .slice a2 len2 cap2] w fun e w' => e = .returned (.bool true) ∧ Below w.heap.size w w' := by
  have hk : (len0 : Int) ≤ 9223372036854775807 := by have h5 := h0.2.1; have h4 := h0.2.2.1; unfold maxLen at h4; omega
  have hb : (len1 : Int) ≤ 9223372036854775807 := by have h5 := h1.2.1; have h4 := h1.2.2.1; unfold maxLen at h4; omega
  have hc : (len2 : Int) ≤ 9223372036854775807 := by have h5 := h2.2.1; have h4 := h2.2.2.1; unfold maxLen at h4; omega
  by_cases k : (len0 : Int) ≤ 10000 ∧ (len1 : Int) ≤ 10000 ∧ (len2 : Int) ≤ 10000
  · obtain ⟨k1, k2, k3⟩ := k
    exact signChecks_near a0 len0 cap0 s0 a1 len1 cap1 s1 a2 len2 cap2 s2 w k1 k2 k3 h0 h1 h2
  · exact signChecks_far a0 len0 cap0 a1 len1 cap1 a2 len2 cap2 w hk hb hc (by omega)
end Go.Proofs.Ytoednighmdoooaa

namespace Go.Proofs.Ytoednighmdoooaa.signChecks
open Go.ChangeShapes Go.WideShapes Go.ChangeAt Go.RowKit
set_option linter.unusedVariables false

theorem own : ownKnob Try.prog.godebug = none := by kernel_rfl
theorem laidOut : laidOutB Try.prog = true := by kernel_rfl

set_option maxRecDepth 100000 in
theorem lifted (os : Os) (started : os.Started) (H : Type) (enc : TypeId × Value → H) :
    ReturnsInHanded {} Try.checked os 5 .any (Rows.signChecksSpec.pre6 enc Try.prog Try.f5 Rows.signChecksRow.domain false) (Rows.signChecksSpec.post enc Try.prog Try.f5 false true false false) := by
  refine returnsInHanded_of_change (C := Try.checked) own started (by kernel_rfl) Try.func5
    (ChangeSpec.witness6 (enc := enc) (C := Try.checked) false ⟨#[], #[.slice none 0 0, .slice none 0 0, .slice none 0 0], []⟩ 8 (by kernel_rfl) (by kernel_rfl) (by kernel_rfl) (by kernel_rfl)) ?_
  intro W base args ds gs before hval0 hW hcnd _
  have hval : ∀ (j : Nat) t v, Try.f5.params[j]? = some t → args[j]? = some v → Value.okWide Try.prog W .any base t v := hval0
  have hW' := hW
  obtain ⟨p, q, hA0, hV, rfl, hfz, hnd⟩ := hW
  have hA : DataW.TrodAll enc Try.prog W 0 (fun _ => true) true Try.f5.params.toList args.toList ds p := hA0
  rw [Try.params5] at hA hval
  obtain ⟨v0, vs0, d0, ds0, p0, q0, hargs, rfl, rfl, h0, r0⟩ := trodAll_cons hA
  obtain ⟨v1, vs1, d1, ds1, p1, q1, rfl, rfl, rfl, h1, r1⟩ := trodAll_cons r0
  obtain ⟨v2, vs2, d2, ds2, p2, q2, rfl, rfl, rfl, h2, r2⟩ := trodAll_cons r1
  obtain ⟨rfl, rfl, rfl⟩ := trodAll_nil r2
  obtain rfl : args = #[v0, v1, v2] := by cases args; simp_all
  obtain ⟨rfl, rfl⟩ := trodVars_none hV
  obtain ⟨a0, len0, cap0, rfl⟩ := okWide_slice Try.underlying22 (hval 0 22 v0 rfl rfl)
  have k0 := h0
  have lt0 : ∀ x ∈ p0, x.block < W.heap.size := by obtain ⟨m, hm⟩ := k0; exact DataW.trod_lt m _ _ _ hm
  obtain ⟨z0, w0⟩ : ∃ zs, IsRow .u8 W a0 len0 cap0 zs := by
    obtain ⟨fuel, hf⟩ := h0
    rcases open_ints Try.underlying22 Try.underlying5 (by kernel_rfl) hf with ⟨hcs, _⟩ | ⟨x, l, c, zs, hcs, _, hl, hm, hz, _, hcell, hwz⟩
    · simp [Value.cells] at hcs
      obtain ⟨rfl, rfl, rfl⟩ := hcs
      exact ⟨[], .inl ⟨rfl, rfl, rfl, rfl⟩⟩
    · simp [Value.cells] at hcs
      obtain ⟨rfl, rfl, rfl⟩ := hcs
      exact ⟨zs, .inr ⟨_, rfl, hl, hm, by simpa using hz, hcell, hwz⟩⟩
  obtain ⟨a1, len1, cap1, rfl⟩ := okWide_slice Try.underlying22 (hval 1 22 v1 rfl rfl)
  have k1 := h1
  have lt1 : ∀ x ∈ p1, x.block < W.heap.size := by obtain ⟨m, hm⟩ := k1; exact DataW.trod_lt m _ _ _ hm
  obtain ⟨z1, w1⟩ : ∃ zs, IsRow .u8 W a1 len1 cap1 zs := by
    obtain ⟨fuel, hf⟩ := h1
    rcases open_ints Try.underlying22 Try.underlying5 (by kernel_rfl) hf with ⟨hcs, _⟩ | ⟨x, l, c, zs, hcs, _, hl, hm, hz, _, hcell, hwz⟩
    · simp [Value.cells] at hcs
      obtain ⟨rfl, rfl, rfl⟩ := hcs
      exact ⟨[], .inl ⟨rfl, rfl, rfl, rfl⟩⟩
    · simp [Value.cells] at hcs
      obtain ⟨rfl, rfl, rfl⟩ := hcs
      exact ⟨zs, .inr ⟨_, rfl, hl, hm, by simpa using hz, hcell, hwz⟩⟩
  obtain ⟨a2, len2, cap2, rfl⟩ := okWide_slice Try.underlying22 (hval 2 22 v2 rfl rfl)
  have k2 := h2
  have lt2 : ∀ x ∈ p2, x.block < W.heap.size := by obtain ⟨m, hm⟩ := k2; exact DataW.trod_lt m _ _ _ hm
  obtain ⟨z2, w2⟩ : ∃ zs, IsRow .u8 W a2 len2 cap2 zs := by
    obtain ⟨fuel, hf⟩ := h2
    rcases open_ints Try.underlying22 Try.underlying5 (by kernel_rfl) hf with ⟨hcs, _⟩ | ⟨x, l, c, zs, hcs, _, hl, hm, hz, _, hcell, hwz⟩
    · simp [Value.cells] at hcs
      obtain ⟨rfl, rfl, rfl⟩ := hcs
      exact ⟨[], .inl ⟨rfl, rfl, rfl, rfl⟩⟩
    · simp [Value.cells] at hcs
      obtain ⟨rfl, rfl, rfl⟩ := hcs
      exact ⟨zs, .inr ⟨_, rfl, hl, hm, by simpa using hz, hcell, hwz⟩⟩
  clear hA0 hval0
  refine (signChecks_walk a0 len0 cap0 _ a1 len1 cap1 _ a2 len2 cap2 _ W (bsl_of_row w0) (bsl_of_row w1) (bsl_of_row w2)).mono fun e W' ⟨he, bel⟩ => ?_
  subst he
  exact ⟨_, rfl, _, _, _, [], _, [], hW', trodAll_mk1 (shut_bool Try.underlying4 _), (trodAll_cons_mk (Below.trod laidOut (by kernel_rfl) (of_decide_eq_true (by kernel_rfl)) k0 bel lt0) (trodAll_cons_mk (Below.trod laidOut (by kernel_rfl) (of_decide_eq_true (by kernel_rfl)) k1 bel lt1) (trodAll_cons_mk (Below.trod laidOut (by kernel_rfl) (of_decide_eq_true (by kernel_rfl)) k2 bel lt2) trodAll_mk0))), rfl, bel.frame _, fun h => by cases h⟩

theorem over : Rows.signChecksRow.holds Try.pinned (OpenSpec.ofChange Rows.signChecksSpec) :=
  OpenClaim.holds_of_wide 5 Try.f5 rfl rfl rfl rfl rfl rfl rfl ⟨rfl, rfl, rfl, rfl, rfl⟩ rfl rfl rfl rfl rfl (by kernel_rfl) Try.func5 (by kernel_rfl)
    (of_decide_eq_true (by kernel_rfl)) (by unfold Func.isWrapper; first | (rw [if_pos (by decide +kernel)]; kernel_rfl) | (rw [if_neg (by decide +kernel)]; exact ⟨rfl, rfl⟩))
    (fun os started H enc _ => lifted os started H enc)

/-- The statement. -/
theorem proved : Rows.SignChecksSaid := over
end Go.Proofs.Ytoednighmdoooaa.signChecks
