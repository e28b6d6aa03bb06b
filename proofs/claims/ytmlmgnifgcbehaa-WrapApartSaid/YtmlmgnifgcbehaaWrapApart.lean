/-
  WrapApartSaid: for any passphrase, two keys and salt (beyond 1,000 bytes, and where one of the keys or the passphrase is none, the law itself answers what its example answers) two keys are wrapped as the same bytes just if they are the same, and the salt stands in front, the lowest byte first. No condition.
-/
import Derived.Test.YtmlmgnifgcbehaaRows
import Derived.Test.YtmlmgnifgcbehaaWrapAll
import Derived.Test.YtmlmgnifgcbehaaArr
import Derived.ChangeMaps5
namespace Go.Proofs.Ytmlmgnifgcbehaa
open Go.RowKit Go.Shelf
set_option maxRecDepth 100000

theorem wrapApart_far (p : ByteArray) (a : Option Addr) (la ca : Nat) (b : Option Addr) (lb cb : Nat) (v : Value) (w : World) (hp : (p.size : Int) ≤ 9223372036854775807) (ha : (la : Int) ≤ 9223372036854775807) (hb : (lb : Int) ≤ 9223372036854775807)
    (h : (1000 : Int) < p.size ∨ ((p.size : Int) ≤ 1000 ∧ (1000 : Int) < la) ∨ ((p.size : Int) ≤ 1000 ∧ (la : Int) ≤ 1000 ∧ (1000 : Int) < lb)) :
    Calls Try.prog 6 #[.string p, .slice a la ca, .slice b lb cb, v] w fun e w' => e = .returned (.bool true) ∧ Below w.heap.size w w' := by
  have i0 : (0 : Int) ≤ p.size := by omega
  have i1 : (0 : Int) ≤ la := by omega
  have i2 : (0 : Int) ≤ lb := by omega
  rcases h with h | ⟨h1, h⟩ | ⟨h1, h2, h⟩
  all_goals
    go_enter Try.func6, Try.ntmps6
    go_wp2_with fail
    refine (alive_wrap _).mono ?_
    rintro e w1 ⟨rfl, b1⟩
    have HB1 := Lib.hid b1; clear b1
    go_wp2_with fail
    go_ret
    exact ⟨rfl, HB1.out⟩

theorem leB4_eq (n : Nat) : leB 4 n = [byteAt n 0, byteAt n 1, byteAt n 2, byteAt n 3] := rfl
theorem wrapL_getD (p k : List UInt8) (n i : Nat) (hi : i < 4) : (wrapL p k (leB 4 n)).getD i 0 = byteAt n i := by
  unfold wrapL aheadL
  rw [List.append_assoc, List.getD_eq_getElem?_getD, List.getElem?_append_left (by rw [leB_length]; exact hi)]
  have : i = 0 ∨ i = 1 ∨ i = 2 ∨ i = 3 := by omega
  rcases this with rfl | rfl | rfl | rfl <;> rfl
theorem wrapL_eq (p k l salt : List UInt8) (hk : k.length = 16) (hl : l.length = 16) (hs : salt.length = 4) : ((strOf (wrapL p k salt)).toList == (strOf (wrapL p l salt)).toList) = ((strOf k).toList == (strOf l).toList) := by
  rw [strOf_toList, strOf_toList, strOf_toList, strOf_toList]
  by_cases h : k = l
  · subst h; simp
  · have : wrapL p k salt ≠ wrapL p l salt := fun e => h (by rw [← keyOf_wrapL p k salt hk hs, e, keyOf_wrapL p l salt hl hs])
    rw [beq_eq_false_iff_ne.2 this, beq_eq_false_iff_ne.2 h]

set_option maxHeartbeats 8000000 in
theorem wrapApart_near (p : ByteArray) (a : Option Addr) (la ca : Nat) (s : List UInt8) (b : Option Addr) (lb cb : Nat) (t : List UInt8) (n : Nat) (hn : n < 4294967296) (w : World) (hp : (p.size : Int) ≤ 1000) (hla : (la : Int) ≤ 1000) (hlb : (lb : Int) ≤ 1000) (hA : Bsl w w.heap.size a la ca s) (hB : Bsl w w.heap.size b lb cb t) :
    Calls Try.prog 6 #[.string p, .slice a la ca, .slice b lb cb, .int .u32 n] w fun e w' => e = .returned (.bool true) ∧ Below w.heap.size w w' := by
  have i0 : (0 : Int) ≤ p.size := by omega
  have i1 : (0 : Int) ≤ la := by omega
  have i2 : (0 : Int) ≤ lb := by omega
  have n0 : (0 : Int) ≤ n := by omega
  have n1 : (n : Int) ≤ 4294967295 := by omega
  have HA := Lib.hid hA; clear hA
  have HB := Lib.hid hB; clear hB
  go_enter Try.func6, Try.ntmps6
  go_wp2_with fail
  refine (alive_wrap _).mono ?_
  rintro e w1 ⟨rfl, b1⟩
  have HA1 := Lib.hid (HA.out.step b1)
  have HB1 := Lib.hid (HB.out.step b1)
  have HE1 := Lib.hid b1; clear b1 HA HB
  go_wp2_with fail
  refine (wrap_all p (by omega) a la ca s n hn w1 HA1.out).mono ?_
  rintro e w2 (⟨_, hc, rfl, b2⟩ | ⟨⟨hp64, hla16⟩, hc, g2, c2, rfl, _, h2, b2⟩)
  · have hc' : (wrapC p.size la == 0) = false := by simpa using hc
    generalize wrapC p.size la = c at *
    have HB2 := Lib.hid (HB1.out.step b2)
    have HE2 := Lib.hid (HE1.out.trans (b2.mono HE1.out.size)); clear b2
    go_wp2_with fail
    refine (wrap_all p (by omega) b lb cb t n hn w2 HB2.out).mono ?_
    rintro e w3 (⟨_, hd, rfl, b3⟩ | ⟨_, _, g3, c3, rfl, _, _, b3⟩)
    · have HE3 := Lib.hid (HE2.out.trans (b3.mono HE2.out.size)); clear b3
      go_wp2_with fail
      go_ret
      exact ⟨rfl, HE3.out⟩
    · have HE3 := Lib.hid (HE2.out.trans (b3.mono HE2.out.size)); clear b3
      go_wp2_with fail
      go_ret
      exact ⟨rfl, HE3.out⟩
  · have HA2 := Lib.hid (HA1.out.step b2)
    have HB2 := Lib.hid (HB1.out.step b2)
    have HE2 := Lib.hid (HE1.out.trans (b2.mono HE1.out.size)); clear b2
    have HX2 := Lib.hid h2; clear h2 HA1 HB1 HE1 hc hp64
    subst hla16
    go_wp2_with fail
    refine (wrap_all p (by omega) b lb cb t n hn w2 HB2.out).mono ?_
    rintro e w3 (⟨_, hd, rfl, b3⟩ | ⟨⟨hpx, hlb16⟩, hd, g3, c3, rfl, _, h3, b3⟩)
    · have hc' : (wrapC p.size lb == 0) = false := by simpa using hd
      generalize wrapC p.size lb = c at *
      have HE3 := Lib.hid (HE2.out.trans (b3.mono HE2.out.size)); clear b3
      go_wp2_with fail
      go_ret
      exact ⟨rfl, HE3.out⟩
    · clear hpx hd
      subst hlb16
      have HE3 := Lib.hid (HE2.out.trans (b3.mono HE2.out.size))
      have v1 := (HX2.out.step b3).conv
      have v2 := h3.conv
      have v3 := (HA2.out.step b3).conv
      have v4 := (HB2.out.step b3).conv
      have x0 := (HX2.out.step b3).cellD 0 (by omega)
      have x1 := (HX2.out.step b3).cellD 1 (by omega)
      have x2 := (HX2.out.step b3).cellD 2 (by omega)
      have x3 := (HX2.out.step b3).cellD 3 (by omega)
      rw [wrapL_getD _ _ n 0 (by omega), byteAt_0, Nat.zero_add] at x0
      rw [wrapL_getD _ _ n 1 (by omega), byteAt_1, Nat.zero_add] at x1
      rw [wrapL_getD _ _ n 2 (by omega), byteAt_2, Nat.zero_add] at x2
      rw [wrapL_getD _ _ n 3 (by omega), byteAt_3, Nat.zero_add] at x3
      have u : ∀ z : Int, IntKind.u8.wrap z = z % 256 := fun z => by simp [IntKind.wrap, IntKind.bits, IntKind.signed]
      have u0 := u n
      have u1 := u ((n : Int) / 256)
      have u2 := u ((n : Int) / 65536)
      have u3 := u ((n : Int) / 16777216)
      have q := wrapL_eq (strB p) s t (leB 4 n) HA2.out.1 HB2.out.1 (leB_length _ _)
      obtain ⟨r, hr⟩ : ∃ r, ((strOf s).toList == (strOf t).toList) = r := ⟨_, rfl⟩
      rw [hr] at q
      clear u h3 b3
      go_wp2_with fail
      go_ret
      exact ⟨rfl, HE3.out⟩
theorem wrapApart_walk (p : ByteArray) (a : Option Addr) (la ca : Nat) (s : List UInt8) (b : Option Addr) (lb cb : Nat) (t : List UInt8) (z : Int) (w : World) (hp : p.size ≤ maxLen) (hA : Bsl w w.heap.size a la ca s) (hB : Bsl w w.heap.size b lb cb t) (hz : (Lit.int .u32 z).wf = true) :
    Calls Try.prog 6 #[.string p, .slice a la ca, .slice b lb cb, .int .u32 z] w fun e w' => e = .returned (.bool true) ∧ Below w.heap.size w w' := by
  obtain ⟨h1, h2⟩ := u32_of_wf hz
  obtain ⟨n, rfl⟩ := Int.eq_ofNat_of_zero_le h1
  have hm : (p.size : Int) ≤ 9223372036854775807 := by unfold maxLen at hp; omega
  have ha : (la : Int) ≤ 9223372036854775807 := by have h3 := hA.2.1; have h4 := hA.2.2.1; unfold maxLen at h4; omega
  have hb : (lb : Int) ≤ 9223372036854775807 := by have h3 := hB.2.1; have h4 := hB.2.2.1; unfold maxLen at h4; omega
  by_cases k : (p.size : Int) ≤ 1000 ∧ (la : Int) ≤ 1000 ∧ (lb : Int) ≤ 1000
  · exact wrapApart_near p a la ca s b lb cb t n (by omega) w k.1 k.2.1 k.2.2 hA hB
  · exact wrapApart_far p a la ca b lb cb _ w hm ha hb (by omega)
end Go.Proofs.Ytmlmgnifgcbehaa

namespace Go.Proofs.Ytmlmgnifgcbehaa.wrapApart
open Go.ChangeShapes Go.WideShapes Go.ChangeAt Go.RowKit
open Go.ChangeMaps (open_string shut_string)
set_option linter.unusedVariables false

theorem own : ownKnob Try.prog.godebug = none := by kernel_rfl
theorem laidOut : laidOutB Try.prog = true := by kernel_rfl

set_option maxRecDepth 100000 in
theorem lifted (os : Os) (started : os.Started) (H : Type) (enc : TypeId × Value → H) :
    ReturnsInHanded {} Try.checked os 6 .any (Rows.wrapApartSpec.pre6 enc Try.prog Try.f6 Rows.wrapApartRow.domain false) (Rows.wrapApartSpec.post enc Try.prog Try.f6 false true false false) := by
  refine returnsInHanded_of_change (C := Try.checked) own started (by kernel_rfl) Try.func6
    (ChangeSpec.witness6 (enc := enc) (C := Try.checked) false ⟨#[], #[.string ⟨#[]⟩, .slice none 0 0, .slice none 0 0, .int .u32 0], []⟩ 8 (by kernel_rfl) (by kernel_rfl) (by kernel_rfl) (by kernel_rfl)) ?_
  intro W base args ds gs before hval0 hW hcnd _
  have hval : ∀ (j : Nat) t v, Try.f6.params[j]? = some t → args[j]? = some v → Value.okWide Try.prog W .any base t v := hval0
  have hW' := hW
  obtain ⟨p, q, hA0, hV, rfl, hfz, hnd⟩ := hW
  have hA : DataW.TrodAll enc Try.prog W 0 (fun _ => true) true Try.f6.params.toList args.toList ds p := hA0
  rw [Try.params6] at hA hval
  obtain ⟨v0, vs0, d0, ds0, p0, q0, hargs, rfl, rfl, h0, r0⟩ := trodAll_cons hA
  obtain ⟨v1, vs1, d1, ds1, p1, q1, rfl, rfl, rfl, h1, r1⟩ := trodAll_cons r0
  obtain ⟨v2, vs2, d2, ds2, p2, q2, rfl, rfl, rfl, h2, r2⟩ := trodAll_cons r1
  obtain ⟨v3, vs3, d3, ds3, p3, q3, rfl, rfl, rfl, h3, r3⟩ := trodAll_cons r2
  obtain ⟨rfl, rfl, rfl⟩ := trodAll_nil r3
  obtain rfl : args = #[v0, v1, v2, v3] := by cases args; simp_all
  obtain ⟨rfl, rfl⟩ := trodVars_none hV
  obtain ⟨s0, rfl, rfl, rfl, w0⟩ := open_string Try.underlying9 (hval 0 9 v0 rfl rfl) h0
  obtain ⟨a1, len1, cap1, rfl⟩ := okWide_slice Try.underlying22 (hval 1 22 v1 rfl rfl)
  have k1 := h1
  have lt1 : ∀ x ∈ p1, x.block < W.heap.size := by obtain ⟨m, hm⟩ := k1; exact DataW.trod_lt m _ _ _ hm
  obtain ⟨z1, w1⟩ : ∃ zs, IsRow .u8 W a1 len1 cap1 zs := by
    obtain ⟨fuel, hf⟩ := h1
    rcases open_ints Try.underlying22 Try.underlying5 (by kernel_rfl) hf with ⟨hcs, _⟩ | ⟨x, l, c, zs, hcs, _, hl, hm, hz, _, hcell, hwz⟩
    · simp [Value.cells] at hcs
      obtain ⟨rfl, rfl, rfl⟩ := hcs
      exact ⟨[], .inl ⟨rfl, rfl, rfl, rfl⟩⟩
    · simp [Value.cells] at hcs
      obtain ⟨rfl, rfl, rfl⟩ := hcs
      exact ⟨zs, .inr ⟨_, rfl, hl, hm, by simpa using hz, hcell, hwz⟩⟩
  obtain ⟨a2, len2, cap2, rfl⟩ := okWide_slice Try.underlying22 (hval 2 22 v2 rfl rfl)
  have k2 := h2
  have lt2 : ∀ x ∈ p2, x.block < W.heap.size := by obtain ⟨m, hm⟩ := k2; exact DataW.trod_lt m _ _ _ hm
  obtain ⟨z2, w2⟩ : ∃ zs, IsRow .u8 W a2 len2 cap2 zs := by
    obtain ⟨fuel, hf⟩ := h2
    rcases open_ints Try.underlying22 Try.underlying5 (by kernel_rfl) hf with ⟨hcs, _⟩ | ⟨x, l, c, zs, hcs, _, hl, hm, hz, _, hcell, hwz⟩
    · simp [Value.cells] at hcs
      obtain ⟨rfl, rfl, rfl⟩ := hcs
      exact ⟨[], .inl ⟨rfl, rfl, rfl, rfl⟩⟩
    · simp [Value.cells] at hcs
      obtain ⟨rfl, rfl, rfl⟩ := hcs
      exact ⟨zs, .inr ⟨_, rfl, hl, hm, by simpa using hz, hcell, hwz⟩⟩
  obtain ⟨a3, rfl, rfl, rfl, w3⟩ := open_int Try.underlying26 (hval 3 26 v3 rfl rfl) h3
  clear hA0 hval0
  refine (wrapApart_walk s0 a1 len1 cap1 _ a2 len2 cap2 _ a3 W w0 (bsl_of_row w1) (bsl_of_row w2) w3).mono fun e W' ⟨he, bel⟩ => ?_
  subst he
  exact ⟨_, rfl, _, _, _, [], _, [], hW', trodAll_mk1 (shut_bool Try.underlying4 _), (trodAll_cons_mk (shut_string Try.underlying9 w0) (trodAll_cons_mk (Below.trod laidOut (by kernel_rfl) (of_decide_eq_true (by kernel_rfl)) k1 bel lt1) (trodAll_cons_mk (Below.trod laidOut (by kernel_rfl) (of_decide_eq_true (by kernel_rfl)) k2 bel lt2) (trodAll_cons_mk (shut_int Try.underlying26 w3) trodAll_mk0)))), rfl, bel.frame _, fun h => by cases h⟩

theorem over : Rows.wrapApartRow.holds Try.pinned (OpenSpec.ofChange Rows.wrapApartSpec) :=
  OpenClaim.holds_of_wide 6 Try.f6 rfl rfl rfl rfl rfl rfl rfl ⟨rfl, rfl, rfl, rfl, rfl⟩ rfl rfl rfl rfl rfl (by kernel_rfl) Try.func6 (by kernel_rfl)
    (of_decide_eq_true (by kernel_rfl)) (by unfold Func.isWrapper; first | (rw [if_pos (by decide +kernel)]; kernel_rfl) | (rw [if_neg (by decide +kernel)]; exact ⟨rfl, rfl⟩))
    (fun os started H enc _ => lifted os started H enc)

/-- The statement. -/
theorem proved : Rows.WrapApartSaid := over
end Go.Proofs.Ytmlmgnifgcbehaa.wrapApart
