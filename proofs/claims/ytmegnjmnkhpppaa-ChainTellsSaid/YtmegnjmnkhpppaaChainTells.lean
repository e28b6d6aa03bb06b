/-
  ChainTellsSaid: for any seed, leaf, text and signature (where one of the three lists has more than 10,000 bytes the law itself answers true) a text's digits, a leaf's public key, a text signed, the public key that is recovered, and the errors, are the document's own; seed and signature stay, also when what Sign answered is written to. No condition.
-/
import Derived.Test.YtmegnjmnkhpppaaRows
import Derived.Test.YtmegnjmnkhpppaaChainRefB
import Derived.Test.YtmegnjmnkhpppaaRowI
import Derived.Test.YtmegnjmnkhpppaaArr
namespace Go.Proofs.Ytmegnjmnkhpppaa
open Go.RowKit Go.Shelf
set_option maxRecDepth 100000

theorem rowI_of {w : World} {B g n cap : Nat} {s : List UInt8} (h : w.ownsRow B 5 1 (.slice (some ⟨g, 0, none⟩) n cap) n (vals s)) : RowI w g n cap s ∧ B ≤ g ∧ cap ≤ maxLen := by
  have hl : s.length = n := by have := h.1; simpa [vals] using this
  obtain ⟨h1, ⟨h2, h3⟩ | ⟨g, cap', cur, h2, hb, hh, hnc, hcm, hsz, ht⟩⟩ := h
  · cases h2
  · cases h2
    exact ⟨⟨cur, hh, by omega, hl, hnc, by simpa using ht⟩, hb, hcm⟩
theorem text_same (s : List UInt8) : ((strOf s).toList == (strOf s).toList) = true := by simp
/-- What the two sides answer, a call after the other: the same list, the same error. -/
theorem tells_pub (a : Option Addr) (la ca : Nat) (k : List UInt8) (l : Int) : ∃ (c : Int) (N : Nat) (x : List UInt8), ∀ W, Bsl W W.heap.size a la ca k →
    Calls Try.prog 11 #[.slice a la ca, .int .i64 l] W (fun en w' => ∃ b cap, en = .returned (.tuple #[.slice b N cap, .int .i64 c]) ∧ Bsl w' w'.heap.size b N cap x ∧ Below W.heap.size W w') ∧
    Calls Try.prog 12 #[.slice a la ca, .int .i64 l] W (fun en w' => ∃ b cap, en = .returned (.tuple #[.slice b N cap, .int .i64 c]) ∧ Bsl w' w'.heap.size b N cap x ∧ Below W.heap.size W w') :=
  ⟨(pubO k l).2, (pubO k l).1.length, (pubO k l).1, fun W h => ⟨Public_any a la ca k l W h, rPublic_any a la ca k l W h⟩⟩
theorem tells_sign (a : Option Addr) (la ca : Nat) (k : List UInt8) (l : Int) (b : Option Addr) (lb cb : Nat) (s : List UInt8) (hb : lb ≤ 100000) : ∃ (c : Int) (N : Nat) (x : List UInt8), ∀ W, Bsl W W.heap.size a la ca k → Bsl W W.heap.size b lb cb s →
    Calls Try.prog 8 #[.slice a la ca, .int .i64 l, .slice b lb cb] W (fun en w' => ∃ b cap, en = .returned (.tuple #[.slice b N cap, .int .i64 c]) ∧ w'.ownsRow W.heap.size 5 1 (.slice b N cap) N (vals x) ∧ Below W.heap.size W w') ∧
    Calls Try.prog 13 #[.slice a la ca, .int .i64 l, .slice b lb cb] W (fun en w' => ∃ b cap, en = .returned (.tuple #[.slice b N cap, .int .i64 c]) ∧ Bsl w' w'.heap.size b N cap x ∧ Below W.heap.size W w') :=
  ⟨(signO k l (fourW s).a.toNat).2, (signO k l (fourW s).a.toNat).1.length, (signO k l (fourW s).a.toNat).1, fun W h h' => ⟨Sign_any a la ca k l b lb cb s W h h' (by omega), rSign_any a la ca k l b lb cb s W h h' hb⟩⟩
theorem tells_rec (l : Int) (b : Option Addr) (lb cb : Nat) (s : List UInt8) (hb : lb ≤ 100000) (d : Option Addr) (ld cd : Nat) (g : List UInt8) : ∃ (c : Int) (N : Nat) (x : List UInt8), ∀ W, Bsl W W.heap.size b lb cb s → Bsl W W.heap.size d ld cd g →
    Calls Try.prog 9 #[.int .i64 l, .slice b lb cb, .slice d ld cd] W (fun en w' => ∃ b cap, en = .returned (.tuple #[.slice b N cap, .int .i64 c]) ∧ Bsl w' w'.heap.size b N cap x ∧ Below W.heap.size W w') ∧
    Calls Try.prog 14 #[.int .i64 l, .slice b lb cb, .slice d ld cd] W (fun en w' => ∃ b cap, en = .returned (.tuple #[.slice b N cap, .int .i64 c]) ∧ Bsl w' w'.heap.size b N cap x ∧ Below W.heap.size W w') :=
  ⟨(recO l (fourW s).a.toNat g).2, (recO l (fourW s).a.toNat g).1.length, (recO l (fourW s).a.toNat g).1, fun W h h' => ⟨Recover_any l b lb cb s d ld cd g W h (by omega) h', rRecover_any l b lb cb s d ld cd g W h hb h'⟩⟩

theorem chainTells_far (a : Option Addr) (la ca : Nat) (u : Value) (b : Option Addr) (lb cb : Nat) (d : Option Addr) (ld cd : Nat) (w : World) (_ha : (la : Int) ≤ 9223372036854775807) (_hb : (lb : Int) ≤ 9223372036854775807) (_hd : (ld : Int) ≤ 9223372036854775807)
    (h : (10000 : Int) < la ∨ ((la : Int) ≤ 10000 ∧ (10000 : Int) < lb) ∨ ((la : Int) ≤ 10000 ∧ (lb : Int) ≤ 10000 ∧ (10000 : Int) < ld)) :
    Calls Try.prog 4 #[.slice a la ca, u, .slice b lb cb, .slice d ld cd] w fun e w' => e = .returned (.bool true) ∧ Below w.heap.size w w' := by
  have i1 : (0 : Int) ≤ la := by omega
  have i2 : (0 : Int) ≤ lb := by omega
  have i3 : (0 : Int) ≤ ld := by omega
  rcases h with h | ⟨h1, h⟩ | ⟨h1, h2, h⟩
  all_goals
    go_enter Try.func4, Try.ntmps4
    go_wp2_with fail
    go_ret
    exact ⟨rfl, Below.refl _ _⟩

set_option maxHeartbeats 8000000 in
theorem chainTells_near (a : Option Addr) (la ca : Nat) (k : List UInt8) (l : Int) (b : Option Addr) (lb cb : Nat) (s : List UInt8) (d : Option Addr) (ld cd : Nat) (g : List UInt8) (w : World)
    (hla : (la : Int) ≤ 10000) (hlb : (lb : Int) ≤ 10000) (hld : (ld : Int) ≤ 10000) (hA : Bsl w w.heap.size a la ca k) (hB : Bsl w w.heap.size b lb cb s) (hD : Bsl w w.heap.size d ld cd g) :
    Calls Try.prog 4 #[.slice a la ca, .int .i64 l, .slice b lb cb, .slice d ld cd] w fun e w' => e = .returned (.bool true) ∧ Below w.heap.size w w' := by
  have i1 : (0 : Int) ≤ la := by omega
  have i2 : (0 : Int) ≤ lb := by omega
  have i3 : (0 : Int) ≤ ld := by omega
  obtain ⟨c1, N1, S1, t1⟩ := tells_pub a la ca k l
  obtain ⟨c2, N2, S2, t2⟩ := tells_sign a la ca k l b lb cb s (by omega)
  obtain ⟨c3, N3, S3, t3⟩ := tells_rec l b lb cb s (by omega) d ld cd g
  have v1 := hA.conv
  have v2 := hD.conv
  have T1 := Lib.hid t1; clear t1
  have T2 := Lib.hid t2; clear t2
  have T3 := Lib.hid t3; clear t3
  have HA := Lib.hid hA; clear hA
  have HB := Lib.hid hB; clear hB
  have HD := Lib.hid hD; clear hD
  go_enter Try.func4, Try.ntmps4
  go_wp2_with fail
  clear v1 v2
  refine (T1.out w HA.out).1.mono ?_
  rintro e w1 ⟨a1, k1, rfl, h1, b1⟩
  have HA1 := Lib.hid (HA.out.step b1)
  have HB1 := Lib.hid (HB.out.step b1)
  have HD1 := Lib.hid (HD.out.step b1)
  have HP1 := Lib.hid h1; clear h1
  have HE1 := Lib.hid b1; clear b1 HB
  go_wp2_with fail
  refine (T1.out w1 HA1.out).2.mono ?_
  rintro e w2 ⟨a2, k2, rfl, h2, b2⟩
  have HA2 := Lib.hid (HA1.out.step b2)
  have HB2 := Lib.hid (HB1.out.step b2)
  have HD2 := Lib.hid (HD1.out.step b2)
  have HP2 := Lib.hid (HP1.out.step b2)
  have HQ2 := Lib.hid h2; clear h2
  have HE2 := Lib.hid (HE1.out.trans (b2.mono HE1.out.size)); clear b2 HA1 HB1 HD1 HP1 HE1 T1
  go_wp2_with fail
  refine (T2.out w2 HA2.out HB2.out).1.mono ?_
  rintro e w3 ⟨a3, k3, rfl, h3, b3⟩
  have HA3 := Lib.hid (HA2.out.step b3)
  have HB3 := Lib.hid (HB2.out.step b3)
  have HD3 := Lib.hid (HD2.out.step b3)
  have HP3 := Lib.hid (HP2.out.step b3)
  have HQ3 := Lib.hid (HQ2.out.step b3)
  have HV3 := Lib.hid (own_mono h3 HE2.out.size); clear h3
  have HE3 := Lib.hid (HE2.out.trans (b3.mono HE2.out.size)); clear b3 HA2 HB2 HD2 HP2 HQ2 HE2
  go_wp2_with fail
  refine (T2.out w3 HA3.out HB3.out).2.mono ?_
  rintro e w4 ⟨a4, k4, rfl, h4, b4⟩
  have HB4 := Lib.hid (HB3.out.step b4)
  have HD4 := Lib.hid (HD3.out.step b4)
  have HP4 := Lib.hid (HP3.out.step b4)
  have HQ4 := Lib.hid (HQ3.out.step b4)
  have HV4 := Lib.hid (own_below HV3.out b4)
  have HW4 := Lib.hid h4; clear h4
  have HE4 := Lib.hid (HE3.out.trans (b4.mono HE3.out.size)); clear b4 HA3 HB3 HD3 HP3 HQ3 HV3 HE3 T2
  go_wp2_with fail
  refine (T3.out w4 HB4.out HD4.out).1.mono ?_
  rintro e w5 ⟨a5, k5, rfl, h5, b5⟩
  have HB5 := Lib.hid (HB4.out.step b5)
  have HD5 := Lib.hid (HD4.out.step b5)
  have HP5 := Lib.hid (HP4.out.step b5)
  have HQ5 := Lib.hid (HQ4.out.step b5)
  have HV5 := Lib.hid (own_below HV4.out b5)
  have HW5 := Lib.hid (HW4.out.step b5)
  have HR5 := Lib.hid h5; clear h5
  have HE5 := Lib.hid (HE4.out.trans (b5.mono HE4.out.size)); clear b5 HB4 HD4 HP4 HQ4 HV4 HW4 HE4
  go_wp2_with fail
  refine (T3.out w5 HB5.out HD5.out).2.mono ?_
  rintro e w6 ⟨a6, k6, rfl, h6, b6⟩
  have hv6 := own_below HV5.out b6
  have q1 := (HP5.out.step b6).conv
  have q2 := (HQ5.out.step b6).conv
  have q3 := (own_bsl hv6).conv
  have q4 := (HW5.out.step b6).conv
  have q5 := (HR5.out.step b6).conv
  have q6 := h6.conv
  have HB6 := Lib.hid (HB5.out.step b6)
  have HV6 := Lib.hid hv6
  have HE6 := Lib.hid (HE5.out.trans (b6.mono HE5.out.size)); clear b6 hv6 h6 HB5 HD5 HP5 HQ5 HV5 HW5 HR5 HE5 T3
  have r1 := text_same S1
  have r2 := text_same S2
  have r3 := text_same S3
  go_wp2_with fail
  clear q1 q2 q3 q4 q5 q6 r1 r2 r3
  refine (digits_any b lb cb s w6 HB6.out (by omega)).mono ?_
  rintro e w7 ⟨v7, rfl, h7, b7⟩
  obtain ⟨g7, k7, rfl, _, _, hn7⟩ := nsl_of_own h7 (by omega)
  have HB7 := Lib.hid (HB6.out.step b7)
  have HV7 := Lib.hid (own_below HV6.out b7)
  have HN7 := Lib.hid hn7
  have HE7 := Lib.hid (HE6.out.trans (b7.mono HE6.out.size)); clear b7 h7 hn7 HB6 HV6 HE6
  go_wp2_with fail
  refine (rdigits_any b lb cb s w7 HB7.out (by omega)).mono ?_
  rintro e w8 ⟨v8, rfl, h8, b8⟩
  obtain ⟨g8, k8, rfl, _, _, hn8⟩ := nsl_of_own h8 (by omega)
  have HV8 := Lib.hid (own_below HV7.out b8)
  have HN8 := Lib.hid (HN7.out.step b8)
  have HM8 := Lib.hid hn8
  have HE8 := Lib.hid (HE7.out.trans (b8.mono HE7.out.size)); clear b8 h8 hn8 HB7 HV7 HN7 HE7
  go_wp2_with fail
  refine (rsame_any _ _ _ _ _ w8 HN8.out HM8.out).mono ?_
  rintro e w9 ⟨rfl, b9⟩
  have HV9 := Lib.hid (own_below HV8.out b9)
  have HE9 := Lib.hid (HE8.out.trans (b9.mono HE8.out.size)); clear b9 HV8 HN8 HM8 HE8
  go_wp2_with fail
  have hn0 : (0 : Int) ≤ N2 := by omega
  have hn1 : (N2 : Int) ≤ 9223372036854775807 := by have := (own_bsl HV9.out).2; have h5 := this.2.1; unfold maxLen at h5; omega
  have hst : ∀ g, a3 = some ⟨g, 0, none⟩ → ∃ t, RowI w9 g N2 k3 t := by
    rintro g rfl
    exact ⟨_, (rowI_of HV9.out).1⟩
  go_loopw [24] (fun i wr => ∃ j : Nat, j ≤ N2 ∧ i = .int .i64 j ∧ Hid (∀ g, a3 = some ⟨g, 0, none⟩ → ∃ t, RowI wr g N2 k3 t) ∧ Hid (Below w.heap.size w wr)) (fun i _ => N2 - (intOf i).toNat)
  case atStart => exact ⟨0, Nat.zero_le _, rfl, Lib.hid hst, HE9⟩
  case round =>
    obtain ⟨j, hj, rfl, HRr, HBr⟩ := hrel
    by_cases hlt : j < N2
    · have j0 : (0 : Int) ≤ j := by omega
      have j1 : (j : Int) < N2 := by omega
      obtain ⟨g, rfl, hgb⟩ : ∃ g, a3 = some ⟨g, 0, none⟩ ∧ w.heap.size ≤ g := by
        obtain ⟨_, ⟨h, h'⟩ | ⟨g, c, _, h, h', _⟩⟩ := HV9.out
        · omega
        · cases h; exact ⟨g, rfl, h'⟩
      obtain ⟨t, hr⟩ := HRr.out g rfl
      have htl : t.length = N2 := by obtain ⟨_, _, _, h, _⟩ := hr; exact h
      have hjt : j < t.length := by omega
      have ct := hr.holds j hjt
      have ft : wr.frozen? ⟨g, j, none⟩ = false := by obtain ⟨cur, hc, _⟩ := hr; exact hc.frozen j
      obtain ⟨x, hx⟩ : ∃ x, t[j] = x := ⟨_, rfl⟩
      rw [hx] at ct
      have hx1 : (((x + 1 : UInt8).toNat : Nat) : Int) = ((x.toNat : Int) + 1) % 256 := by rw [UInt8.toNat_add]; simp
      have hs := hr.set_ hlt (x + 1)
      rw [hx1] at hs
      have HS := Lib.hid hs; clear hs hr hx1 hx hjt htl
      have x0 : (0 : Int) ≤ x.toNat := by omega
      have x1 : (x.toNat : Int) ≤ 255 := by have := x.toNat_lt; omega
      go_wp2_with fail
      go_roundw
      case rel => exact ⟨j + 1, by omega, by go_num, Lib.hid (fun _ e => by cases e; exact ⟨_, HS.out⟩), Lib.hid (HBr.out.setCell (p := ⟨g, j, none⟩) hgb _)⟩
      case measure => simp [intOf]; omega
    · obtain rfl : j = N2 := by omega
      have v1 := (HA.out.below HBr.out).conv
      have v2 := (HD.out.below HBr.out).conv
      have r1 := text_same k
      have r2 := text_same g
      clear hst
      go_wp2_with fail
      go_ret
      exact ⟨rfl, HBr.out⟩
theorem chainTells_walk (a0 : Option Addr) (len0 cap0 : Nat) (s0 : List UInt8) (a1 : Int) (a2 : Option Addr) (len2 cap2 : Nat) (s2 : List UInt8) (a3 : Option Addr) (len3 cap3 : Nat) (s3 : List UInt8) (w : World) (h0 : Bsl w w.heap.size a0 len0 cap0 s0) (_w1 : (Lit.int .i64 a1).wf = true) (h2 : Bsl w w.heap.size a2 len2 cap2 s2) (h3 : Bsl w w.heap.size a3 len3 cap3 s3) :
    Calls Try.prog 4 #[.slice a0 len0 cap0, .int .i64 a1, .slice a2 len2 cap2, .slice a3 len3 cap3] w fun e w' => e = .returned (.bool true) ∧ Below w.heap.size w w' := by
  have hk : (len0 : Int) ≤ 9223372036854775807 := by have h5 := h0.2.1; have h4 := h0.2.2.1; unfold maxLen at h4; omega
  have hb : (len2 : Int) ≤ 9223372036854775807 := by have h5 := h2.2.1; have h4 := h2.2.2.1; unfold maxLen at h4; omega
  have hc : (len3 : Int) ≤ 9223372036854775807 := by have h5 := h3.2.1; have h4 := h3.2.2.1; unfold maxLen at h4; omega
  by_cases k : (len0 : Int) ≤ 10000 ∧ (len2 : Int) ≤ 10000 ∧ (len3 : Int) ≤ 10000
  · exact chainTells_near a0 len0 cap0 s0 a1 a2 len2 cap2 s2 a3 len3 cap3 s3 w k.1 k.2.1 k.2.2 h0 h2 h3
  · exact chainTells_far a0 len0 cap0 _ a2 len2 cap2 a3 len3 cap3 w hk hb hc (by omega)
end Go.Proofs.Ytmegnjmnkhpppaa

namespace Go.Proofs.Ytmegnjmnkhpppaa.chainTells
open Go.ChangeShapes Go.WideShapes Go.ChangeAt Go.RowKit
set_option linter.unusedVariables false

theorem own : ownKnob Try.prog.godebug = none := by kernel_rfl
theorem laidOut : laidOutB Try.prog = true := by kernel_rfl

set_option maxRecDepth 100000 in
theorem lifted (os : Os) (started : os.Started) (H : Type) (enc : TypeId × Value → H) :
    ReturnsInHanded {} Try.checked os 4 .any (Rows.chainTellsSpec.pre6 enc Try.prog Try.f4 Rows.chainTellsRow.domain false) (Rows.chainTellsSpec.post enc Try.prog Try.f4 false true false false) := by
  refine returnsInHanded_of_change (C := Try.checked) own started (by kernel_rfl) Try.func4
    (ChangeSpec.witness6 (enc := enc) (C := Try.checked) false ⟨#[], #[.slice none 0 0, .int .i64 0, .slice none 0 0, .slice none 0 0], []⟩ 8 (by kernel_rfl) (by kernel_rfl) (by kernel_rfl) (by kernel_rfl)) ?_
  intro W base args ds gs before hval0 hW hcnd _
  have hval : ∀ (j : Nat) t v, Try.f4.params[j]? = some t → args[j]? = some v → Value.okWide Try.prog W .any base t v := hval0
  have hW' := hW
  obtain ⟨p, q, hA0, hV, rfl, hfz, hnd⟩ := hW
  have hA : DataW.TrodAll enc Try.prog W 0 (fun _ => true) true Try.f4.params.toList args.toList ds p := hA0
  rw [Try.params4] at hA hval
  obtain ⟨v0, vs0, d0, ds0, p0, q0, hargs, rfl, rfl, h0, r0⟩ := trodAll_cons hA
  obtain ⟨v1, vs1, d1, ds1, p1, q1, rfl, rfl, rfl, h1, r1⟩ := trodAll_cons r0
  obtain ⟨v2, vs2, d2, ds2, p2, q2, rfl, rfl, rfl, h2, r2⟩ := trodAll_cons r1
  obtain ⟨v3, vs3, d3, ds3, p3, q3, rfl, rfl, rfl, h3, r3⟩ := trodAll_cons r2
  obtain ⟨rfl, rfl, rfl⟩ := trodAll_nil r3
  obtain rfl : args = #[v0, v1, v2, v3] := by cases args; simp_all
  obtain ⟨rfl, rfl⟩ := trodVars_none hV
  obtain ⟨a0, len0, cap0, rfl⟩ := okWide_slice Try.underlying22 (hval 0 22 v0 rfl rfl)
  have k0 := h0
  have lt0 : ∀ x ∈ p0, x.block < W.heap.size := by obtain ⟨m, hm⟩ := k0; exact DataW.trod_lt m _ _ _ hm
  obtain ⟨z0, w0⟩ : ∃ zs, IsRow .u8 W a0 len0 cap0 zs := by
    obtain ⟨fuel, hf⟩ := h0
    rcases open_ints Try.underlying22 Try.underlying5 (by kernel_rfl) hf with ⟨hcs, _⟩ | ⟨x, l, c, zs, hcs, _, hl, hm, hz, _, hcell, hwz⟩
    · simp [Value.cells] at hcs
      obtain ⟨rfl, rfl, rfl⟩ := hcs
      exact ⟨[], .inl ⟨rfl, rfl, rfl, rfl⟩⟩
    · simp [Value.cells] at hcs
      obtain ⟨rfl, rfl, rfl⟩ := hcs
      exact ⟨zs, .inr ⟨_, rfl, hl, hm, by simpa using hz, hcell, hwz⟩⟩
  obtain ⟨a1, rfl, rfl, rfl, w1⟩ := open_int Try.underlying3 (hval 1 3 v1 rfl rfl) h1
  obtain ⟨a2, len2, cap2, rfl⟩ := okWide_slice Try.underlying22 (hval 2 22 v2 rfl rfl)
  have k2 := h2
  have lt2 : ∀ x ∈ p2, x.block < W.heap.size := by obtain ⟨m, hm⟩ := k2; exact DataW.trod_lt m _ _ _ hm
  obtain ⟨z2, w2⟩ : ∃ zs, IsRow .u8 W a2 len2 cap2 zs := by
    obtain ⟨fuel, hf⟩ := h2
    rcases open_ints Try.underlying22 Try.underlying5 (by kernel_rfl) hf with ⟨hcs, _⟩ | ⟨x, l, c, zs, hcs, _, hl, hm, hz, _, hcell, hwz⟩
    · simp [Value.cells] at hcs
      obtain ⟨rfl, rfl, rfl⟩ := hcs
      exact ⟨[], .inl ⟨rfl, rfl, rfl, rfl⟩⟩
    · simp [Value.cells] at hcs
      obtain ⟨rfl, rfl, rfl⟩ := hcs
      exact ⟨zs, .inr ⟨_, rfl, hl, hm, by simpa using hz, hcell, hwz⟩⟩
  obtain ⟨a3, len3, cap3, rfl⟩ := okWide_slice Try.underlying22 (hval 3 22 v3 rfl rfl)
  have k3 := h3
  have lt3 : ∀ x ∈ p3, x.block < W.heap.size := by obtain ⟨m, hm⟩ := k3; exact DataW.trod_lt m _ _ _ hm
  obtain ⟨z3, w3⟩ : ∃ zs, IsRow .u8 W a3 len3 cap3 zs := by
    obtain ⟨fuel, hf⟩ := h3
    rcases open_ints Try.underlying22 Try.underlying5 (by kernel_rfl) hf with ⟨hcs, _⟩ | ⟨x, l, c, zs, hcs, _, hl, hm, hz, _, hcell, hwz⟩
    · simp [Value.cells] at hcs
      obtain ⟨rfl, rfl, rfl⟩ := hcs
      exact ⟨[], .inl ⟨rfl, rfl, rfl, rfl⟩⟩
    · simp [Value.cells] at hcs
      obtain ⟨rfl, rfl, rfl⟩ := hcs
      exact ⟨zs, .inr ⟨_, rfl, hl, hm, by simpa using hz, hcell, hwz⟩⟩
  clear hA0 hval0
  refine (chainTells_walk a0 len0 cap0 _ a1 a2 len2 cap2 _ a3 len3 cap3 _ W (bsl_of_row w0) w1 (bsl_of_row w2) (bsl_of_row w3)).mono fun e W' ⟨he, bel⟩ => ?_
  subst he
  exact ⟨_, rfl, _, _, _, [], _, [], hW', trodAll_mk1 (shut_bool Try.underlying4 _), (trodAll_cons_mk (Below.trod laidOut (by kernel_rfl) (of_decide_eq_true (by kernel_rfl)) k0 bel lt0) (trodAll_cons_mk (shut_int Try.underlying3 w1) (trodAll_cons_mk (Below.trod laidOut (by kernel_rfl) (of_decide_eq_true (by kernel_rfl)) k2 bel lt2) (trodAll_cons_mk (Below.trod laidOut (by kernel_rfl) (of_decide_eq_true (by kernel_rfl)) k3 bel lt3) trodAll_mk0)))), rfl, bel.frame _, fun h => by cases h⟩

theorem over : Rows.chainTellsRow.holds Try.pinned (OpenSpec.ofChange Rows.chainTellsSpec) :=
  OpenClaim.holds_of_wide 4 Try.f4 rfl rfl rfl rfl rfl rfl rfl ⟨rfl, rfl, rfl, rfl, rfl⟩ rfl rfl rfl rfl rfl (by kernel_rfl) Try.func4 (by kernel_rfl)
    (of_decide_eq_true (by kernel_rfl)) (by unfold Func.isWrapper; first | (rw [if_pos (by decide +kernel)]; kernel_rfl) | (rw [if_neg (by decide +kernel)]; exact ⟨rfl, rfl⟩))
    (fun os started H enc _ => lifted os started H enc)

/-- The statement. -/
theorem proved : Rows.ChainTellsSaid := over
end Go.Proofs.Ytmegnjmnkhpppaa.chainTells
