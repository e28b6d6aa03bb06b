/-
  SignTellsSaid: for any signer and text (where the seed or the text has more than 10,000 bytes the law itself answers true) a seed's public key, a text signed, and the errors, are the document's own, and the seed stays, also when the seed of the signer that Sign answered is written to. No condition.
-/
import Derived.Test.YtoednighmdoooaaRows
import Derived.Test.YtoednighmdoooaaSignRefB
import Derived.Test.YtoednighmdoooaaSignRefC
import Derived.Test.YtoednighmdoooaaSignOpen
import Derived.Test.YtoednighmdoooaaRowI
namespace Go.Proofs.Ytoednighmdoooaa
open Go.RowKit Go.Shelf
set_option maxRecDepth 100000

theorem rowI_of {w : World} {B g n cap : Nat} {s : List UInt8} (h : w.ownsRow B 5 1 (.slice (some ⟨g, 0, none⟩) n cap) n (vals s)) : RowI w g n cap s ∧ B ≤ g ∧ cap ≤ maxLen := by
  have hl : s.length = n := by have := h.1; simpa [vals] using this
  obtain ⟨h1, ⟨h2, h3⟩ | ⟨g, cap', cur, h2, hb, hh, hnc, hcm, hsz, ht⟩⟩ := h
  · cases h2
  · cases h2
    exact ⟨⟨cur, hh, by omega, hl, hnc, by simpa using ht⟩, hb, hcm⟩
/-- What the two sides answer, a call after the other: the same list, the same error. -/
theorem tells_pub (a : Option Addr) (la ca : Nat) (k : List UInt8) : ∃ (c : Int) (N : Nat) (x : List UInt8), ∀ W, Bsl W W.heap.size a la ca k →
    Calls Try.prog 11 #[.slice a la ca] W (fun en w' => ∃ b cap, en = .returned (.tuple #[.slice b N cap, .int .i64 c]) ∧ Bsl w' w'.heap.size b N cap x ∧ Below W.heap.size W w') ∧
    Calls Try.prog 12 #[.slice a la ca] W (fun en w' => ∃ b cap, en = .returned (.tuple #[.slice b N cap, .int .i64 c]) ∧ Bsl w' w'.heap.size b N cap x ∧ Below W.heap.size W w') :=
  ⟨(spubO k).2, (spubO k).1.length, (spubO k).1, fun W h => ⟨sPublic_any a la ca k W h, rsPublic_any a la ca k W h⟩⟩
def ToldH (N M : Nat) (S T : List UInt8) (n c : Int) (W : World) (en : Ending) (w' : World) : Prop :=
  ∃ av cv bv dv, en = .returned (.tuple #[.agg #[.slice av N cv, .int .i64 n], .slice bv M dv, .int .i64 c]) ∧ w'.ownsRow W.heap.size 5 1 (.slice av N cv) N (vals S) ∧ w'.ownsRow W.heap.size 5 1 (.slice bv M dv) M (vals T) ∧ Below W.heap.size W w'
theorem tells_sgn (a : Option Addr) (la ca : Nat) (k : List UInt8) (m : Int) (b : Option Addr) (lb cb : Nat) (s : List UInt8) (hb : lb ≤ 100000) : ∃ (N M : Nat) (S T : List UInt8) (n c : Int), N ≤ 10000 ∧ ∀ W, Bsl W W.heap.size a la ca k → Bsl W W.heap.size b lb cb s →
    Calls Try.prog 8 #[.agg #[.slice a la ca, .int .i64 m], .slice b lb cb] W (ToldH N M S T n c W) ∧
    Calls Try.prog 13 #[.agg #[.slice a la ca, .int .i64 m], .slice b lb cb] W (ToldH N M S T n c W) := by
  refine ⟨(sgnO k m (fourW s).a.toNat).1.1.length, (sgnO k m (fourW s).a.toNat).2.1.length, (sgnO k m (fourW s).a.toNat).1.1, (sgnO k m (fourW s).a.toNat).2.1, (sgnO k m (fourW s).a.toNat).1.2, (sgnO k m (fourW s).a.toNat).2.2, ?_, fun W h h' => ⟨sSign_any a la ca k m b lb cb s W h h' (by omega), rsSign_any a la ca k m b lb cb s W h h' hb⟩⟩
  unfold sgnO
  split
  · rename_i h
    split
    · exact Nat.zero_le _
    · show k.length ≤ 10000
      omega
  · exact Nat.zero_le _
theorem signTells_far (a : Option Addr) (la ca : Nat) (n : Int) (b : Option Addr) (lb cb : Nat) (w : World) (_ha : (la : Int) ≤ 9223372036854775807) (_hb : (lb : Int) ≤ 9223372036854775807) (h : (10000 : Int) < la ∨ ((la : Int) ≤ 10000 ∧ (10000 : Int) < lb)) :
    Calls Try.prog 4 #[.agg #[.slice a la ca, .int .i64 n], .slice b lb cb] w fun e w' => e = .returned (.bool true) ∧ Below w.heap.size w w' := by
  have i1 : (0 : Int) ≤ la := by omega
  have i2 : (0 : Int) ≤ lb := by omega
  have hbx := (Below.refl w.heap.size w).alloc (Nat.le_refl _) (.cells #[.slice a la ca, .int .i64 n] 24)
  have HBX := Lib.hid hbx; clear hbx
  rcases h with h | ⟨h1, h⟩
  all_goals
    go_enter Try.func4, Try.ntmps4
    go_wp2_with fail
    go_ret
    exact ⟨rfl, HBX.out⟩
set_option maxHeartbeats 8000000 in
theorem signTells_near (a : Option Addr) (la ca : Nat) (k : List UInt8) (m : Int) (b : Option Addr) (lb cb : Nat) (s : List UInt8) (w : World)
    (hla : (la : Int) ≤ 10000) (hlb : (lb : Int) ≤ 10000) (hA : Bsl w w.heap.size a la ca k) (hB : Bsl w w.heap.size b lb cb s) :
    Calls Try.prog 4 #[.agg #[.slice a la ca, .int .i64 m], .slice b lb cb] w fun e w' => e = .returned (.bool true) ∧ Below w.heap.size w w' := by
  have i1 : (0 : Int) ≤ la := by omega
  have i2 : (0 : Int) ≤ lb := by omega
  obtain ⟨c1, N1, S1, t1⟩ := tells_pub a la ca k
  obtain ⟨N, M, S, T, n, c, hN, t2⟩ := tells_sgn a la ca k m b lb cb s (by omega)
  obtain ⟨w0, hw0⟩ : ∃ w0, w.alloc (.cells #[.slice a la ca, .int .i64 m] 24) = w0 := ⟨_, rfl⟩
  obtain ⟨g, hg⟩ : ∃ g, w.heap.size = g := ⟨_, rfl⟩
  have b0 : Below g w w0 := by rw [← hw0, ← hg]; exact (Below.refl _ w).alloc (Nat.le_refl _) _
  have x0 : Blk w0 g 24 #[.slice a la ca, .int .i64 m] := by rw [← hw0, ← hg]; exact Blk.new w _ _
  have hz0 : w0.heap.size = g + 1 := by rw [← hw0, ← hg]; exact World.size_alloc _ _
  have c0 := x0.cell 0
  have d0 := x0.cell 1
  have v1 := (hA.step (w' := w0) (by rw [hg]; exact b0)).conv
  have T1 := Lib.hid t1; clear t1
  have T2 := Lib.hid t2; clear t2
  have HAw := Lib.hid hA
  have HA := Lib.hid (hA.step (w' := w0) (by rw [hg]; exact b0)); clear hA
  have HB := Lib.hid (hB.step (w' := w0) (by rw [hg]; exact b0)); clear hB
  have HX := Lib.hid x0
  have HE := Lib.hid b0
  have HZ0 := Lib.hid hz0
  have HG := Lib.hid hg
  clear x0 b0 hz0
  rw [hg]
  go_enter Try.func4, Try.ntmps4
  go_wp2_with fail
  clear hw0 hg c0 d0 v1
  refine (T1.out w0 HA.out).1.mono ?_
  rintro e w1 ⟨a1, k1, rfl, h1, b1⟩
  have hz0 := HZ0.out
  have x1 := HX.out.below b1 HX.out.lt
  have c0 := x1.cell 0
  have d0 := x1.cell 1
  have HX1 := Lib.hid x1
  have HA1 := Lib.hid (HA.out.step b1)
  have HB1 := Lib.hid (HB.out.step b1)
  have HP1 := Lib.hid h1
  have HE1 := Lib.hid (HE.out.trans (b1.mono (by omega)))
  have HZ1 := Lib.hid (show g + 1 ≤ w1.heap.size by have := b1.size; omega)
  clear x1 h1 b1 hz0 HX HA HB HE
  go_wp2_with fail
  clear c0 d0
  refine (T1.out w1 HA1.out).2.mono ?_
  rintro e w2 ⟨a2, k2, rfl, h2, b2⟩
  have hz1 := HZ1.out
  have x2 := HX1.out.below b2 HX1.out.lt
  have c0 := x2.cell 0
  have d0 := x2.cell 1
  have HX2 := Lib.hid x2
  have HA2 := Lib.hid (HA1.out.step b2)
  have HB2 := Lib.hid (HB1.out.step b2)
  have HP2 := Lib.hid (HP1.out.step b2)
  have HQ2 := Lib.hid h2
  have HE2 := Lib.hid (HE1.out.trans (b2.mono (by omega)))
  have HZ2 := Lib.hid (show g + 1 ≤ w2.heap.size by have := b2.size; omega)
  clear x2 h2 b2 hz1 HX1 HA1 HB1 HE1 HP1 T1
  go_wp2_with fail
  clear c0 d0
  refine (T2.out w2 HA2.out HB2.out).1.mono ?_
  rintro e w3 ⟨a3, k3, b3', j3, rfl, o3, p3, b3⟩
  obtain ⟨w4, hw4⟩ : ∃ w4, w3.alloc (.cells #[.slice a3 N k3, .int .i64 n] 24) = w4 := ⟨_, rfl⟩
  obtain ⟨gx, hgx⟩ : ∃ gx, w3.heap.size = gx := ⟨_, rfl⟩
  have hz2 := HZ2.out
  have b34 : Below w3.heap.size w3 w4 := by rw [← hw4]; exact (Below.refl _ w3).alloc (Nat.le_refl _) _
  have b24 := b3.trans (b34.mono b3.size)
  have x4 := HX2.out.below b24 HX2.out.lt
  have y4 : Blk w4 gx 24 #[.slice a3 N k3, .int .i64 n] := by rw [← hw4, ← hgx]; exact Blk.new w3 _ _
  have c0 := x4.cell 0
  have d0 := x4.cell 1
  have hgl : ∀ g3, a3 = some ⟨g3, 0, none⟩ → g + 1 ≤ g3 ∧ g3 < gx := by
    rintro g3 rfl
    have := own_lt o3
    omega
  have HX4 := Lib.hid x4
  have HY4 := Lib.hid y4
  have HA4 := Lib.hid (HA2.out.step b24)
  have HB4 := Lib.hid (HB2.out.step b24)
  have HP4 := Lib.hid (HP2.out.step b24)
  have HQ4 := Lib.hid (HQ2.out.step b24)
  have HO4 := Lib.hid (own_below o3 b34)
  have HR4 := Lib.hid (own_below p3 b34)
  have HE4 := Lib.hid (HE2.out.trans (b24.mono (by omega)))
  have HZ4 := Lib.hid (show g + 1 ≤ w4.heap.size by have := b24.size; omega)
  have HGL := Lib.hid hgl
  clear x4 y4 o3 p3 b3 b34 b24 hz2 hgl HX2 HA2 HB2 HP2 HQ2 HE2
  go_wp2_with fail
  clear c0 d0 hw4
  refine (T2.out w4 HA4.out HB4.out).2.mono ?_
  rintro e w5 ⟨a5, k5, b5', j5, rfl, o5, p5, b5⟩
  obtain ⟨w6, hw6⟩ : ∃ w6, w5.alloc (.cells #[.slice a5 N k5, .int .i64 n] 24) = w6 := ⟨_, rfl⟩
  have hz4 := HZ4.out
  obtain ⟨gy, hgy⟩ : ∃ gy, w5.heap.size = gy := ⟨_, rfl⟩
  have b56 : Below w5.heap.size w5 w6 := by rw [← hw6]; exact (Below.refl _ w5).alloc (Nat.le_refl _) _
  have b46 := b5.trans (b56.mono b5.size)
  have x6 := HX4.out.below b46 HX4.out.lt
  have y6 := HY4.out.below b46 HY4.out.lt
  have z6 : Blk w6 gy 24 #[.slice a5 N k5, .int .i64 n] := by rw [← hw6, ← hgy]; exact Blk.new w5 _ _
  have c0 := x6.cell 0
  have d0 := x6.cell 1
  have c1' := y6.cell 0
  have d1 := y6.cell 1
  have c2 := z6.cell 0
  have d2 := z6.cell 1
  have q1 := (HP4.out.step b46).conv
  have q2 := (HQ4.out.step b46).conv
  have hx6 := own_bsl (own_below HO4.out b46)
  have hy6 := own_bsl (own_below o5 b56)
  have q5 := (own_bsl (own_below HR4.out b46)).conv
  have q6 := (own_bsl (own_below p5 b56)).conv
  have HX6 := Lib.hid x6
  have HY6 := Lib.hid y6
  have HA6 := Lib.hid (HA4.out.step b46)
  have HO6 := Lib.hid (own_below HO4.out b46)
  have HE6 := Lib.hid (HE4.out.trans (b46.mono (by omega)))
  have HS6 := Lib.hid (rSame_yes a3 N k3 n a5 N k5 S w6 hx6 hy6)
  have HPR := Lib.hid (own_bsl (own_below HR4.out b46))
  have HQR := Lib.hid (own_bsl (own_below p5 b56))
  have HZ6 := Lib.hid (show g + 1 ≤ w6.heap.size by have := b46.size; omega)
  have r1 : ((strOf S1).toList == (strOf S1).toList) = true := by simp
  have r2 : ((strOf T).toList == (strOf T).toList) = true := by simp
  clear x6 y6 z6 o5 p5 b5 b56 b46 hz4 hx6 hy6 HX4 HY4 HA4 HB4 HP4 HQ4 HO4 HR4 HE4 T2
  clear q5 q6
  go_wp2_with fail
  clear q1 q2 c0 d0 c1' d1 c2 d2 r1
  refine HS6.out.mono ?_
  rintro e w7 ⟨rfl, b7⟩
  have hz6 := HZ6.out
  have x7 := HX6.out.below b7 HX6.out.lt
  have y7 := HY6.out.below b7 HY6.out.lt
  have q5 := (HPR.out.step b7).conv
  have q6 := (HQR.out.step b7).conv
  have e7 := y7.cell 0
  have HX7 := Lib.hid x7
  have HY7 := Lib.hid y7
  have HA7 := Lib.hid (HA6.out.step b7)
  have HO7 := Lib.hid (own_below HO6.out b7)
  have HE7 := Lib.hid (HE6.out.trans (b7.mono (by omega)))
  have HZ7 := Lib.hid (show g + 1 ≤ w7.heap.size by have := b7.size; omega)
  clear x7 y7 b7 hz6 HX6 HY6 HA6 HO6 HE6 HS6 HPR HQR
  go_wp2_with fail
  clear q5 q6 r2 e7
  have hn0 : (0 : Int) ≤ N := by omega
  have hn1 : (N : Int) ≤ 9223372036854775807 := by omega
  have hst : ∀ g3, a3 = some ⟨g3, 0, none⟩ → ∃ t, RowI w7 g3 N k3 t := by
    rintro g3 rfl
    exact ⟨_, (rowI_of HO7.out).1⟩
  have HHO := Lib.hid HO7.out
  go_loopw [17] (fun i wr => ∃ j : Nat, j ≤ N ∧ i = .int .i64 j ∧ Hid (∀ g3, a3 = some ⟨g3, 0, none⟩ → ∃ t, RowI wr g3 N k3 t) ∧ Hid (Below g w wr) ∧ Hid (Blk wr gx 24 #[.slice a3 N k3, .int .i64 n]) ∧ Hid (Blk wr g 24 #[.slice a la ca, .int .i64 m])) (fun i wr => N - (intOf i).toNat)
  case atStart => exact ⟨0, Nat.zero_le _, rfl, Lib.hid hst, HE7, HY7, HX7⟩
  case round =>
    obtain ⟨j, hj, rfl, HRr, HBr, HYr, HXr⟩ := hrel
    have c0 := HYr.out.cell 0
    by_cases hlt : j < N
    · have j0 : (0 : Int) ≤ j := by omega
      have j1 : (j : Int) < N := by omega
      obtain ⟨g3, rfl⟩ : ∃ g3, a3 = some ⟨g3, 0, none⟩ := by
        obtain ⟨_, ⟨h, h'⟩ | ⟨g3, c, _, h, h', _⟩⟩ := HHO.out
        · omega
        · cases h; exact ⟨g3, rfl⟩
      obtain ⟨hg1, hg2⟩ := HGL.out g3 rfl
      obtain ⟨t, hr⟩ := HRr.out g3 rfl
      have htl : t.length = N := by obtain ⟨_, _, _, h, _⟩ := hr; exact h
      have hjt : j < t.length := by omega
      have ct := hr.holds j hjt
      have ft : wr.frozen? ⟨g3, j, none⟩ = false := by obtain ⟨cur, hc, _⟩ := hr; exact hc.frozen j
      obtain ⟨x, hx⟩ : ∃ x, t[j] = x := ⟨_, rfl⟩
      rw [hx] at ct
      have hx1 : (((x + 1 : UInt8).toNat : Nat) : Int) = ((x.toNat : Int) + 1) % 256 := by rw [UInt8.toNat_add]; simp
      have hs := hr.set_ hlt (x + 1)
      rw [hx1] at hs
      have HS := Lib.hid hs; clear hs hr hx1 hx hjt htl
      have x0 : (0 : Int) ≤ x.toNat := by omega
      have x1 : (x.toNat : Int) ≤ 255 := by have := x.toNat_lt; omega
      have HY' := Lib.hid (fun v => HYr.out.far (p := ⟨g3, j, none⟩) (by simp; omega) v)
      have HX' := Lib.hid (fun v => HXr.out.far (p := ⟨g3, j, none⟩) (by simp; omega) v)
      go_wp2_with fail
      go_roundw
      case rel => exact ⟨j + 1, by omega, by go_num, Lib.hid (fun _ e => by cases e; exact ⟨_, HS.out⟩), Lib.hid (HBr.out.setCell (p := ⟨g3, j, none⟩) (by simp; omega) _), Lib.hid (HY'.out _), Lib.hid (HX'.out _)⟩
      case measure => simp [intOf]; omega
    · obtain rfl : j = N := by omega
      have hbw : Below w.heap.size w wr := by rw [HG.out]; exact HBr.out
      have v1 := (HAw.out.step hbw).conv
      have e0 := HXr.out.cell 0
      have r1 : ((strOf k).toList == (strOf k).toList) = true := by simp
      have HBW := Lib.hid HBr.out
      clear hst hbw
      go_wp2_with fail
      go_ret
      exact ⟨rfl, HBW.out⟩
theorem signTells_walk (a0 : Option Addr) (len0 cap0 : Nat) (s0 : List UInt8) (n0 : Int) (a1 : Option Addr) (len1 cap1 : Nat) (s1 : List UInt8) (w : World) (h0 : Bsl w w.heap.size a0 len0 cap0 s0) (_x0 : (Lit.int .i64 n0).wf = true) (h1 : Bsl w w.heap.size a1 len1 cap1 s1) :
    Calls Try.prog 4 #[.agg #[.slice a0 len0 cap0, .int .i64 n0], .slice a1 len1 cap1] w fun e w' => e = .returned (.bool true) ∧ Below w.heap.size w w' := by
  have hk : (len0 : Int) ≤ 9223372036854775807 := by have h5 := h0.2.1; have h4 := h0.2.2.1; unfold maxLen at h4; omega
  have hb : (len1 : Int) ≤ 9223372036854775807 := by have h5 := h1.2.1; have h4 := h1.2.2.1; unfold maxLen at h4; omega
  by_cases k : (len0 : Int) ≤ 10000 ∧ (len1 : Int) ≤ 10000
  · obtain ⟨k1, k2⟩ := k
    exact signTells_near a0 len0 cap0 s0 n0 a1 len1 cap1 s1 w k1 k2 h0 h1
  · exact signTells_far a0 len0 cap0 n0 a1 len1 cap1 w hk hb (by omega)
end Go.Proofs.Ytoednighmdoooaa

namespace Go.Proofs.Ytoednighmdoooaa.signTells
open Go.ChangeShapes Go.WideShapes Go.ChangeAt Go.RowKit
set_option linter.unusedVariables false

theorem own : ownKnob Try.prog.godebug = none := by kernel_rfl
theorem laidOut : laidOutB Try.prog = true := by kernel_rfl

set_option maxRecDepth 100000 in
theorem lifted (os : Os) (started : os.Started) (H : Type) (enc : TypeId × Value → H) :
    ReturnsInHanded {} Try.checked os 4 .any (Rows.signTellsSpec.pre6 enc Try.prog Try.f4 Rows.signTellsRow.domain false) (Rows.signTellsSpec.post enc Try.prog Try.f4 false true false false) := by
  refine returnsInHanded_of_change (C := Try.checked) own started (by kernel_rfl) Try.func4
    (ChangeSpec.witness6 (enc := enc) (C := Try.checked) false ⟨#[], #[.agg #[.slice none 0 0, .int .i64 0], .slice none 0 0], []⟩ 8 (by kernel_rfl) (by kernel_rfl) (by kernel_rfl) (by kernel_rfl)) ?_
  intro W base args ds gs before hval0 hW hcnd _
  have hval : ∀ (j : Nat) t v, Try.f4.params[j]? = some t → args[j]? = some v → Value.okWide Try.prog W .any base t v := hval0
  have hW' := hW
  obtain ⟨p, q, hA0, hV, rfl, hfz, hnd⟩ := hW
  have hA : DataW.TrodAll enc Try.prog W 0 (fun _ => true) true Try.f4.params.toList args.toList ds p := hA0
  rw [Try.params4] at hA hval
  obtain ⟨v0, vs0, d0, ds0, p0, q0, hargs, rfl, rfl, h0, r0⟩ := trodAll_cons hA
  obtain ⟨v1, vs1, d1, ds1, p1, q1, rfl, rfl, rfl, h1, r1⟩ := trodAll_cons r0
  obtain ⟨rfl, rfl, rfl⟩ := trodAll_nil r1
  obtain rfl : args = #[v0, v1] := by cases args; simp_all
  obtain ⟨rfl, rfl⟩ := trodVars_none hV
  have k0 := h0
  have lt0 : ∀ x ∈ p0, x.block < W.heap.size := by obtain ⟨m, hm⟩ := k0; exact DataW.trod_lt m _ _ _ hm
  obtain ⟨a0, len0, cap0, z0, n0, rfl, w0, x0⟩ := open_signer (hval 0 24 v0 rfl rfl) h0
  obtain ⟨a1, len1, cap1, rfl⟩ := okWide_slice Try.underlying22 (hval 1 22 v1 rfl rfl)
  have k1 := h1
  have lt1 : ∀ x ∈ p1, x.block < W.heap.size := by obtain ⟨m, hm⟩ := k1; exact DataW.trod_lt m _ _ _ hm
  obtain ⟨z1, w1⟩ : ∃ zs, IsRow .u8 W a1 len1 cap1 zs := by
    obtain ⟨fuel, hf⟩ := h1
    rcases open_ints Try.underlying22 Try.underlying5 (by kernel_rfl) hf with ⟨hcs, _⟩ | ⟨x, l, c, zs, hcs, _, hl, hm, hz, _, hcell, hwz⟩
    · simp [Value.cells] at hcs
      obtain ⟨rfl, rfl, rfl⟩ := hcs
      exact ⟨[], .inl ⟨rfl, rfl, rfl, rfl⟩⟩
    · simp [Value.cells] at hcs
      obtain ⟨rfl, rfl, rfl⟩ := hcs
      exact ⟨zs, .inr ⟨_, rfl, hl, hm, by simpa using hz, hcell, hwz⟩⟩
  clear hA0 hval0
  refine (signTells_walk a0 len0 cap0 _ n0 a1 len1 cap1 _ W (bsl_of_row w0) x0 (bsl_of_row w1)).mono fun e W' ⟨he, bel⟩ => ?_
  subst he
  exact ⟨_, rfl, _, _, _, [], _, [], hW', trodAll_mk1 (shut_bool Try.underlying4 _), (trodAll_cons_mk (Below.trod laidOut (by kernel_rfl) (of_decide_eq_true (by kernel_rfl)) k0 bel lt0) (trodAll_cons_mk (Below.trod laidOut (by kernel_rfl) (of_decide_eq_true (by kernel_rfl)) k1 bel lt1) trodAll_mk0)), rfl, bel.frame _, fun h => by cases h⟩

theorem over : Rows.signTellsRow.holds Try.pinned (OpenSpec.ofChange Rows.signTellsSpec) :=
  OpenClaim.holds_of_wide 4 Try.f4 rfl rfl rfl rfl rfl rfl rfl ⟨rfl, rfl, rfl, rfl, rfl⟩ rfl rfl rfl rfl rfl (by kernel_rfl) Try.func4 (by kernel_rfl)
    (of_decide_eq_true (by kernel_rfl)) (by unfold Func.isWrapper; first | (rw [if_pos (by decide +kernel)]; kernel_rfl) | (rw [if_neg (by decide +kernel)]; exact ⟨rfl, rfl⟩))
    (fun os started H enc _ => lifted os started H enc)

/-- The statement. -/
theorem proved : Rows.SignTellsSaid := over
end Go.Proofs.Ytoednighmdoooaa.signTells
