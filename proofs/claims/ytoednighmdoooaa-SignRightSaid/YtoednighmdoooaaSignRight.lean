/-
  SignRightSaid: for any signer and text (where the seed or the text has more than 10,000 bytes the law itself answers what its example answers) what was signed is right for the seed's public key; a signer signs as many texts as it has leaves left, each with the leaf that was the next one, and no more; the seed stays the same. No condition.
-/
import Derived.Test.YtoednighmdoooaaRows
import Derived.Test.YtoednighmdoooaaSignAll
import Derived.Test.YtoednighmdoooaaSignOpen
import Derived.Test.YtoednighmdoooaaSignNext
namespace Go.Proofs.Ytoednighmdoooaa
open Go.RowKit Go.Shelf
set_option maxRecDepth 100000

theorem signRight_far (a : Option Addr) (la ca : Nat) (n : Int) (b : Option Addr) (lb cb : Nat) (w : World) (_ha : (la : Int) ≤ 9223372036854775807) (_hb : (lb : Int) ≤ 9223372036854775807) (h : (10000 : Int) < la ∨ ((la : Int) ≤ 10000 ∧ (10000 : Int) < lb)) :
    Calls Try.prog 6 #[.agg #[.slice a la ca, .int .i64 n], .slice b lb cb] w fun e w' => e = .returned (.bool true) ∧ Below w.heap.size w w' := by
  have i1 : (0 : Int) ≤ la := by omega
  have i2 : (0 : Int) ≤ lb := by omega
  obtain ⟨w0, hw0⟩ : ∃ w0, w.alloc (.cells #[.slice a la ca, .int .i64 n] 24) = w0 := ⟨_, rfl⟩
  have b0 : Below w.heap.size w w0 := by rw [← hw0]; exact (Below.refl _ w).alloc (Nat.le_refl _) _
  have x0 : Blk w0 w.heap.size 24 #[.slice a la ca, .int .i64 n] := by rw [← hw0]; exact Blk.new w _ _
  have HB0 := Lib.hid b0
  have HX0 := Lib.hid x0
  have HAL := Lib.hid (alive_sign w0)
  clear b0 x0
  rcases h with h | ⟨h1, h⟩
  all_goals
    go_enter Try.func6, Try.ntmps6
    go_wp2_with fail
    clear hw0
    refine HAL.out.mono ?_
    rintro e w1 ⟨rfl, b1⟩
    have x1 := HX0.out.below b1 HX0.out.lt
    have c0 := x1.cell 0
    have c1 := x1.cell 1
    have HB1 := Lib.hid (HB0.out.trans (b1.mono HB0.out.size))
    clear b1 x1
    go_wp2_with fail
    go_ret
    exact ⟨rfl, HB1.out⟩
set_option maxHeartbeats 4000000 in
theorem signRight_bad (a : Option Addr) (la ca : Nat) (n : Int) (b : Option Addr) (lb cb : Nat) (w : World) (hla : (la : Int) ≤ 10000) (hlb : (lb : Int) ≤ 10000) (hl : la ≠ 16) :
    Calls Try.prog 6 #[.agg #[.slice a la ca, .int .i64 n], .slice b lb cb] w fun e w' => e = .returned (.bool true) ∧ Below w.heap.size w w' := by
  have i1 : (0 : Int) ≤ la := by omega
  have i2 : (0 : Int) ≤ lb := by omega
  obtain ⟨w0, hw0⟩ : ∃ w0, w.alloc (.cells #[.slice a la ca, .int .i64 n] 24) = w0 := ⟨_, rfl⟩
  have b0 : Below w.heap.size w w0 := by rw [← hw0]; exact (Below.refl _ w).alloc (Nat.le_refl _) _
  have x0 : Blk w0 w.heap.size 24 #[.slice a la ca, .int .i64 n] := by rw [← hw0]; exact Blk.new w _ _
  have HB0 := Lib.hid b0
  have HX0 := Lib.hid x0
  have HAL := Lib.hid (alive_sign w0)
  have HP := Lib.hid (sPublic_bad a la ca hl)
  have HS := Lib.hid (sSign_may a la ca n (.slice b lb cb) (by omega))
  clear b0 x0
  go_enter Try.func6, Try.ntmps6
  go_wp2_with fail
  clear hw0
  refine HAL.out.mono ?_
  rintro e w1 ⟨rfl, b1⟩
  have x1 := HX0.out.below b1 HX0.out.lt
  have c0 := x1.cell 0
  have c1 := x1.cell 1
  have HX1 := Lib.hid x1
  have HB1 := Lib.hid (HB0.out.trans (b1.mono HB0.out.size))
  clear b1 x1 HX0 HB0 HAL
  go_wp2_with fail
  clear c0 c1
  refine (HP.out w1).mono ?_
  rintro e w2 ⟨a2, k2, rfl, _, b2⟩
  have x2 := HX1.out.below b2 HX1.out.lt
  have c0 := x2.cell 0
  have c1 := x2.cell 1
  have HX2 := Lib.hid x2
  have HB2 := Lib.hid (HB1.out.trans (b2.mono HB1.out.size))
  clear b2 x2 HX1 HB1 HP
  go_wp2_with fail
  go_loopw [8] (fun v wr => v = .int .i64 n ∧ wr = w2) (fun _ _ => 0)
  case atStart => exact ⟨rfl, rfl⟩
  case round =>
    obtain ⟨rfl, rfl⟩ := hrel
    go_wp2_with fail
    clear c0 c1
    refine (HS.out _).mono ?_
    rintro e w3 ⟨rfl, b3⟩
    have HB3 := Lib.hid (HB2.out.trans (b3.mono HB2.out.size))
    clear b3 HB2 HS
    have hb4 := HB3.out.alloc HB3.out.size (.cells #[.slice none 0 0, .int .i64 0] 24)
    have HB4 := Lib.hid hb4
    clear hb4 HB3
    go_wp2_with fail
    go_ret
    exact ⟨rfl, HB4.out⟩
set_option maxHeartbeats 4000000 in
theorem signRight_out (a : Option Addr) (ca : Nat) (k : List UInt8) (n : Int) (b : Option Addr) (lb cb : Nat) (w : World) (hA : Bsl w w.heap.size a 16 ca k) (hlb : (lb : Int) ≤ 10000) (hn : n < 0 ∨ 8 < n) :
    Calls Try.prog 6 #[.agg #[.slice a 16 ca, .int .i64 n], .slice b lb cb] w fun e w' => e = .returned (.bool true) ∧ Below w.heap.size w w' := by
  have i2 : (0 : Int) ≤ lb := by omega
  obtain ⟨w0, hw0⟩ : ∃ w0, w.alloc (.cells #[.slice a 16 ca, .int .i64 n] 24) = w0 := ⟨_, rfl⟩
  have b0 : Below w.heap.size w w0 := by rw [← hw0]; exact (Below.refl _ w).alloc (Nat.le_refl _) _
  have x0 : Blk w0 w.heap.size 24 #[.slice a 16 ca, .int .i64 n] := by rw [← hw0]; exact Blk.new w _ _
  have HA := Lib.hid hA
  have HB0 := Lib.hid b0
  have HX0 := Lib.hid x0
  have HAL := Lib.hid (alive_sign w0)
  have HS := Lib.hid (sSign_may a 16 ca n (.slice b lb cb) (by omega))
  clear b0 x0 hA
  have hn0 : ¬ (0 ≤ n ∧ n ≤ 8) := by omega
  rcases hn with hn | hn
  all_goals
    go_enter Try.func6, Try.ntmps6
    go_wp2_with fail
    clear hw0
    refine HAL.out.mono ?_
    rintro e w1 ⟨rfl, b1⟩
    have x1 := HX0.out.below b1 HX0.out.lt
    have c0 := x1.cell 0
    have c1 := x1.cell 1
    have HX1 := Lib.hid x1
    have HB1 := Lib.hid (HB0.out.trans (b1.mono HB0.out.size))
    have HP := Lib.hid (sPublic_ok a ca k w1 (HA.out.step HB1.out))
    clear b1 x1 HX0 HB0 HAL HA
    go_wp2_with fail
    clear c0 c1
    refine HP.out.mono ?_
    rintro e w2 ⟨g2, k2, rfl, _, _, b2⟩
    have x2 := HX1.out.below b2 HX1.out.lt
    have c0 := x2.cell 0
    have c1 := x2.cell 1
    have HX2 := Lib.hid x2
    have HB2 := Lib.hid (HB1.out.trans (b2.mono HB1.out.size))
    clear b2 x2 HX1 HB1 HP
    go_wp2_with fail
    go_loopw [8] (fun v wr => v = .int .i64 n ∧ wr = w2) (fun _ _ => 0)
    case atStart => exact ⟨rfl, rfl⟩
    case round =>
      obtain ⟨rfl, rfl⟩ := hrel
      go_wp2_with fail
      clear c0 c1
      refine (HS.out _).mono ?_
      rintro e w3 ⟨rfl, b3⟩
      have x3 := HX2.out.below b3 HX2.out.lt
      obtain ⟨w4, hw4⟩ : ∃ w4, w3.alloc (.cells #[.slice none 0 0, .int .i64 0] 24) = w4 := ⟨_, rfl⟩
      have x4 : Blk w4 w.heap.size 24 #[.slice a 16 ca, .int .i64 n] := by rw [← hw4]; exact x3.alloc _
      have c0 := x4.cell 0
      have c1 := x4.cell 1
      have b3' := HB2.out.trans (b3.mono HB2.out.size)
      have HB4 := Lib.hid (show Below w.heap.size w w4 by rw [← hw4]; exact b3'.alloc b3'.size _)
      subst hw4
      clear b3 b3' HB2 HS x3 x4 HX2
      go_wp2_with fail
      go_ret
      exact ⟨rfl, HB4.out⟩
set_option maxHeartbeats 8000000 in
theorem signRight_near (a : Option Addr) (ca : Nat) (k : List UInt8) (n : Nat) (hn : n ≤ 8) (b : Option Addr) (lb cb : Nat) (s : List UInt8) (w : World) (hA : Bsl w w.heap.size a 16 ca k) (hB : Bsl w w.heap.size b lb cb s) (hlb : (lb : Int) ≤ 10000) :
    Calls Try.prog 6 #[.agg #[.slice a 16 ca, .int .i64 n], .slice b lb cb] w fun e w' => e = .returned (.bool true) ∧ Below w.heap.size w w' := by
  have i2 : (0 : Int) ≤ lb := by omega
  obtain ⟨w0, hw0⟩ : ∃ w0, w.alloc (.cells #[.slice a 16 ca, .int .i64 n] 24) = w0 := ⟨_, rfl⟩
  obtain ⟨g, hg⟩ : ∃ g, w.heap.size = g := ⟨_, rfl⟩
  have b0 : Below g w w0 := by rw [← hw0, ← hg]; exact (Below.refl _ w).alloc (Nat.le_refl _) _
  have x0 : Blk w0 g 24 #[.slice a 16 ca, .int .i64 n] := by rw [← hw0, ← hg]; exact Blk.new w _ _
  have HAw := Lib.hid hA
  have HBw := Lib.hid hB
  have HB0 := Lib.hid b0
  have HX0 := Lib.hid x0
  have HAL := Lib.hid (alive_sign w0)
  have HG := Lib.hid hg
  have hz0 : g + 1 ≤ w0.heap.size := x0.lt
  rw [hg]
  clear b0 x0 hA hB
  go_enter Try.func6, Try.ntmps6
  go_wp2_with fail
  clear hw0 hg
  refine HAL.out.mono ?_
  rintro e w1 ⟨rfl, b1⟩
  have x1 := HX0.out.below b1 HX0.out.lt
  have c0 := x1.cell 0
  have c1 := x1.cell 1
  have HX1 := Lib.hid x1
  have HB1 := Lib.hid (HB0.out.trans (b1.mono (by omega)))
  have hz1 : g + 1 ≤ w1.heap.size := Nat.le_trans hz0 b1.size
  have HP := Lib.hid (sPublic_ok a ca k w1 (HAw.out.step (by rw [HG.out]; exact HB1.out)))
  clear b1 x1 HX0 HB0 HAL hz0
  go_wp2_with fail
  clear c0 c1
  refine HP.out.mono ?_
  rintro e w2 ⟨gp, kp, rfl, hgp, hp2, b2⟩
  have x2 := HX1.out.below b2 HX1.out.lt
  have c0 := x2.cell 0
  have c1 := x2.cell 1
  obtain ⟨p, hp⟩ : ∃ p, nodeL k 3 0 = p := ⟨_, rfl⟩
  rw [hp] at hp2
  have HPE := Lib.hid hp
  have HX2 := Lib.hid x2
  have HP2 := Lib.hid hp2
  have HB2 := Lib.hid (HB1.out.trans (b2.mono (by omega)))
  have hz2 : g + 1 ≤ w2.heap.size := Nat.le_trans hz1 b2.size
  have hgg : g < gp := by omega
  have HA2 := Lib.hid (HAw.out.step (w' := w2) (by rw [HG.out]; exact HB2.out))
  clear b2 x2 HX1 HB1 HP hp hp2 hz1 hgp HAw
  go_wp2_with fail
  clear c0 c1
  go_loopw [8] (fun v wr => ∃ j : Nat, j ≤ 8 ∧ v = .int .i64 j ∧ ∃ av cv, Blk wr g 24 #[.slice av 16 cv, .int .i64 j] ∧ Bsl wr wr.heap.size av 16 cv k ∧ Bsl wr wr.heap.size (some ⟨gp, 0, none⟩) 16 kp p ∧ Below g w wr ∧ g + 1 ≤ wr.heap.size) (fun v _ => 8 - (intOf v).toNat)
  case atStart => exact ⟨n, hn, rfl, a, ca, HX2.out, HA2.out, HP2.out, HB2.out, hz2⟩
  case round =>
    obtain ⟨j, hj, rfl, av, cv, hx, hv, hpp, hb, hz⟩ := hrel
    have c0 := hx.cell 0
    have c1 := hx.cell 1
    have j0 : (0 : Int) ≤ j := by omega
    have hbw : Below w.heap.size w wr := by rw [HG.out]; exact hb
    by_cases hlt : j < 8
    · have j1 : (j : Int) < 8 := by omega
      have hs := sSign_next av cv k j hlt b lb cb s wr hv (HBw.out.step hbw) (by omega)
      obtain ⟨x, hxe⟩ : ∃ x, (fourW s).a.toNat = x := ⟨_, rfl⟩
      rw [hxe] at hs
      have HXE := Lib.hid hxe
      have HS := Lib.hid hs
      have HX := Lib.hid hx
      have HV := Lib.hid hv
      have HPP := Lib.hid hpp
      have HB := Lib.hid hb
      clear hs hx hv hpp hb hbw hxe
      go_wp2_with fail
      clear c0 c1
      refine HS.out.mono ?_
      rintro e w3 ⟨a3, c3, g3, k3, rfl, ha3, hg3, q3, s3, b3⟩
      obtain ⟨w4, hw4⟩ : ∃ w4, w3.alloc (.cells #[.slice (some ⟨a3, 0, none⟩) 16 c3, .int .i64 ((j : Int) + 1)] 24) = w4 := ⟨_, rfl⟩
      obtain ⟨gt, hgt⟩ : ∃ gt, w3.heap.size = gt := ⟨_, rfl⟩
      have b34 : Below w3.heap.size w3 w4 := by rw [← hw4]; exact (Below.refl _ w3).alloc (Nat.le_refl _) _
      have br4 := b3.trans (b34.mono b3.size)
      have x4 := HX.out.below br4 HX.out.lt
      have y4 : Blk w4 gt 24 #[.slice (some ⟨a3, 0, none⟩) 16 c3, .int .i64 ((j : Int) + 1)] := by rw [← hw4, ← hgt]; exact Blk.new w3 _ _
      have hb4 := HB.out.trans (br4.mono (by omega))
      have s4 := s3.step b34
      have p4 := HPP.out.step br4
      have hck := check_ok (some ⟨gp, 0, none⟩) kp p b lb cb s g3 0 k3 _ w4 p4 (HBw.out.step (by rw [HG.out]; exact hb4)) (by omega) s4 (by rw [sigL_head k j x hlt]; exact hlt)
      rw [HXE.out, rcv_right k j x hlt, HPE.out, decide_eq_true rfl] at hck
      have HCK := Lib.hid hck
      have HX4 := Lib.hid x4
      have HY4 := Lib.hid y4
      have HB4 := Lib.hid hb4
      have HS4 := Lib.hid s4
      have HP4 := Lib.hid p4
      have HQ4 := Lib.hid (q3.step b34)
      have HV4 := Lib.hid (HV.out.step br4)
      have hgt1 : g < gt := by have := b3.size; omega
      have hz4 : g + 1 ≤ w4.heap.size := by have := br4.size; omega
      clear q3 s3 b3 b34 br4 x4 y4 hb4 s4 p4 hck HS HX HV HPP HB
      go_wp2_with fail
      clear hw4
      refine HCK.out.mono ?_
      rintro e w5 ⟨rfl, b5⟩
      have x5 := HX4.out.below b5 HX4.out.lt
      have y5 := HY4.out.below b5 HY4.out.lt
      have c0 := x5.cell 0
      have c1 := x5.cell 1
      have f5 := fun i => x5.frozen i
      have e0 := y5.cell 0
      have e1 := y5.cell 1
      have hsc := (HS4.out.step b5).cellD 0 (by omega)
      rw [sigL_head k j x hlt, Nat.add_zero] at hsc
      have v1 := (HQ4.out.step b5).conv
      have v2 := (HV4.out.step b5).conv
      have r1 : ((strOf k).toList == (strOf k).toList) = true := by simp
      have ew : IntKind.i64.wrap (j : Int) = (j : Int) := by unfold IntKind.wrap; simp [IntKind.bits, IntKind.signed]; omega
      have HX5 := Lib.hid x5
      have HB5 := Lib.hid (HB4.out.trans (b5.mono (by omega)))
      have HQ5 := Lib.hid (HQ4.out.step b5)
      have HP5 := Lib.hid (HP4.out.step b5)
      have hz5 : g + 1 ≤ w5.heap.size := by have := b5.size; omega
      have h3g : g < a3 := by omega
      clear x5 y5 b5 HX4 HY4 HB4 HS4 HP4 HQ4 HV4 HCK
      dsimp only
      go_wp2_with fail
      obtain ⟨w6, hw6⟩ : ∃ w6, ((w5.setCell { block := g, off := 0 } (.slice (some ⟨a3, 0, none⟩) 16 c3)).setCell { block := g, off := 1 } (.int .i64 ((j : Int) + 1))) = w6 := ⟨_, rfl⟩
      have gs6 : w5.grownBy w6 (some g) := by rw [← hw6]; exact only_two w5 g _ _
      have x6 : Blk w6 g 24 #[.slice (some ⟨a3, 0, none⟩) 16 c3, .int .i64 ((j : Int) + 1)] := by rw [← hw6]; exact (HX5.out.set_ 0 _).set_ 1 _
      have b6 : Below g w w6 := HB5.out.grown gs6 (by omega) (fun k e => by injection e with e; omega)
      have q6 := HQ5.out.beside gs6 (by omega)
      have p6 := HP5.out.beside gs6 (by omega)
      have hz6 : g + 1 ≤ w6.heap.size := Nat.le_trans hz5 gs6.size
      rw [hw6]
      clear hw6 c0 c1 f5 e0 e1 hsc v1 v2 r1 gs6
      have ej : ((j + 1 : Nat) : Int) = (j : Int) + 1 := by omega
      have HX6 := Lib.hid x6
      have HQ6 := Lib.hid q6
      have HP6 := Lib.hid p6
      have HB6 := Lib.hid b6
      have HEJ := Lib.hid ej
      clear x6 q6 p6 b6 ej
      go_wp2_with fail
      go_roundw
      case rel => exact ⟨j + 1, by omega, by go_num, _, _, by rw [HEJ.out]; exact HX6.out, HQ6.out, HP6.out, HB6.out, hz6⟩
      case measure => simp [intOf]; omega
    · obtain rfl : j = 8 := by omega
      have HS := Lib.hid (sSign_spent av cv (.slice b lb cb) wr)
      have HX := Lib.hid hx
      have HB := Lib.hid hb
      clear hx hv hpp hb hbw
      go_wp2_with fail
      clear c0 c1
      refine HS.out.mono ?_
      rintro e w3 ⟨rfl, b3⟩
      have HB3 := Lib.hid ((HB.out.trans (b3.mono (by omega))).alloc (by have := b3.size; omega) (.cells #[.slice none 0 0, .int .i64 0] 24))
      clear b3 HB HX HS
      go_wp2_with fail
      go_ret
      exact ⟨rfl, HB3.out⟩
theorem signRight_walk (a0 : Option Addr) (len0 cap0 : Nat) (s0 : List UInt8) (n0 : Int) (a1 : Option Addr) (len1 cap1 : Nat) (s1 : List UInt8) (w : World) (h0 : Bsl w w.heap.size a0 len0 cap0 s0) (_x0 : (Lit.int .i64 n0).wf = true) (h1 : Bsl w w.heap.size a1 len1 cap1 s1) :
    Calls Try.prog 6 #[.agg #[.slice a0 len0 cap0, .int .i64 n0], .slice a1 len1 cap1] w fun e w' => e = .returned (.bool true) ∧ Below w.heap.size w w' := by
  have hk : (len0 : Int) ≤ 9223372036854775807 := by have h5 := h0.2.1; have h4 := h0.2.2.1; unfold maxLen at h4; omega
  have hb : (len1 : Int) ≤ 9223372036854775807 := by have h5 := h1.2.1; have h4 := h1.2.2.1; unfold maxLen at h4; omega
  by_cases k : (len0 : Int) ≤ 10000 ∧ (len1 : Int) ≤ 10000
  · obtain ⟨k1, k2⟩ := k
    by_cases hl : len0 = 16
    · subst hl
      by_cases hn : n0 < 0 ∨ 8 < n0
      · exact signRight_out a0 cap0 s0 n0 a1 len1 cap1 w h0 k2 hn
      · obtain ⟨j, rfl⟩ := Int.eq_ofNat_of_zero_le (show 0 ≤ n0 by omega)
        exact signRight_near a0 cap0 s0 j (by omega) a1 len1 cap1 s1 w h0 h1 k2
    · exact signRight_bad a0 len0 cap0 n0 a1 len1 cap1 w k1 k2 hl
  · exact signRight_far a0 len0 cap0 n0 a1 len1 cap1 w hk hb (by omega)
end Go.Proofs.Ytoednighmdoooaa

namespace Go.Proofs.Ytoednighmdoooaa.signRight
open Go.ChangeShapes Go.WideShapes Go.ChangeAt Go.RowKit
set_option linter.unusedVariables false

theorem own : ownKnob Try.prog.godebug = none := by kernel_rfl
theorem laidOut : laidOutB Try.prog = true := by kernel_rfl

set_option maxRecDepth 100000 in
theorem lifted (os : Os) (started : os.Started) (H : Type) (enc : TypeId × Value → H) :
    ReturnsInHanded {} Try.checked os 6 .any (Rows.signRightSpec.pre6 enc Try.prog Try.f6 Rows.signRightRow.domain false) (Rows.signRightSpec.post enc Try.prog Try.f6 false true false false) := by
  refine returnsInHanded_of_change (C := Try.checked) own started (by kernel_rfl) Try.func6
    (ChangeSpec.witness6 (enc := enc) (C := Try.checked) false ⟨#[], #[.agg #[.slice none 0 0, .int .i64 0], .slice none 0 0], []⟩ 8 (by kernel_rfl) (by kernel_rfl) (by kernel_rfl) (by kernel_rfl)) ?_
  intro W base args ds gs before hval0 hW hcnd _
  have hval : ∀ (j : Nat) t v, Try.f6.params[j]? = some t → args[j]? = some v → Value.okWide Try.prog W .any base t v := hval0
  have hW' := hW
  obtain ⟨p, q, hA0, hV, rfl, hfz, hnd⟩ := hW
  have hA : DataW.TrodAll enc Try.prog W 0 (fun _ => true) true Try.f6.params.toList args.toList ds p := hA0
  rw [Try.params6] at hA hval
  obtain ⟨v0, vs0, d0, ds0, p0, q0, hargs, rfl, rfl, h0, r0⟩ := trodAll_cons hA
  obtain ⟨v1, vs1, d1, ds1, p1, q1, rfl, rfl, rfl, h1, r1⟩ := trodAll_cons r0
  obtain ⟨rfl, rfl, rfl⟩ := trodAll_nil r1
  obtain rfl : args = #[v0, v1] := by cases args; simp_all
  obtain ⟨rfl, rfl⟩ := trodVars_none hV
  have k0 := h0
  have lt0 : ∀ x ∈ p0, x.block < W.heap.size := by obtain ⟨m, hm⟩ := k0; exact DataW.trod_lt m _ _ _ hm
  obtain ⟨a0, len0, cap0, z0, n0, rfl, w0, x0⟩ := open_signer (hval 0 24 v0 rfl rfl) h0
  obtain ⟨a1, len1, cap1, rfl⟩ := okWide_slice Try.underlying22 (hval 1 22 v1 rfl rfl)
  have k1 := h1
  have lt1 : ∀ x ∈ p1, x.block < W.heap.size := by obtain ⟨m, hm⟩ := k1; exact DataW.trod_lt m _ _ _ hm
  obtain ⟨z1, w1⟩ : ∃ zs, IsRow .u8 W a1 len1 cap1 zs := by
    obtain ⟨fuel, hf⟩ := h1
    rcases open_ints Try.underlying22 Try.underlying5 (by kernel_rfl) hf with ⟨hcs, _⟩ | ⟨x, l, c, zs, hcs, _, hl, hm, hz, _, hcell, hwz⟩
    · simp [Value.cells] at hcs
      obtain ⟨rfl, rfl, rfl⟩ := hcs
      exact ⟨[], .inl ⟨rfl, rfl, rfl, rfl⟩⟩
    · simp [Value.cells] at hcs
      obtain ⟨rfl, rfl, rfl⟩ := hcs
      exact ⟨zs, .inr ⟨_, rfl, hl, hm, by simpa using hz, hcell, hwz⟩⟩
  clear hA0 hval0
  refine (signRight_walk a0 len0 cap0 _ n0 a1 len1 cap1 _ W (bsl_of_row w0) x0 (bsl_of_row w1)).mono fun e W' ⟨he, bel⟩ => ?_
  subst he
  exact ⟨_, rfl, _, _, _, [], _, [], hW', trodAll_mk1 (shut_bool Try.underlying4 _), (trodAll_cons_mk (Below.trod laidOut (by kernel_rfl) (of_decide_eq_true (by kernel_rfl)) k0 bel lt0) (trodAll_cons_mk (Below.trod laidOut (by kernel_rfl) (of_decide_eq_true (by kernel_rfl)) k1 bel lt1) trodAll_mk0)), rfl, bel.frame _, fun h => by cases h⟩

theorem over : Rows.signRightRow.holds Try.pinned (OpenSpec.ofChange Rows.signRightSpec) :=
  OpenClaim.holds_of_wide 6 Try.f6 rfl rfl rfl rfl rfl rfl rfl ⟨rfl, rfl, rfl, rfl, rfl⟩ rfl rfl rfl rfl rfl (by kernel_rfl) Try.func6 (by kernel_rfl)
    (of_decide_eq_true (by kernel_rfl)) (by unfold Func.isWrapper; first | (rw [if_pos (by decide +kernel)]; kernel_rfl) | (rw [if_neg (by decide +kernel)]; exact ⟨rfl, rfl⟩))
    (fun os started H enc _ => lifted os started H enc)

/-- The statement. -/
theorem proved : Rows.SignRightSaid := over
end Go.Proofs.Ytoednighmdoooaa.signRight
