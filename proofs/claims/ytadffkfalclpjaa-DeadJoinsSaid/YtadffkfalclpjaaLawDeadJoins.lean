/-
  DeadJoinsSaid: for any three lists (of more than 1,000 pointers the law itself answers true) they may be joined in either order and in whichever groups. No condition.
-/
import Derived.Test.YtadffkfalclpjaaRows
import Derived.Test.YtadffkfalclpjaaLawDeadA
namespace Go.Proofs.Ytadffkfalclpjaa
open Go.RowKit Go.Shelf
set_option maxRecDepth 100000

set_option linter.unusedSimpArgs false in
set_option maxHeartbeats 8000000 in
theorem deadJoins_walk (a0 : Option Addr) (len0 cap0 : Nat) (L0 : List Pt) (a1 : Option Addr) (len1 cap1 : Nat) (L1 : List Pt) (a2 : Option Addr) (len2 cap2 : Nat) (L2 : List Pt) (w : World) (h0 : Pts w w.heap.size a0 len0 cap0 L0) (h1 : Pts w w.heap.size a1 len1 cap1 L1) (h2 : Pts w w.heap.size a2 len2 cap2 L2) :
    Calls Try.prog 5 #[.slice a0 len0 cap0, .slice a1 len1 cap1, .slice a2 len2 cap2] w fun e w' => e = .returned (.bool true) ∧ Below w.heap.size w w' := by
  have HA := Lib.hid h0
  have HM := Lib.hid h1
  have HN := Lib.hid h2
  have n0 : (0 : Int) ≤ len0 := by omega
  have m0 : (0 : Int) ≤ len1 := by omega
  have k0 : (0 : Int) ≤ len2 := by omega
  have LA := Lib.hid h0.1
  have LM := Lib.hid h1.1
  clear h0 h1 h2
  by_cases q0 : len0 ≤ 1000
  · by_cases q1 : len1 ≤ 1000
    · by_cases q2 : len2 ≤ 1000
      · have d0a : decide ((len0 : Int) > 1000) = false := decide_eq_false (by omega)
        have d0b : decide ((1000 : Int) < (len0 : Int)) = false := decide_eq_false (by omega)
        have d1a : decide ((len1 : Int) > 1000) = false := decide_eq_false (by omega)
        have d1b : decide ((1000 : Int) < (len1 : Int)) = false := decide_eq_false (by omega)
        have d2a : decide ((len2 : Int) > 1000) = false := decide_eq_false (by omega)
        have d2b : decide ((1000 : Int) < (len2 : Int)) = false := decide_eq_false (by omega)
        obtain ⟨⟨X, e⟩, hX⟩ : ∃ o, joinO L0 L1 = o := ⟨_, rfl⟩
        have HX := Lib.hid hX
        have HXY := Lib.hid ((joinO_comm L1 L0).trans hX)
        clear hX
        go_enter Try.func5, Try.ntmps5
        go_wp2_with fail
        refine (ddAlive_any w).mono ?_
        rintro ev w1 ⟨rfl, b1⟩
        replace HA := Lib.hid (HA.out.step b1)
        replace HM := Lib.hid (HM.out.step b1)
        replace HN := Lib.hid (HN.out.step b1)
        have HB := Lib.hid b1
        clear b1
        have J1 := Lib.hid (ddJoin_any a0 len0 cap0 L0 a1 len1 cap1 L1 w1 HA.out HM.out)
        rw [HX.out] at J1
        go_wp2_with fail
        refine (J1.out).mono ?_
        rintro ev w2 ⟨v1, rfl, hr1, b2⟩
        replace HA := Lib.hid (HA.out.step b2)
        replace HM := Lib.hid (HM.out.step b2)
        replace HN := Lib.hid (HN.out.step b2)
        replace HB := Lib.hid (HB.out.trans (b2.mono HB.out.size))
        obtain ⟨aX, cX, rfl, htX⟩ := hr1.pts
        have TX := Lib.hid htX
        clear htX
        clear hr1 J1
        clear b2
        have J2 := Lib.hid (ddJoin_any a1 len1 cap1 L1 a0 len0 cap0 L0 w2 HM.out HA.out)
        rw [HXY.out] at J2
        go_wp2_with fail
        refine (J2.out).mono ?_
        rintro ev w3 ⟨v2, rfl, hr2, b3⟩
        replace HA := Lib.hid (HA.out.step b3)
        replace HM := Lib.hid (HM.out.step b3)
        replace HN := Lib.hid (HN.out.step b3)
        replace TX := Lib.hid (TX.out.step b3)
        replace HB := Lib.hid (HB.out.trans (b3.mono HB.out.size))
        obtain ⟨aY, cY, rfl, htY⟩ := hr2.pts
        have TY := Lib.hid htY
        clear htY
        clear hr2 J2
        clear b3
        have hxx : decide (X = X) = true := decide_eq_true rfl
        obtain ⟨lx, hlx⟩ : ∃ q, X.length = q := ⟨_, rfl⟩
        have HLX := Lib.hid hlx
        rw [hlx] at TX TY ⊢
        clear hlx
        have en : ((e : Int) != (e : Int)) = false := by simp
        have S1 := Lib.hid (dlSame_any _ _ _ X _ _ _ X w3 TX.out TY.out)
        rw [hxx] at S1
        clear hxx
        rcases joinO_cases L0 L1 with ⟨e', hX, hen⟩ | ⟨hX, hm, _, _, hln, _⟩
        · have hX2 := HX.out
          rw [hX] at hX2
          injection hX2 with hX hE
          subst hE
          replace hX := hX.symm
          by_cases hm : MayDL L0
          · have e0 : ((e' : Int) == 0) = false := by simp; omega
            have e1 : ((e' : Int) != 0) = true := by simp; omega
            have x0 : ((lx : Int) == 0) = true := by have := HLX.out; rw [hX] at this; subst this; rfl
            clear hX hen
            go_wp2_with fail
            refine (S1.out).mono ?_
            rintro ev w4 ⟨rfl, b4⟩
            replace HA := Lib.hid (HA.out.step b4)
            replace HM := Lib.hid (HM.out.step b4)
            replace HN := Lib.hid (HN.out.step b4)
            replace TX := Lib.hid (TX.out.step b4)
            replace TY := Lib.hid (TY.out.step b4)
            replace HB := Lib.hid (HB.out.trans (b4.mono HB.out.size))
            clear S1
            clear b4
            have J3 := Lib.hid (ddJoin_any a0 len0 cap0 L0 none 0 0 [] w4 HA.out (pts_nil _ _))
            rw [joinO_nil hm] at J3
            go_wp2_with fail
            refine (J3.out).mono ?_
            rintro ev w5 ⟨v3, rfl, hr3, b5⟩
            replace HA := Lib.hid (HA.out.step b5)
            replace HM := Lib.hid (HM.out.step b5)
            replace HN := Lib.hid (HN.out.step b5)
            replace TX := Lib.hid (TX.out.step b5)
            replace TY := Lib.hid (TY.out.step b5)
            replace HB := Lib.hid (HB.out.trans (b5.mono HB.out.size))
            obtain ⟨aZ, cZ, rfl, htZ⟩ := hr3.pts
            have TZ := Lib.hid htZ
            clear htZ
            clear hr3 J3
            clear b5
            have hck := ddCheck_any a0 len0 cap0 L0 w5 HA.out
            have hcv : checkDO L0 = 0 := by unfold checkDO; rw [if_pos hm]
            rw [hcv] at hck
            have CK := Lib.hid hck
            clear hck hcv hm
            go_wp2_with fail
            refine (CK.out).mono ?_
            rintro ev w6 ⟨rfl, b6⟩
            replace HA := Lib.hid (HA.out.step b6)
            replace HM := Lib.hid (HM.out.step b6)
            replace HN := Lib.hid (HN.out.step b6)
            replace TX := Lib.hid (TX.out.step b6)
            replace TY := Lib.hid (TY.out.step b6)
            replace TZ := Lib.hid (TZ.out.step b6)
            replace HB := Lib.hid (HB.out.trans (b6.mono HB.out.size))
            clear CK
            clear b6
            have hll : decide (L0 = L0) = true := decide_eq_true rfl
            have S2 := Lib.hid (dlSame_any _ _ _ L0 _ _ _ L0 w6 TZ.out HA.out)
            rw [hll] at S2
            clear hll
            go_wp2_with fail
            refine (S2.out).mono ?_
            rintro ev w7 ⟨rfl, b7⟩
            replace HA := Lib.hid (HA.out.step b7)
            replace HM := Lib.hid (HM.out.step b7)
            replace HN := Lib.hid (HN.out.step b7)
            replace TX := Lib.hid (TX.out.step b7)
            replace TY := Lib.hid (TY.out.step b7)
            replace TZ := Lib.hid (TZ.out.step b7)
            replace HB := Lib.hid (HB.out.trans (b7.mono HB.out.size))
            clear S2
            clear b7
            go_wp2_with fail
            go_ret
            exact ⟨rfl, HB.out⟩
          · have e0 : ((e' : Int) == 0) = false := by simp; omega
            have e1 : ((e' : Int) != 0) = true := by simp; omega
            have x0 : ((lx : Int) == 0) = true := by have := HLX.out; rw [hX] at this; subst this; rfl
            clear hX hen
            go_wp2_with fail
            refine (S1.out).mono ?_
            rintro ev w4 ⟨rfl, b4⟩
            replace HA := Lib.hid (HA.out.step b4)
            replace HM := Lib.hid (HM.out.step b4)
            replace HN := Lib.hid (HN.out.step b4)
            replace TX := Lib.hid (TX.out.step b4)
            replace TY := Lib.hid (TY.out.step b4)
            replace HB := Lib.hid (HB.out.trans (b4.mono HB.out.size))
            clear S1
            clear b4
            have J3 := Lib.hid (ddJoin_any a0 len0 cap0 L0 none 0 0 [] w4 HA.out (pts_nil _ _))
            obtain ⟨⟨Z, f⟩, hZ⟩ : ∃ o, joinO L0 [] = o := ⟨_, rfl⟩
            rw [hZ] at J3
            clear hZ
            go_wp2_with fail
            refine (J3.out).mono ?_
            rintro ev w5 ⟨v3, rfl, hr3, b5⟩
            replace HA := Lib.hid (HA.out.step b5)
            replace HM := Lib.hid (HM.out.step b5)
            replace HN := Lib.hid (HN.out.step b5)
            replace TX := Lib.hid (TX.out.step b5)
            replace TY := Lib.hid (TY.out.step b5)
            replace HB := Lib.hid (HB.out.trans (b5.mono HB.out.size))
            obtain ⟨aZ, cZ, rfl, htZ⟩ := hr3.pts
            have TZ := Lib.hid htZ
            clear htZ
            clear hr3 J3
            clear b5
            have hck := ddCheck_any a0 len0 cap0 L0 w5 HA.out
            have hcv : checkDO L0 = 8 := by unfold checkDO; rw [if_neg hm]
            rw [hcv] at hck
            have CK := Lib.hid hck
            clear hck hcv hm
            go_wp2_with fail
            refine (CK.out).mono ?_
            rintro ev w6 ⟨rfl, b6⟩
            replace HA := Lib.hid (HA.out.step b6)
            replace HM := Lib.hid (HM.out.step b6)
            replace HN := Lib.hid (HN.out.step b6)
            replace TX := Lib.hid (TX.out.step b6)
            replace TY := Lib.hid (TY.out.step b6)
            replace TZ := Lib.hid (TZ.out.step b6)
            replace HB := Lib.hid (HB.out.trans (b6.mono HB.out.size))
            clear CK
            clear b6
            go_wp2_with fail
            go_ret
            exact ⟨rfl, HB.out⟩
        · have hX2 := HX.out
          rw [hX] at hX2
          injection hX2 with hX3 hE
          subst hE
          subst hX3
          clear en
          have en : ((0 : Int) != (0 : Int)) = false := rfl
          rw [LA.out, LM.out] at hln
          have e0 : ((0 : Int) == 0) = true := rfl
          have e1 : ((0 : Int) != 0) = false := rfl
          have hlen : lx = len0 + len1 := by rw [← HLX.out, bothD_length, LA.out, LM.out]
          have x0 : ((lx : Int) != (len0 : Int) + (len1 : Int)) = false := by simp; omega
          have x1 : (len0 : Int) + (len1 : Int) ≤ 9223372036854775807 := by have := hln; omega
          clear hlen hln
          go_wp2_with fail
          refine (S1.out).mono ?_
          rintro ev w4 ⟨rfl, b4⟩
          replace HA := Lib.hid (HA.out.step b4)
          replace HM := Lib.hid (HM.out.step b4)
          replace HN := Lib.hid (HN.out.step b4)
          replace TX := Lib.hid (TX.out.step b4)
          replace TY := Lib.hid (TY.out.step b4)
          replace HB := Lib.hid (HB.out.trans (b4.mono HB.out.size))
          clear S1
          clear b4
          have J3 := Lib.hid (ddJoin_any a0 len0 cap0 L0 none 0 0 [] w4 HA.out (pts_nil _ _))
          rw [joinO_nil hm] at J3
          go_wp2_with fail
          refine (J3.out).mono ?_
          rintro ev w5 ⟨v3, rfl, hr3, b5⟩
          replace HA := Lib.hid (HA.out.step b5)
          replace HM := Lib.hid (HM.out.step b5)
          replace HN := Lib.hid (HN.out.step b5)
          replace TX := Lib.hid (TX.out.step b5)
          replace TY := Lib.hid (TY.out.step b5)
          replace HB := Lib.hid (HB.out.trans (b5.mono HB.out.size))
          obtain ⟨aZ, cZ, rfl, htZ⟩ := hr3.pts
          have TZ := Lib.hid htZ
          clear htZ
          clear hr3 J3
          clear b5
          have hck := ddCheck_any a0 len0 cap0 L0 w5 HA.out
          have hcv : checkDO L0 = 0 := by unfold checkDO; rw [if_pos hm]
          rw [hcv] at hck
          have CK := Lib.hid hck
          clear hck hcv hm
          go_wp2_with fail
          refine (CK.out).mono ?_
          rintro ev w6 ⟨rfl, b6⟩
          replace HA := Lib.hid (HA.out.step b6)
          replace HM := Lib.hid (HM.out.step b6)
          replace HN := Lib.hid (HN.out.step b6)
          replace TX := Lib.hid (TX.out.step b6)
          replace TY := Lib.hid (TY.out.step b6)
          replace TZ := Lib.hid (TZ.out.step b6)
          replace HB := Lib.hid (HB.out.trans (b6.mono HB.out.size))
          clear CK
          clear b6
          have hll : decide (L0 = L0) = true := decide_eq_true rfl
          have S2 := Lib.hid (dlSame_any _ _ _ L0 _ _ _ L0 w6 TZ.out HA.out)
          rw [hll] at S2
          clear hll
          go_wp2_with fail
          refine (S2.out).mono ?_
          rintro ev w7 ⟨rfl, b7⟩
          replace HA := Lib.hid (HA.out.step b7)
          replace HM := Lib.hid (HM.out.step b7)
          replace HN := Lib.hid (HN.out.step b7)
          replace TX := Lib.hid (TX.out.step b7)
          replace TY := Lib.hid (TY.out.step b7)
          replace TZ := Lib.hid (TZ.out.step b7)
          replace HB := Lib.hid (HB.out.trans (b7.mono HB.out.size))
          clear S2
          clear b7
          obtain ⟨⟨U, h⟩, hU⟩ : ∃ o, joinO (bothD L0 L1) L2 = o := ⟨_, rfl⟩
          have J4 := Lib.hid (ddJoin_any _ _ _ (bothD L0 L1) a2 len2 cap2 L2 w7 TX.out HN.out)
          rw [hU] at J4
          obtain ⟨⟨V, i⟩, hV⟩ : ∃ o, joinO L1 L2 = o := ⟨_, rfl⟩
          go_wp2_with fail
          refine (J4.out).mono ?_
          rintro ev w8 ⟨v4, rfl, hr4, b8⟩
          replace HA := Lib.hid (HA.out.step b8)
          replace HM := Lib.hid (HM.out.step b8)
          replace HN := Lib.hid (HN.out.step b8)
          replace TX := Lib.hid (TX.out.step b8)
          replace TY := Lib.hid (TY.out.step b8)
          replace TZ := Lib.hid (TZ.out.step b8)
          replace HB := Lib.hid (HB.out.trans (b8.mono HB.out.size))
          obtain ⟨aU, cU, rfl, htU⟩ := hr4.pts
          have TU := Lib.hid htU
          clear htU
          clear hr4 J4
          clear b8
          have J5 := Lib.hid (ddJoin_any a1 len1 cap1 L1 a2 len2 cap2 L2 w8 HM.out HN.out)
          rw [hV] at J5
          by_cases hh : h ≠ 0
          · have h1 : ((h : Int) != 0) = true := by simp; omega
            clear hU hV hh
            go_wp2_with fail
            refine (J5.out).mono ?_
            rintro ev w9 ⟨v5, rfl, hr5, b9⟩
            replace HA := Lib.hid (HA.out.step b9)
            replace HM := Lib.hid (HM.out.step b9)
            replace HN := Lib.hid (HN.out.step b9)
            replace TX := Lib.hid (TX.out.step b9)
            replace TY := Lib.hid (TY.out.step b9)
            replace TZ := Lib.hid (TZ.out.step b9)
            replace TU := Lib.hid (TU.out.step b9)
            replace HB := Lib.hid (HB.out.trans (b9.mono HB.out.size))
            obtain ⟨aV, cV, rfl, htV⟩ := hr5.pts
            have TV := Lib.hid htV
            clear htV
            clear hr5 J5
            clear b9
            go_wp2_with fail
            go_ret
            exact ⟨rfl, HB.out⟩
          · obtain rfl : h = 0 := by omega
            obtain ⟨V', hV1, hV2⟩ := joinO_assoc (show joinO L0 L1 = (bothD L0 L1, 0) from HX.out) hU
            rw [hV] at hV1
            injection hV1 with hV3 hV4
            subst hV3
            subst hV4
            have h1 : ((0 : Int) != 0) = false := rfl
            have h2 : ((0 : Int) == 0) = true := rfl
            have HV2 := Lib.hid hV2
            clear hU hV hh hV2
            go_wp2_with fail
            refine (J5.out).mono ?_
            rintro ev w9 ⟨v5, rfl, hr5, b9⟩
            replace HA := Lib.hid (HA.out.step b9)
            replace HM := Lib.hid (HM.out.step b9)
            replace HN := Lib.hid (HN.out.step b9)
            replace TX := Lib.hid (TX.out.step b9)
            replace TY := Lib.hid (TY.out.step b9)
            replace TZ := Lib.hid (TZ.out.step b9)
            replace TU := Lib.hid (TU.out.step b9)
            replace HB := Lib.hid (HB.out.trans (b9.mono HB.out.size))
            obtain ⟨aV, cV, rfl, htV⟩ := hr5.pts
            have TV := Lib.hid htV
            clear htV
            clear hr5 J5
            clear b9
            have J6 := Lib.hid (ddJoin_any a0 len0 cap0 L0 _ _ _ V w9 HA.out TV.out)
            rw [HV2.out] at J6
            go_wp2_with fail
            refine (J6.out).mono ?_
            rintro ev w10 ⟨v6, rfl, hr6, b10⟩
            replace HA := Lib.hid (HA.out.step b10)
            replace HM := Lib.hid (HM.out.step b10)
            replace HN := Lib.hid (HN.out.step b10)
            replace TX := Lib.hid (TX.out.step b10)
            replace TY := Lib.hid (TY.out.step b10)
            replace TZ := Lib.hid (TZ.out.step b10)
            replace TU := Lib.hid (TU.out.step b10)
            replace TV := Lib.hid (TV.out.step b10)
            replace HB := Lib.hid (HB.out.trans (b10.mono HB.out.size))
            obtain ⟨aQ, cQ, rfl, htQ⟩ := hr6.pts
            have TQ := Lib.hid htQ
            clear htQ
            clear hr6 J6
            clear b10
            have huu : decide (U = U) = true := decide_eq_true rfl
            have S3 := Lib.hid (dlSame_any _ _ _ U _ _ _ U w10 TU.out TQ.out)
            rw [huu] at S3
            clear huu
            go_wp2_with fail
            refine (S3.out).mono ?_
            rintro ev w11 ⟨rfl, b11⟩
            replace HA := Lib.hid (HA.out.step b11)
            replace HM := Lib.hid (HM.out.step b11)
            replace HN := Lib.hid (HN.out.step b11)
            replace TX := Lib.hid (TX.out.step b11)
            replace TY := Lib.hid (TY.out.step b11)
            replace TZ := Lib.hid (TZ.out.step b11)
            replace TU := Lib.hid (TU.out.step b11)
            replace TV := Lib.hid (TV.out.step b11)
            replace TQ := Lib.hid (TQ.out.step b11)
            replace HB := Lib.hid (HB.out.trans (b11.mono HB.out.size))
            clear S3
            clear b11
            go_wp2_with fail
            go_ret
            exact ⟨rfl, HB.out⟩
      · have d0a : decide ((len0 : Int) > 1000) = false := decide_eq_false (by omega)
        have d0b : decide ((1000 : Int) < (len0 : Int)) = false := decide_eq_false (by omega)
        have d1a : decide ((len1 : Int) > 1000) = false := decide_eq_false (by omega)
        have d1b : decide ((1000 : Int) < (len1 : Int)) = false := decide_eq_false (by omega)
        have d2a : decide ((len2 : Int) > 1000) = true := decide_eq_true (by omega)
        have d2b : decide ((1000 : Int) < (len2 : Int)) = true := decide_eq_true (by omega)
        go_enter Try.func5, Try.ntmps5
        go_wp2_with fail
        refine (ddAlive_any w).mono ?_
        rintro ev w1 ⟨rfl, b1⟩
        replace HA := Lib.hid (HA.out.step b1)
        replace HM := Lib.hid (HM.out.step b1)
        replace HN := Lib.hid (HN.out.step b1)
        have HB := Lib.hid b1
        clear b1
        go_wp2_with fail
        go_ret
        exact ⟨rfl, HB.out⟩
    · have d0a : decide ((len0 : Int) > 1000) = false := decide_eq_false (by omega)
      have d0b : decide ((1000 : Int) < (len0 : Int)) = false := decide_eq_false (by omega)
      have d1a : decide ((len1 : Int) > 1000) = true := decide_eq_true (by omega)
      have d1b : decide ((1000 : Int) < (len1 : Int)) = true := decide_eq_true (by omega)
      go_enter Try.func5, Try.ntmps5
      go_wp2_with fail
      refine (ddAlive_any w).mono ?_
      rintro ev w1 ⟨rfl, b1⟩
      replace HA := Lib.hid (HA.out.step b1)
      replace HM := Lib.hid (HM.out.step b1)
      replace HN := Lib.hid (HN.out.step b1)
      have HB := Lib.hid b1
      clear b1
      go_wp2_with fail
      go_ret
      exact ⟨rfl, HB.out⟩
  · have d0a : decide ((len0 : Int) > 1000) = true := decide_eq_true (by omega)
    have d0b : decide ((1000 : Int) < (len0 : Int)) = true := decide_eq_true (by omega)
    go_enter Try.func5, Try.ntmps5
    go_wp2_with fail
    refine (ddAlive_any w).mono ?_
    rintro ev w1 ⟨rfl, b1⟩
    replace HA := Lib.hid (HA.out.step b1)
    replace HM := Lib.hid (HM.out.step b1)
    replace HN := Lib.hid (HN.out.step b1)
    have HB := Lib.hid b1
    clear b1
    go_wp2_with fail
    go_ret
    exact ⟨rfl, HB.out⟩
end Go.Proofs.Ytadffkfalclpjaa
namespace Go.Proofs.Ytadffkfalclpjaa.deadJoins
open Go.ChangeShapes Go.WideShapes Go.ChangeAt Go.RowKit
set_option linter.unusedVariables false

theorem own : ownKnob Try.prog.godebug = none := by kernel_rfl
theorem laidOut : laidOutB Try.prog = true := by kernel_rfl

set_option maxRecDepth 100000 in
theorem lifted (os : Os) (started : os.Started) (H : Type) (enc : TypeId × Value → H) :
    ReturnsInHanded {} Try.checked os 5 .any (Rows.deadJoinsSpec.pre6 enc Try.prog Try.f5 Rows.deadJoinsRow.domain false) (Rows.deadJoinsSpec.post enc Try.prog Try.f5 false true false false) := by
  refine returnsInHanded_of_change (C := Try.checked) own started (by kernel_rfl) Try.func5
    (ChangeSpec.witness6 (enc := enc) (C := Try.checked) false ⟨#[], #[.slice none 0 0, .slice none 0 0, .slice none 0 0], []⟩ 8 (by kernel_rfl) (by kernel_rfl) (by kernel_rfl) (by kernel_rfl)) ?_
  intro W base args ds gs before hval0 hW hcnd _
  have hval : ∀ (j : Nat) t v, Try.f5.params[j]? = some t → args[j]? = some v → Value.okWide Try.prog W .any base t v := hval0
  have hW' := hW
  obtain ⟨p, q, hA0, hV, rfl, hfz, hnd⟩ := hW
  have hA : DataW.TrodAll enc Try.prog W 0 (fun _ => true) true Try.f5.params.toList args.toList ds p := hA0
  rw [Try.params5] at hA hval
  obtain ⟨v0, vs0, d0, ds0, p0, q0, hargs, rfl, rfl, h0, r0⟩ := trodAll_cons hA
  obtain ⟨v1, vs1, d1, ds1, p1, q1, rfl, rfl, rfl, h1, r1⟩ := trodAll_cons r0
  obtain ⟨v2, vs2, d2, ds2, p2, q2, rfl, rfl, rfl, h2, r2⟩ := trodAll_cons r1
  obtain ⟨rfl, rfl, rfl⟩ := trodAll_nil r2
  obtain rfl : args = #[v0, v1, v2] := by cases args; simp_all
  obtain ⟨rfl, rfl⟩ := trodVars_none hV
  obtain ⟨a0, len0, cap0, rfl⟩ := okWide_slice Try.underlying22 (hval 0 22 v0 rfl rfl)
  have k0 := h0
  have lt0 : ∀ x ∈ p0, x.block < W.heap.size := by obtain ⟨m, hm⟩ := k0; exact DataW.trod_lt m _ _ _ hm
  obtain ⟨L0, w0⟩ := open_ptrs h0
  obtain ⟨a1, len1, cap1, rfl⟩ := okWide_slice Try.underlying22 (hval 1 22 v1 rfl rfl)
  have k1 := h1
  have lt1 : ∀ x ∈ p1, x.block < W.heap.size := by obtain ⟨m, hm⟩ := k1; exact DataW.trod_lt m _ _ _ hm
  obtain ⟨L1, w1⟩ := open_ptrs h1
  obtain ⟨a2, len2, cap2, rfl⟩ := okWide_slice Try.underlying22 (hval 2 22 v2 rfl rfl)
  have k2 := h2
  have lt2 : ∀ x ∈ p2, x.block < W.heap.size := by obtain ⟨m, hm⟩ := k2; exact DataW.trod_lt m _ _ _ hm
  obtain ⟨L2, w2⟩ := open_ptrs h2
  clear hA0 hval0
  refine (deadJoins_walk a0 len0 cap0 L0 a1 len1 cap1 L1 a2 len2 cap2 L2 W w0 w1 w2).mono fun e W' ⟨he, bel⟩ => ?_
  subst he
  exact ⟨_, rfl, _, _, _, [], _, [], hW', trodAll_mk1 (shut_bool Try.underlying4 _), (trodAll_cons_mk (Below.trod laidOut (by kernel_rfl) (of_decide_eq_true (by kernel_rfl)) k0 bel lt0) (trodAll_cons_mk (Below.trod laidOut (by kernel_rfl) (of_decide_eq_true (by kernel_rfl)) k1 bel lt1) (trodAll_cons_mk (Below.trod laidOut (by kernel_rfl) (of_decide_eq_true (by kernel_rfl)) k2 bel lt2) trodAll_mk0))), rfl, bel.frame _, fun h => by cases h⟩

theorem over : Rows.deadJoinsRow.holds Try.pinned (OpenSpec.ofChange Rows.deadJoinsSpec) :=
  OpenClaim.holds_of_wide 5 Try.f5 rfl rfl rfl rfl rfl rfl rfl ⟨rfl, rfl, rfl, rfl, rfl⟩ rfl rfl rfl rfl rfl (by kernel_rfl) Try.func5 (by kernel_rfl)
    (of_decide_eq_true (by kernel_rfl)) (by unfold Func.isWrapper; first | (rw [if_pos (by decide +kernel)]; kernel_rfl) | (rw [if_neg (by decide +kernel)]; exact ⟨rfl, rfl⟩))
    (fun os started H enc _ => lifted os started H enc)

/-- The statement. -/
theorem proved : Rows.DeadJoinsSaid := over
end Go.Proofs.Ytadffkfalclpjaa.deadJoins
