/-
  StoreGivesSaid: for any store and pointer (where the store is great, the law itself answers what its example answers) what was given up is looked at as before, nothing is given up twice, and neither disk nor numbers change. No condition.
-/
import Derived.Test.YtdpmdlibgabjaaaGreatRows
import Derived.BigQuiet
import Derived.Test.YtdpmdlibgabjaaaGreatPkSZ6
namespace Go.Proofs.YtdpmdlibgabjaaaGreat
open Go.RowKit Go.Shelf
set_option maxRecDepth 100000

set_option maxHeartbeats 16000000 in
theorem storeGives_walk (x : SAt) (S : StL) (p : Pt) (w : World) (h : Str w w.heap.size x S) (hnear : Near S.1) (hwf : WfS S) (hwp : WfP p) :
    Calls Tryz.prog 6 #[stV x S, ptV p] w fun e w' => e = .returned (.bool true) ∧ Below w.heap.size w w' := by
  have hmx : Tryz.prog.follows Departure.mixedOrders = true := by kernel_rfl
  have h1 := h.lasts (Nat.le_refl _)
  obtain ⟨L, hL⟩ : ∃ L, w.heap.size = L := ⟨_, rfl⟩
  rw [hL] at h1
  obtain ⟨P, hP⟩ : ∃ P : Pt, p = P := ⟨_, rfl⟩
  have HPE := Lib.hid hP
  have HWP := Lib.hid (hP ▸ hwp)
  obtain ⟨pa, pb, pi, pt, ps⟩ := p
  obtain ⟨w0, hw0, b0, z0, xS, xP⟩ := two_al w (stC x S) #[.int .i64 pa, .int .u32 (pb : Int), .int .u32 (pi : Int), .int .u32 (pt : Int), .int .u32 (ps : Int)] 29 33
  have HX := Lib.hid xS
  have HQ := Lib.hid xP
  have HT := Lib.hid (h1.bel b0)
  have HLW := Lib.hid (show L ≤ w0.heap.size by rw [← hL]; exact b0.size)
  have HB := Lib.hid b0
  have HN := Lib.hid hnear
  have HWF := Lib.hid hwf
  obtain ⟨g, hg⟩ : ∃ g, w.heap.size = g := ⟨_, rfl⟩
  obtain ⟨g', hg'⟩ : ∃ g', g + 1 = g' := ⟨_, rfl⟩
  rw [hg] at HX HQ
  rw [hg'] at HQ
  simp only [stC] at hw0
  clear h h1 hL b0 z0 xS xP hnear hwf hwp hP
  go_enter Tryz.func6, Tryz.ntmps6
  go_wp2_with fail
  try rw [hw0]
  try rw [hg]
  try rw [hg']
  clear hw0 hg hg'
  refine (stAlive_any w0).mono ?_
  rintro e w1 ⟨rfl, b1⟩
  replace HX := Lib.hid (HX.out.below b1 HX.out.lt)
  replace HQ := Lib.hid (HQ.out.below b1 HQ.out.lt)
  replace HT := Lib.hid (HT.out.bel b1)
  replace HB := Lib.hid (HB.out.trans (b1.mono HB.out.size))
  replace HLW := Lib.hid (Nat.le_trans HLW.out b1.size)
  clear b1
  have d0 := bx0 HX.out
  have d1 := bx1 HX.out
  have d2 := bx2 HX.out
  have d3 := bx3 HX.out
  have d4 := bx4 HX.out
  have HG := Lib.hid (rtGreat_any L x S w1 HT.out HN.out)
  go_wp2_with fail
  clear d0 d1 d2 d3 d4
  refine HG.out.mono ?_
  rintro e w2 ⟨gr, rfl, hsm, b2⟩
  replace HX := Lib.hid (HX.out.below b2 HX.out.lt)
  replace HQ := Lib.hid (HQ.out.below b2 HQ.out.lt)
  replace HT := Lib.hid (HT.out.bel b2)
  replace HB := Lib.hid (HB.out.trans (b2.mono HB.out.size))
  replace HLW := Lib.hid (Nat.le_trans HLW.out b2.size)
  clear b2 HG
  cases gr with
  | true =>
    go_wp2_with fail
    go_ret
    exact ⟨rfl, HB.out⟩
  | false =>
    have hok : OkS S := ⟨small_fits (hsm rfl).1, by have := (hsm rfl).2; omega, HWF.out⟩
    have HOK := Lib.hid hok
    clear hsm hok
    obtain ⟨o, ho⟩ : ∃ o, lookO S P = o := ⟨_, rfl⟩
    have HO := Lib.hid ho
    have HK := Lib.hid (stLook_any L x S P w2 HT.out HOK.out HWP.out HLW.out)
    rw [HO.out] at HK
    obtain ⟨la, ea⟩ := o
    have d0 := bx0 HX.out
    have d1 := bx1 HX.out
    have d2 := bx2 HX.out
    have d3 := bx3 HX.out
    have d4 := bx4 HX.out
    have q0 := bx0 HQ.out
    have q1 := bx1 HQ.out
    have q2 := bx2 HQ.out
    have q3 := bx3 HQ.out
    have q4 := bx4 HQ.out
    clear ho
    have HPF := Lib.hid HPE.out
    rw [← HPE.out] at HK
    go_wp2_with fail
    clear d0 d1 d2 d3 d4
    clear q0 q1 q2 q3 q4
    refine HK.out.mono ?_
    rintro e w3 ⟨va, rfl, hla, b3⟩
    simp only at hla
    obtain ⟨aa, ca, rfl⟩ := own_slice hla
    replace HX := Lib.hid (HX.out.below b3 HX.out.lt)
    replace HQ := Lib.hid (HQ.out.below b3 HQ.out.lt)
    replace HT := Lib.hid (HT.out.bel b3)
    replace HB := Lib.hid (HB.out.trans (b3.mono HB.out.size))
    replace HLW := Lib.hid (Nat.le_trans HLW.out b3.size)
    have HA := Lib.hid hla
    clear b3 hla HK
    have HV := Lib.hid (stGive_any L x S P w3 HT.out HOK.out HWP.out HLW.out)
    rcases giveSO_cases S P with ⟨eg, heg, hne⟩ | ⟨k, hmS, hmP, hp0, hpk, hk, hmk, heg⟩
    · rw [heg, ← HPE.out] at HV
      have d0 := bx0 HX.out
      have d1 := bx1 HX.out
      have d2 := bx2 HX.out
      have d3 := bx3 HX.out
      have d4 := bx4 HX.out
      have q0 := bx0 HQ.out
      have q1 := bx1 HQ.out
      have q2 := bx2 HQ.out
      have q3 := bx3 HQ.out
      have q4 := bx4 HQ.out
      go_wp2_with fail
      clear d0 d1 d2 d3 d4
      clear q0 q1 q2 q3 q4
      refine HV.out.mono ?_
      rintro e w4 ⟨y, rfl, ht, _, b4⟩
      replace HX := Lib.hid (HX.out.below b4 HX.out.lt)
      replace HQ := Lib.hid (HQ.out.below b4 HQ.out.lt)
      replace HT := Lib.hid (HT.out.bel b4)
      replace HB := Lib.hid (HB.out.trans (b4.mono HB.out.size))
      replace HA := Lib.hid (own_below HA.out b4)
      have H5 := Lib.hid (Blk.new w4 29 (stC y st0))
      have H6 := Lib.hid ((Below.refl w4.heap.size w4).alloc (Nat.le_refl _) (.cells (stC y st0) 29))
      have e1 : ((eg : Int) != 0) = true := by simp; omega
      have e2 : ¬ ((eg : Int) = 0) := by omega
      have m2 := stC2 H5.out
      clear b4 ht HV hne heg
      go_wp2_with fail
      go_ret
      exact ⟨rfl, HB.out.trans (H6.out.mono HB.out.size)⟩
    · have HM := Lib.hid hmS
      have HMP := Lib.hid hmP
      have HKK := Lib.hid hk
      have HMK := Lib.hid hmk
      have hgl := give_look hmS hmP hk
      rw [HO.out] at hgl
      have HGL := Lib.hid hgl
      have HGT := Lib.hid (give_twice hmS hmP hpk hk)
      have HGM := Lib.hid (fun i => give_mark (S := S) (k := k) (i := i) hmS.2.1.1 hk.2)
      have HPK := Lib.hid hpk
      have HTM := Lib.hid (giveAt_may hmS hk)
      obtain ⟨T, hT⟩ : ∃ T, giveAt S k = T := ⟨_, rfl⟩
      have hT1 : T.1 = S.1 := by rw [← hT]
      have hT3 : T.2.2.1 = S.2.2.1 := by rw [← hT]
      have hT4 : T.2.2.2 = S.2.2.2 := by rw [← hT]
      rw [hT] at heg HGL HGT HTM
      rw [heg, ← HPE.out] at HV
      have HGM' : Hid (∀ i, mkT T.2.1 i = if i = k then 2 else mkT S.2.1 i) := Lib.hid fun i => by rw [← hT]; exact HGM.out i
      have HT1 := Lib.hid hT1
      have HT3 := Lib.hid hT3
      have HT4 := Lib.hid hT4
      clear hmS hmP hp0 hpk hk hmk heg hgl hT hT1 hT3 hT4 HGM
      have d0 := bx0 HX.out
      have d1 := bx1 HX.out
      have d2 := bx2 HX.out
      have d3 := bx3 HX.out
      have d4 := bx4 HX.out
      have q0 := bx0 HQ.out
      have q1 := bx1 HQ.out
      have q2 := bx2 HQ.out
      have q3 := bx3 HQ.out
      have q4 := bx4 HQ.out
      go_wp2_with fail
      clear d0 d1 d2 d3 d4
      clear q0 q1 q2 q3 q4
      refine HV.out.mono ?_
      rintro e w4 ⟨y, rfl, ht, _, b4⟩
      replace HX := Lib.hid (HX.out.below b4 HX.out.lt)
      replace HQ := Lib.hid (HQ.out.below b4 HQ.out.lt)
      replace HT := Lib.hid (HT.out.bel b4)
      replace HB := Lib.hid (HB.out.trans (b4.mono HB.out.size))
      replace HA := Lib.hid (own_below HA.out b4)
      replace HLW := Lib.hid (Nat.le_trans HLW.out b4.size)
      obtain ⟨yd, ya, yc⟩ := y
      have H5 := Lib.hid (Blk.new w4 29 (stC ⟨yd, ya, yc⟩ T))
      have HY := Lib.hid ht
      have b5 := (Below.refl w4.heap.size w4).alloc (Nat.le_refl _) (.cells (stC ⟨yd, ya, yc⟩ T) 29)
      clear b4 ht HV
      replace HX := Lib.hid (HX.out.below b5 HX.out.lt)
      replace HQ := Lib.hid (HQ.out.below b5 HQ.out.lt)
      replace HT := Lib.hid (HT.out.bel b5)
      replace HB := Lib.hid (HB.out.trans (b5.mono HB.out.size))
      replace HA := Lib.hid (own_below HA.out b5)
      replace HY := Lib.hid (HY.out.bel b5)
      replace HLW := Lib.hid (Nat.le_trans HLW.out b5.size)
      have HY2 := Lib.hid (HTM.out.2.1.1)
      have e1 : (((0 : Nat) : Int) != 0) = false := rfl
      have m0 := bx0 H5.out
      have m1 := bx1 H5.out
      have m2 := bx2 H5.out
      have m3 := bx3 H5.out
      have m4 := bx4 H5.out
      have q0 := bx0 HQ.out
      have q1 := bx1 HQ.out
      have q2 := bx2 HQ.out
      have q3 := bx3 HQ.out
      have q4 := bx4 HQ.out
      clear b5
      go_wp2_with fail
      clear m0 m1 m2 m3 m4
      clear q0 q1 q2 q3 q4
      obtain ⟨w5, hw5⟩ : ∃ w5, w4.alloc (.cells (stC ⟨yd, ya, yc⟩ T) 29) = w5 := ⟨_, rfl⟩
      obtain ⟨g2, hg2⟩ : ∃ g2, w4.heap.size = g2 := ⟨_, rfl⟩
      rw [hw5] at HX HQ HT HB HA HY H5 HLW
      rw [hg2] at H5
      simp only [stC] at hw5
      rw [hw5]
      try rw [hg2]
      clear hw5 hg2
      have HK := Lib.hid (stLook_any 0 ⟨yd, ya, yc⟩ T P w5 HY.out HTM.out.ok HWP.out (Nat.zero_le _))
      rw [HGL.out, ← HPE.out] at HK
      refine HK.out.mono ?_
      rintro e w6 ⟨vb, rfl, hlb, b6⟩
      simp only at hlb
      obtain ⟨ab, cb, rfl⟩ := own_slice hlb
      replace HX := Lib.hid (HX.out.below b6 HX.out.lt)
      replace HQ := Lib.hid (HQ.out.below b6 HQ.out.lt)
      replace HT := Lib.hid (HT.out.bel b6)
      replace HB := Lib.hid (HB.out.trans (b6.mono HB.out.size))
      replace HA := Lib.hid (own_below HA.out b6)
      replace HY := Lib.hid (HY.out.bel b6)
      replace H5 := Lib.hid (H5.out.below b6 H5.out.lt)
      replace HLW := Lib.hid (Nat.le_trans HLW.out b6.size)
      have HA2 := Lib.hid hlb
      clear b6 hlb HK
      have HV := Lib.hid (stGive_any 0 ⟨yd, ya, yc⟩ T P w6 HY.out HTM.out.ok HWP.out (Nat.zero_le _))
      rw [HGT.out, ← HPE.out] at HV
      have m0 := bx0 H5.out
      have m1 := bx1 H5.out
      have m2 := bx2 H5.out
      have m3 := bx3 H5.out
      have m4 := bx4 H5.out
      have q0 := bx0 HQ.out
      have q1 := bx1 HQ.out
      have q2 := bx2 HQ.out
      have q3 := bx3 HQ.out
      have q4 := bx4 HQ.out
      go_wp2_with fail
      clear m0 m1 m2 m3 m4
      clear q0 q1 q2 q3 q4
      refine HV.out.mono ?_
      rintro e w7 ⟨z, rfl, _, _, b7⟩
      replace HX := Lib.hid (HX.out.below b7 HX.out.lt)
      replace HQ := Lib.hid (HQ.out.below b7 HQ.out.lt)
      replace HT := Lib.hid (HT.out.bel b7)
      replace HB := Lib.hid (HB.out.trans (b7.mono HB.out.size))
      replace HA := Lib.hid (own_below HA.out b7)
      replace HY := Lib.hid (HY.out.bel b7)
      replace H5 := Lib.hid (H5.out.below b7 H5.out.lt)
      replace HA2 := Lib.hid (own_below HA2.out b7)
      replace HLW := Lib.hid (Nat.le_trans HLW.out b7.size)
      have b8 := (Below.refl w7.heap.size w7).alloc (Nat.le_refl _) (.cells #[.slice z.d.ba 0 z.d.bc, .slice z.d.wa 0 z.d.wc, .slice z.a 0 z.c, .int .u32 0, .int .u32 0] 29)
      clear b7 HV
      replace HX := Lib.hid (HX.out.below b8 HX.out.lt)
      replace HQ := Lib.hid (HQ.out.below b8 HQ.out.lt)
      replace HT := Lib.hid (HT.out.bel b8)
      replace HB := Lib.hid (HB.out.trans (b8.mono HB.out.size))
      replace HA := Lib.hid (own_below HA.out b8)
      replace HY := Lib.hid (HY.out.bel b8)
      replace H5 := Lib.hid (H5.out.below b8 H5.out.lt)
      replace HA2 := Lib.hid (own_below HA2.out b8)
      replace HLW := Lib.hid (Nat.le_trans HLW.out b8.size)
      obtain ⟨W8, hw8⟩ : ∃ W8, w7.alloc (.cells #[.slice z.d.ba 0 z.d.bc, .slice z.d.wa 0 z.d.wc, .slice z.a 0 z.c, .int .u32 0, .int .u32 0] 29) = W8 := ⟨_, rfl⟩
      rw [hw8] at HX HQ HT HB HA HY H5 HLW HA2
      have HS := Lib.hid (dSame_any x.d S.1 yd T.1 W8 HT.out.now.1 HY.out.now.1 true (by rw [HT1.out]; simp))
      simp only [dval] at HS
      have V1 := (own_bsl HA.out).conv
      have V2 := (own_bsl HA2.out).conv
      have e2 : ((ea : Int) != ea) = false := by simp
      have e3 : ((strOf la).toList == (strOf la).toList) = true := by simp
      have e4 : (((6 : Nat) : Int) != 6) = false := rfl
      have m0 := bx0 H5.out
      have m1 := bx1 H5.out
      have m2 := bx2 H5.out
      have m3 := bx3 H5.out
      have m4 := bx4 H5.out
      have d0 := bx0 HX.out
      have d1 := bx1 HX.out
      have d2 := bx2 HX.out
      have d3 := bx3 HX.out
      have d4 := bx4 HX.out
      rw [← hw8] at V1 V2 m0 m1 d0 d1
      have HW8 := Lib.hid hw8
      clear b8 hw8
      go_wp2_with fail
      rw [HW8.out]
      clear V1 V2 m0 m1 m2 m3 m4 d0 d1 d2 d3 d4 HW8 e2 e3 e4
      refine HS.out.mono ?_
      rintro e w9 ⟨rfl, b9⟩
      replace HX := Lib.hid (HX.out.below b9 HX.out.lt)
      replace HQ := Lib.hid (HQ.out.below b9 HQ.out.lt)
      replace HT := Lib.hid (HT.out.bel b9)
      replace HB := Lib.hid (HB.out.trans (b9.mono HB.out.size))
      replace HA := Lib.hid (own_below HA.out b9)
      replace HY := Lib.hid (HY.out.bel b9)
      replace H5 := Lib.hid (H5.out.below b9 H5.out.lt)
      replace HA2 := Lib.hid (own_below HA2.out b9)
      replace HLW := Lib.hid (Nat.le_trans HLW.out b9.size)
      clear b9 HS
      obtain ⟨xd, xa, xc⟩ := x
      obtain ⟨bx, ox, rfl, _⟩ := HT.out.now.2.at_ (by rw [HM.out.2.1.1]; omega)
      obtain ⟨by_, oy, rfl, _⟩ := HY.out.now.2.at_ (by rw [HY2.out]; omega)
      have m0 := bx0 H5.out
      have m1 := bx1 H5.out
      have m2 := bx2 H5.out
      have m3 := bx3 H5.out
      have m4 := bx4 H5.out
      have d0 := bx0 HX.out
      have d1 := bx1 HX.out
      have d2 := bx2 HX.out
      have d3 := bx3 HX.out
      have d4 := bx4 HX.out
      have HSL := Lib.hid HM.out.2.1.1
      rw [HT3.out] at m3
      rw [HT4.out] at m4
      rw [HY2.out] at m2
      rw [HSL.out] at d2
      have e2 : ((S.2.2.1 : Int) != S.2.2.1) = false := by simp
      have e3 : ((S.2.2.2 : Int) != S.2.2.2) = false := by simp
      go_wp2_with fail
      clear m0 m1 m2 m3 m4
      clear d0 d1 d2 d3 d4
      clear e2 e3
      obtain rfl : pa = (k : Int) := by have := HPK.out; rw [← HPE.out] at this; exact this
      obtain ⟨k12, k256⟩ := HKK.out
      go_loopw [14] (fun i wr => ∃ j : Nat, j ≤ 256 ∧ i = .int .i64 j ∧ Below w9.heap.size w9 wr) (fun i _ => 256 - (intOf i).toNat)
      case atStart => exact ⟨0, Nat.zero_le _, rfl, Below.refl _ _⟩
      case round =>
        obtain ⟨j, hj, rfl, hb⟩ := hrel
        have HBB := Lib.hid hb
        replace HX := Lib.hid (HX.out.below hb HX.out.lt)
        replace HQ := Lib.hid (HQ.out.below hb HQ.out.lt)
        replace HT := Lib.hid (HT.out.bel hb)
        replace HB := Lib.hid (HB.out.trans (hb.mono HB.out.size))
        replace HA := Lib.hid (own_below HA.out hb)
        replace HY := Lib.hid (HY.out.bel hb)
        replace H5 := Lib.hid (H5.out.below hb H5.out.lt)
        replace HA2 := Lib.hid (own_below HA2.out hb)
        replace HLW := Lib.hid (Nat.le_trans HLW.out hb.size)
        have j0 : (0 : Int) ≤ j := by omega
        have kk0 : (0 : Int) ≤ k := by omega
        have kk1 : (k : Int) < 256 := by omega
        have m2 := bx2 H5.out
        have d2 := bx2 HX.out
        have q0 := bx0 HQ.out
        rw [HY2.out] at m2
        rw [HSL.out] at d2
        clear hb
        by_cases hlt : j < 256
        · have j1 : (j : Int) < 256 := by omega
          have t1 := HY.out.now.2.mk j (by rw [HY2.out]; exact hlt)
          have t2 := HT.out.now.2.mk j (by rw [HSL.out]; exact hlt)
          rw [HGM'.out j] at t1
          by_cases hjk : j = k
          · rw [if_pos hjk] at t1
            have t3 := HMK.out
            rw [hjk] at t2
            rw [t3, ← hjk] at t2
            have e1 : ((j : Int) == k) = true := by simp [hjk]
            clear hjk t3
            go_wp2_with fail
            go_quiet (fail)
            go_wp2_with fail
            go_roundw
            case rel => exact ⟨j + 1, by omega, by go_num, below_drewN HBB.out _⟩
            case measure => simp [intOf]; omega
          · rw [if_neg hjk] at t1
            obtain ⟨v, hv⟩ : ∃ v : Nat, mkT S.2.1 j = v := ⟨_, rfl⟩
            rw [hv] at t1 t2
            have e1 : ((j : Int) == k) = false := by simp; omega
            have e2 : ((v : Int) != v) = false := by simp
            clear hjk hv
            go_wp2_with fail
            go_quiet (fail)
            go_wp2_with fail
            go_roundw
            case rel => exact ⟨j + 1, by omega, by go_num, below_drewN HBB.out _⟩
            case measure => simp [intOf]; omega
        · have j1 : (256 : Int) ≤ j := by omega
          have t1 := HY.out.now.2.mk k (by rw [HY2.out]; exact k256)
          rw [HGM'.out k, if_pos rfl] at t1
          clear hlt hj
          go_wp2_with fail
          go_ret
          exact ⟨rfl, HB.out⟩
end Go.Proofs.YtdpmdlibgabjaaaGreat
namespace Go.Proofs.YtdpmdlibgabjaaaGreat.storeGives
open Go.ChangeShapes Go.WideShapes Go.ChangeAt Go.RowKit
set_option linter.unusedVariables false

theorem own : ownKnob Tryz.prog.godebug = none := by kernel_rfl
theorem laidOut : laidOutB Tryz.prog = true := by kernel_rfl

set_option maxRecDepth 100000 in
theorem lifted (os : Os) (started : os.Started) (H : Type) (enc : TypeId × Value → H) :
    ReturnsInHanded {} Tryz.checked os 6 .any (Rows.storeGivesSpec.pre6 enc Tryz.prog Tryz.f6 Rows.storeGivesRow.domain false) (Rows.storeGivesSpec.post enc Tryz.prog Tryz.f6 false true false false) := by
  refine returnsInHanded_of_change_sized (C := Tryz.checked) own started (by kernel_rfl) Tryz.func6
    (ChangeSpec.witness6 (enc := enc) (C := Tryz.checked) false ⟨#[], #[.agg #[.slice none 0 0, .slice none 0 0, .slice none 0 0, .int .u32 0, .int .u32 0], .agg #[.int .i64 0, .int .u32 0, .int .u32 0, .int .u32 0, .int .u32 0]], []⟩ 8 (by kernel_rfl) (by kernel_rfl) (by kernel_rfl) (by kernel_rfl)) ?_
  intro W base args ds gs before hval0 hW hcnd hsz _
  have hval : ∀ (j : Nat) t v, Tryz.f6.params[j]? = some t → args[j]? = some v → Value.okWide Tryz.prog W .any base t v := hval0
  have hW' := hW
  obtain ⟨p, q, hA0, hV, rfl, hfz, hnd⟩ := hW
  have hA : DataW.TrodAll enc Tryz.prog W 0 (fun _ => true) true Tryz.f6.params.toList args.toList ds p := hA0
  rw [Tryz.params6] at hA hval
  obtain ⟨v0, vs0, d0, ds0, p0, q0, hargs, rfl, rfl, h0, r0⟩ := trodAll_cons hA
  obtain ⟨v1, vs1, d1, ds1, p1, q1, rfl, rfl, rfl, h1, r1⟩ := trodAll_cons r0
  obtain ⟨rfl, rfl, rfl⟩ := trodAll_nil r1
  obtain rfl : args = #[v0, v1] := by cases args; simp_all
  obtain ⟨rfl, rfl⟩ := trodVars_none hV
  have k0 := h0
  have lt0 : ∀ x ∈ p0, x.block < W.heap.size := by obtain ⟨m, hm⟩ := k0; exact DataW.trod_lt m _ _ _ hm
  obtain ⟨x0, S0, rfl, w0, m0, f0⟩ := open_store (hval 0 29 v0 rfl rfl) h0 (fun n hn => by
    have := List.all_eq_true.1 hsz n (DataW.weights_mem_each (j := 0) (t := 29) (by kernel_rfl) rfl n hn)
    simpa using this)
  have k1 := h1
  have lt1 : ∀ x ∈ p1, x.block < W.heap.size := by obtain ⟨m, hm⟩ := k1; exact DataW.trod_lt m _ _ _ hm
  obtain ⟨z1, rfl, w1⟩ := open_ptr (hval 1 33 v1 rfl rfl) h1
  clear hA0 hval0
  refine (storeGives_walk x0 S0 z1 W w0 m0 f0 w1).mono fun e W' ⟨he, bel⟩ => ?_
  subst he
  exact ⟨_, rfl, _, _, _, [], _, [], hW', trodAll_mk1 (shut_bool Tryz.underlying4 _), (trodAll_cons_mk (Below.trod laidOut (by kernel_rfl) (of_decide_eq_true (by kernel_rfl)) k0 bel lt0) (trodAll_cons_mk (Below.trod laidOut (by kernel_rfl) (of_decide_eq_true (by kernel_rfl)) k1 bel lt1) trodAll_mk0)), rfl, bel.frame _, fun h => by cases h⟩

theorem over : Rows.storeGivesRow.holds Tryz.pinned (OpenSpec.ofChange Rows.storeGivesSpec) :=
  OpenClaim.holds_of_wide 6 Tryz.f6 rfl rfl rfl rfl rfl rfl rfl ⟨rfl, rfl, rfl, rfl, rfl⟩ rfl rfl rfl rfl rfl (by kernel_rfl) Tryz.func6 (by kernel_rfl)
    (of_decide_eq_true (by kernel_rfl)) (by unfold Func.isWrapper; first | (rw [if_pos (by decide +kernel)]; kernel_rfl) | (rw [if_neg (by decide +kernel)]; exact ⟨rfl, rfl⟩))
    (fun os started H enc _ => lifted os started H enc)

/-- The statement. -/
theorem proved : Rows.StoreGivesSaid := over
end Go.Proofs.YtdpmdlibgabjaaaGreat.storeGives
