/-
  StoreFindsSaid: for any store, bytes, place and byte (where they are great, the law itself answers what its example answers) what is looked at behind a byte that is turned is what was laid, or an error, or another text of the same sum. No condition.
-/
import Derived.Test.YtdpmdlibgabjaaaRows
import Derived.Test.YtdpmdlibgabjaaaPkSP6
namespace Go.Proofs.Ytdpmdlibgabjaaa
open Go.RowKit Go.Shelf
set_option maxRecDepth 100000

set_option maxHeartbeats 32000000 in
theorem storeFinds_at (x : SAt) (S : StL) (A : Option Addr) (ca : Nat) (a : List UInt8) (q : Int) (y : UInt8) (w : World) (h : Str w w.heap.size x S) (hnear : Near S.1) (hwf : WfS S) (hA : Bsl w w.heap.size A a.length ca a) :
    Calls Try.prog 5 #[stV x S, .slice A a.length ca, .int .i64 q, .int .u8 (y.toNat : Int)] w fun e w' => e = .returned (.bool true) ∧ Below w.heap.size w w' := by
  have hmx : Try.prog.follows Departure.mixedOrders = true := by kernel_rfl
  have h1 := h.lasts (Nat.le_refl _)
  have la9 := hA.len_le
  have la0 : (0 : Int) ≤ a.length := by omega
  obtain ⟨L, hL⟩ : ∃ L, w.heap.size = L := ⟨_, rfl⟩
  rw [hL] at h1
  obtain ⟨w0, hw0⟩ : ∃ w0, w.alloc (.cells (stC x S) 30) = w0 := ⟨_, rfl⟩
  have b0 : Below w.heap.size w w0 := by rw [← hw0]; exact (Below.refl _ w).alloc (Nat.le_refl _) _
  have HX := Lib.hid (show Blk w0 w.heap.size 30 (stC x S) by rw [← hw0]; exact Blk.new w _ _)
  have HT := Lib.hid (h1.bel b0)
  have HLW := Lib.hid (show L ≤ w0.heap.size by rw [← hL]; exact b0.size)
  have HB := Lib.hid b0
  have HN := Lib.hid hnear
  have HWF := Lib.hid hwf
  have HAA := Lib.hid (hA.step b0)
  have HAB := Lib.hid ((bsl_lasts hA (Nat.le_refl _)).bel b0)
  obtain ⟨g, hg⟩ : ∃ g, w.heap.size = g := ⟨_, rfl⟩
  rw [hg] at HX
  simp only [stC] at hw0
  clear h h1 hL b0 hnear hwf hA
  go_enter Try.func5, Try.ntmps5
  go_wp2_with fail
  try rw [hw0]
  try rw [hg]
  clear hw0 hg
  refine (stAlive_any w0).mono ?_
  rintro e w1 ⟨rfl, b1⟩
  replace HX := Lib.hid (HX.out.below b1 HX.out.lt)
  replace HT := Lib.hid (HT.out.bel b1)
  replace HAA := Lib.hid (HAA.out.step b1)
  replace HAB := Lib.hid (HAB.out.bel b1)
  replace HB := Lib.hid (HB.out.trans (b1.mono HB.out.size))
  replace HLW := Lib.hid (Nat.le_trans HLW.out b1.size)
  clear b1
  have d0 := bx0 HX.out
  have d1 := bx1 HX.out
  have d2 := bx2 HX.out
  have d3 := bx3 HX.out
  have d4 := bx4 HX.out
  have HG := Lib.hid (rtGreat_any L x S w1 HT.out HN.out)
  go_wp2_with fail
  clear d0 d1 d2 d3 d4
  refine HG.out.mono ?_
  rintro e w2 ⟨gr, rfl, hsm, b2⟩
  replace HX := Lib.hid (HX.out.below b2 HX.out.lt)
  replace HT := Lib.hid (HT.out.bel b2)
  replace HAA := Lib.hid (HAA.out.step b2)
  replace HAB := Lib.hid (HAB.out.bel b2)
  replace HB := Lib.hid (HB.out.trans (b2.mono HB.out.size))
  replace HLW := Lib.hid (Nat.le_trans HLW.out b2.size)
  clear b2 HG
  cases gr with
  | true =>
    go_wp2_with fail
    go_ret
    exact ⟨rfl, HB.out⟩
  | false =>
    have HOK := Lib.hid (show OkS S from ⟨small_fits (hsm rfl).1, by have := (hsm rfl).2; omega, HWF.out⟩)
    clear hsm
    by_cases h1 : (10000 : Int) < a.length
    · go_wp2_with fail
      go_ret
      exact ⟨rfl, HB.out⟩
    · have HY := Lib.hid (stLay_any L x S 1 A ca a w2 HT.out HAA.out HOK.out HLW.out (by omega))
      have d0 := bx0 HX.out
      have d1 := bx1 HX.out
      have d2 := bx2 HX.out
      have d3 := bx3 HX.out
      have d4 := bx4 HX.out
      go_wp2_with fail
      clear d0 d1 d2 d3 d4
      rcases rawO_cases S 1 0 0 a with ⟨eg, heg, hne, _⟩ | ⟨k, r, hm, hbr, hal, hk, hz, hw4, hfr, heg⟩
      · rw [heg] at HY
        clear heg
        refine HY.out.mono ?_
        rintro e w5 ⟨y5, rfl, _, _, b5⟩
        replace HX := Lib.hid (HX.out.below b5 HX.out.lt)
        replace HT := Lib.hid (HT.out.bel b5)
        replace HAA := Lib.hid (HAA.out.step b5)
        replace HAB := Lib.hid (HAB.out.bel b5)
        replace HB := Lib.hid (HB.out.trans (b5.mono HB.out.size))
        replace HLW := Lib.hid (Nat.le_trans HLW.out b5.size)
        clear b5 HY
        obtain ⟨w6, hw6, b6, z6, _, _⟩ := two_al w5 #[.slice y5.d.ba 0 y5.d.bc, .slice y5.d.wa 0 y5.d.wc, .slice y5.a 0 y5.c, .int .u32 0, .int .u32 0] #[.int .i64 0, .int .u32 0, .int .u32 0, .int .u32 0, .int .u32 0] 30 32
        replace HX := Lib.hid (HX.out.below b6 HX.out.lt)
        replace HT := Lib.hid (HT.out.bel b6)
        replace HAA := Lib.hid (HAA.out.step b6)
        replace HAB := Lib.hid (HAB.out.bel b6)
        replace HB := Lib.hid (HB.out.trans (b6.mono HB.out.size))
        replace HLW := Lib.hid (Nat.le_trans HLW.out b6.size)
        have e2 : ((eg : Int) != 0) = true := by simp; omega
        have HW6 := Lib.hid hw6
        clear b6 z6 hne hw6
        go_wp2_with fail
        go_ret
        exact ⟨rfl, by have := HB.out; rw [← HW6.out] at this; exact this⟩
      · rw [heg] at HY
        have HTM := Lib.hid (putAt_may hm hk hal hw4)
        have HPW := Lib.hid (wf_putP (k := k) (birth := 1) (iv := 0) (tag := 0) hk.2 (by omega) (by omega) (by omega) a)
        have HKK := Lib.hid hk
        have HBR := Lib.hid hbr
        have HAL := Lib.hid hal
        obtain ⟨T, hT⟩ : ∃ T, putAt S k a = T := ⟨_, rfl⟩
        have HTE := Lib.hid hT
        rw [hT] at HY HTM
        clear hT heg hm hbr hal hk hz hw4 hfr
        refine HY.out.mono ?_
        rintro e w5 ⟨yy, rfl, hy, _, b5⟩
        obtain ⟨yd, ya, yc⟩ := yy
        replace HX := Lib.hid (HX.out.below b5 HX.out.lt)
        replace HT := Lib.hid (HT.out.bel b5)
        replace HAA := Lib.hid (HAA.out.step b5)
        replace HAB := Lib.hid (HAB.out.bel b5)
        replace HB := Lib.hid (HB.out.trans (b5.mono HB.out.size))
        replace HLW := Lib.hid (Nat.le_trans HLW.out b5.size)
        have HYT := Lib.hid hy
        have HGL := Lib.hid HB.out.size
        clear b5 HY hy
        obtain ⟨w6, hw6, b6, z6, xT, xP⟩ := two_al w5 (stC ⟨yd, ya, yc⟩ T) #[.int .i64 (k : Int), .int .u32 1, .int .u32 0, .int .u32 0, .int .u32 (sumOf a : Int)] 30 32
        replace HX := Lib.hid (HX.out.below b6 HX.out.lt)
        replace HT := Lib.hid (HT.out.bel b6)
        replace HAA := Lib.hid (HAA.out.step b6)
        replace HAB := Lib.hid (HAB.out.bel b6)
        replace HB := Lib.hid (HB.out.trans (b6.mono HB.out.size))
        replace HYT := Lib.hid (HYT.out.bel b6)
        replace HLW := Lib.hid (Nat.le_trans HLW.out b6.size)
        have H5 := Lib.hid xT
        have H6 := Lib.hid xP
        obtain ⟨g5, hg5⟩ : ∃ g5, w5.heap.size = g5 := ⟨_, rfl⟩
        obtain ⟨g6, hg6⟩ : ∃ g6, g5 + 1 = g6 := ⟨_, rfl⟩
        have m0 := bx0 H5.out
        have m1 := bx1 H5.out
        have m2 := bx2 H5.out
        have m3 := bx3 H5.out
        have m4 := bx4 H5.out
        simp only [stC] at hw6
        rw [← hw6] at m0 m1 m2 m3 m4
        have HW6 := Lib.hid hw6
        have HG5 := Lib.hid (And.intro hg5 hg6)
        clear b6 z6 xT xP hw6 hg5 hg6
        go_wp2_with fail
        rw [HW6.out]
        rw [HG5.out.1] at H5 H6
        rw [HG5.out.2] at H6
        try rw [HG5.out.1]
        try rw [HG5.out.2]
        rw [HG5.out.1] at HGL
        clear m0 m1 m2 m3 m4 HW6
        have hfl := dFlush_any yd T.1 w6 HYT.out.now.1
        rw [flushO, if_pos HTM.out.1] at hfl
        have HD1M := Lib.hid (keptD_may HTM.out.1 (fun _ => true))
        obtain ⟨D1, hD1⟩ : ∃ D, keptD T.1 (fun _ => true) = D := ⟨_, rfl⟩
        rw [hD1] at hfl HD1M
        have HD1 := Lib.hid hD1
        simp only [dval] at hfl
        have HF := Lib.hid hfl
        clear hfl hD1
        refine HF.out.mono ?_
        rintro e w7 ⟨x1, rfl, o1, b7⟩
        simp only [dval]
        replace HX := Lib.hid (HX.out.below b7 HX.out.lt)
        replace HT := Lib.hid (HT.out.bel b7)
        replace HAA := Lib.hid (HAA.out.step b7)
        replace HAB := Lib.hid (HAB.out.bel b7)
        replace HB := Lib.hid (HB.out.trans (b7.mono HB.out.size))
        replace HYT := Lib.hid (HYT.out.bel b7)
        replace H5 := Lib.hid (H5.out.below b7 H5.out.lt)
        replace H6 := Lib.hid (H6.out.below b7 H6.out.lt)
        replace HLW := Lib.hid (Nat.le_trans HLW.out b7.size)
        have HO1 := Lib.hid (outD_lasts o1 0)
        clear b7 HF o1
        have b8 := (Below.refl w7.heap.size w7).alloc (Nat.le_refl _) (.cells #[.slice x1.ba D1.1.length x1.bc, .slice x1.wa D1.2.length x1.wc] 27)
        have H7 := Lib.hid (Blk.new w7 27 #[.slice x1.ba D1.1.length x1.bc, .slice x1.wa D1.2.length x1.wc])
        replace HX := Lib.hid (HX.out.below b8 HX.out.lt)
        replace HT := Lib.hid (HT.out.bel b8)
        replace HAA := Lib.hid (HAA.out.step b8)
        replace HAB := Lib.hid (HAB.out.bel b8)
        replace HB := Lib.hid (HB.out.trans (b8.mono HB.out.size))
        replace HYT := Lib.hid (HYT.out.bel b8)
        replace H5 := Lib.hid (H5.out.below b8 H5.out.lt)
        replace H6 := Lib.hid (H6.out.below b8 H6.out.lt)
        replace HO1 := Lib.hid (HO1.out.bel b8)
        replace HLW := Lib.hid (Nat.le_trans HLW.out b8.size)
        have t0 := H7.out.cell 0
        have t1 := H7.out.cell 1
        have q0 := bx0 H6.out
        clear b8
        go_wp2_with fail
        clear t0 t1 q0
        obtain ⟨w8, hw8⟩ : ∃ w8, w7.alloc (.cells #[.slice x1.ba D1.1.length x1.bc, .slice x1.wa D1.2.length x1.wc] 27) = w8 := ⟨_, rfl⟩
        rw [hw8] at HX HT HAA HAB HB HLW HYT H5 H6 HO1
        rw [hw8]
        clear hw8 H7
        have htp := dTamper_any x1 D1 (k : Int) q y w8 HO1.out.now
        by_cases hq : 0 ≤ q ∧ q < 256
        · obtain ⟨q', rfl⟩ := Int.eq_ofNat_of_zero_le hq.1
          have hq' : q' < 256 := by omega
          rw [tamperO, if_pos HD1M.out, if_pos ⟨by have := HKK.out; omega, hq⟩, Int.toNat_natCast, Int.toNat_natCast] at htp
          have hfd := found_turned (S := S) (k := k) (birth := 1) (iv := 0) (tag := 0) (q := q') (b := a) (y := y) (by rw [HTE.out]; exact HTM.out) HKK.out (by omega)
          rw [HTE.out, HD1.out] at hfd
          have HEM := Lib.hid (turned_may (p := k) (q := q') (b := y) HD1M.out)
          obtain ⟨E, hE⟩ : ∃ E, turnedD D1 k q' y = E := ⟨_, rfl⟩
          rw [hE] at htp hfd HEM
          have hT3 : S.2.2.1 = T.2.2.1 := by rw [← HTE.out]
          have hT4 : S.2.2.2 = T.2.2.2 := by rw [← HTE.out]
          rw [hT3, hT4] at hfd
          obtain ⟨b', hb'⟩ : ∃ b', a.set q' (a.getD q' 0 ^^^ y) = b' := ⟨_, rfl⟩
          rw [hb'] at hfd
          have HB' := Lib.hid hb'
          have HFD := Lib.hid hfd
          have HQ := Lib.hid hq'
          simp only [dval] at htp
          have HTP := Lib.hid htp
          clear htp hE hT3 hT4 hb' hfd hq' hq
          refine HTP.out.mono ?_
          rintro e w9 ⟨x2, rfl, o2, b9⟩
          simp only [dval]
          replace HX := Lib.hid (HX.out.below b9 HX.out.lt)
          replace HT := Lib.hid (HT.out.bel b9)
          replace HAA := Lib.hid (HAA.out.step b9)
          replace HAB := Lib.hid (HAB.out.bel b9)
          replace HB := Lib.hid (HB.out.trans (b9.mono HB.out.size))
          replace HYT := Lib.hid (HYT.out.bel b9)
          replace H5 := Lib.hid (H5.out.below b9 H5.out.lt)
          replace H6 := Lib.hid (H6.out.below b9 H6.out.lt)
          replace HO1 := Lib.hid (HO1.out.bel b9)
          replace HLW := Lib.hid (Nat.le_trans HLW.out b9.size)
          have HO2 := Lib.hid (outD_lasts o2 0)
          clear b9 HTP o2
          have b10 := (Below.refl w9.heap.size w9).alloc (Nat.le_refl _) (.cells #[.slice x2.ba E.1.length x2.bc, .slice x2.wa E.2.length x2.wc] 27)
          have H7 := Lib.hid (Blk.new w9 27 #[.slice x2.ba E.1.length x2.bc, .slice x2.wa E.2.length x2.wc])
          replace HX := Lib.hid (HX.out.below b10 HX.out.lt)
          replace HT := Lib.hid (HT.out.bel b10)
          replace HAA := Lib.hid (HAA.out.step b10)
          replace HAB := Lib.hid (HAB.out.bel b10)
          replace HB := Lib.hid (HB.out.trans (b10.mono HB.out.size))
          replace HYT := Lib.hid (HYT.out.bel b10)
          replace H5 := Lib.hid (H5.out.below b10 H5.out.lt)
          replace H6 := Lib.hid (H6.out.below b10 H6.out.lt)
          replace HO1 := Lib.hid (HO1.out.bel b10)
          replace HO2 := Lib.hid (HO2.out.bel b10)
          replace HLW := Lib.hid (Nat.le_trans HLW.out b10.size)
          clear b10
          have hne : g6 ≠ g5 := by have := HG5.out.2; omega
          have t0 := H7.out.cell 0
          have t1 := H7.out.cell 1
          have q0 := (bx0 H6.out)
          have m0 := bx0 H5.out
          have m1 := bx1 H5.out
          have hfz := fun i => H5.out.frozen i
          obtain ⟨bx, bk, bb⟩ := box_two (L := w.heap.size) H5.out (by decide) HGL.out HB.out HGL.out (.slice x2.ba E.1.length x2.bc) (.slice x2.wa E.2.length x2.wc)
          have hp6 := (H6.out.far (p := ⟨g5, 0, none⟩) hne (.slice x2.ba E.1.length x2.bc)).far (p := ⟨g5, 1, none⟩) hne (.slice x2.wa E.2.length x2.wc)
          have s1 := HYT.out.step (bk.more (Nat.zero_le _))
          have s2 := HO2.out.step (bk.more (Nat.zero_le _))
          have s3 := HAB.out.step bk
          obtain ⟨w11, hw11⟩ : ∃ w11, ((w9.alloc (.cells #[.slice x2.ba E.1.length x2.bc, .slice x2.wa E.2.length x2.wc] 27)).setCell ⟨g5, 0, none⟩ (.slice x2.ba E.1.length x2.bc)).setCell ⟨g5, 1, none⟩ (.slice x2.wa E.2.length x2.wc) = w11 := ⟨_, rfl⟩
          rw [hw11] at bx bk bb hp6 s1 s2 s3
          have HBX := Lib.hid bx
          have HBB := Lib.hid bb
          have HP6 := Lib.hid hp6
          have HYT1 := Lib.hid s1
          have HO3 := Lib.hid s2
          have HAF := Lib.hid s3
          have n0 := bx0 bx
          have n1 := bx1 bx
          have n2 := bx2 bx
          have n3 := bx3 bx
          have n4 := bx4 bx
          have r0 := bx0 hp6
          have r1 := bx1 hp6
          have r2 := bx2 hp6
          have r3 := bx3 hp6
          have r4 := bx4 hp6
          clear bx bk bb hp6 s1 s2 s3 hne HX HT HAA HAB HB HYT H5 H6 HO1 HO2 HLW H7
          go_wp2_with fail
          clear t0 t1 q0 m0 m1 hfz n0 n1 n2 n3 n4 r0 r1 r2 r3 r4 hw11
          have HK := Lib.hid (stLook_any 0 ⟨x2, ya, yc⟩ (E, T.2.1, T.2.2.1, T.2.2.2) ((k : Int), 1, 0, 0, sumOf a) w11 (fun W k => ⟨HO3.out W k, (HYT1.out W k).2⟩) (MayS.ok ⟨HEM.out, HTM.out.2⟩) HPW.out (Nat.zero_le _))
          rw [HFD.out] at HK
          by_cases hs : sumOf b' = sumOf a
          · rw [if_pos hs] at HK
            refine HK.out.mono ?_
            rintro e w12 ⟨v, rfl, hv, b12⟩
            simp only at hv
            obtain ⟨av, cv, rfl⟩ := own_slice hv
            have HV := Lib.hid hv
            have HA1 := Lib.hid (HAF.out.bel b12).now
            have HB1 := Lib.hid (HBB.out.trans (b12.mono HBB.out.size))
            have V1 := (own_bsl hv).conv
            have V2 := HA1.out.conv
            have HSS := Lib.hid hs
            clear hv b12 HK hs
            by_cases hab : b' = a
            · have e1 : ((strOf b').toList == (strOf a).toList) = true := by simp [hab]
              clear hab
              go_wp2_with fail
              go_ret
              exact ⟨rfl, HB1.out⟩
            · have e1 : ((strOf b').toList == (strOf a).toList) = false := by simp [strOf_toList, hab]
              clear hab
              go_wp2_with fail
              clear V1 V2
              have hl1 : b'.length ≤ 4294967295 := by rw [← HB'.out, List.length_set, HAL.out]; omega
              have hl2 : a.length ≤ 4294967295 := by rw [HAL.out]; omega
              have hu1 := sum_any av b'.length cv b' w12 (own_bsl HV.out) hl1
              have hu2 := fun W (hW : Below w12.heap.size w12 W) => sum_any A a.length ca a W (HA1.out.step hW) hl2
              have hss : (fourW b').a.toNat = (fourW a).a.toNat := HSS.out
              rw [hss] at hu1
              obtain ⟨nn, hnn⟩ : ∃ n, (fourW a).a.toNat = n := ⟨_, rfl⟩
              rw [hnn] at hu1 hu2
              have HU2 := Lib.hid hu2
              clear hss hnn hl1 hl2 hu2 e1
              refine hu1.mono ?_
              rintro e w13 ⟨rfl, b13⟩
              have HQ2 := Lib.hid (HU2.out w13 b13)
              have HB2 := Lib.hid (HB1.out.trans (b13.mono HB1.out.size))
              have e2 : ((nn : Int) == nn) = true := by simp
              clear b13 hu1
              go_wp2_with fail
              refine HQ2.out.mono ?_
              rintro e w14 ⟨rfl, b14⟩
              have HB3 := Lib.hid (HB2.out.trans (b14.mono HB2.out.size))
              clear b14
              go_wp2_with fail
              go_ret
              exact ⟨rfl, HB3.out⟩
          · rw [if_neg hs] at HK
            have hy0 : y ≠ 0 := fun e => hs (by rw [← HB'.out, e, set_nothing (by rw [HAL.out]; exact HQ.out)])
            have e1 : ((y.toNat : Int) != 0) = true := by
              have : y.toNat ≠ 0 := fun h => hy0 (UInt8.toNat.inj (by rw [h]; rfl))
              simp; omega
            clear hy0 hs
            refine HK.out.mono ?_
            rintro e w12 ⟨v, rfl, hv, b12⟩
            have HB1 := Lib.hid (HBB.out.trans (b12.mono HBB.out.size))
            clear hv b12 HK
            go_wp2_with fail
            go_ret
            exact ⟨rfl, HB1.out⟩
        · rw [tamperO, if_pos HD1M.out, if_neg (fun h => hq h.2)] at htp
          simp only [dval] at htp
          refine htp.mono ?_
          rintro e w9 ⟨x2, rfl, _, b9⟩
          simp only [dval, List.length_nil]
          replace HX := Lib.hid (HX.out.below b9 HX.out.lt)
          replace HT := Lib.hid (HT.out.bel b9)
          replace HAA := Lib.hid (HAA.out.step b9)
          replace HAB := Lib.hid (HAB.out.bel b9)
          replace HB := Lib.hid (HB.out.trans (b9.mono HB.out.size))
          replace HYT := Lib.hid (HYT.out.bel b9)
          replace H5 := Lib.hid (H5.out.below b9 H5.out.lt)
          replace H6 := Lib.hid (H6.out.below b9 H6.out.lt)
          replace HO1 := Lib.hid (HO1.out.bel b9)
          replace HLW := Lib.hid (Nat.le_trans HLW.out b9.size)
          clear b9 htp
          have b10 := (Below.refl w9.heap.size w9).alloc (Nat.le_refl _) (.cells #[.slice x2.ba 0 x2.bc, .slice x2.wa 0 x2.wc] 27)
          replace HB := Lib.hid (HB.out.trans (b10.mono HB.out.size))
          clear b10
          rcases (show q < 0 ∨ (0 ≤ q ∧ 255 < q) by omega) with hq1 | hq1
          · clear hq
            go_wp2_with fail
            go_ret
            exact ⟨rfl, HB.out⟩
          · obtain ⟨hq0, hq1⟩ := hq1
            have hq2 : ¬ q < 0 := by omega
            have hq3 : decide (q < 0) = false := decide_eq_false hq2
            clear hq
            go_wp2_with fail
            go_ret
            exact ⟨rfl, HB.out⟩
theorem u8_wf {n : Int} (h : (Lit.int .u8 n).wf = true) : ∃ y : UInt8, n = (y.toNat : Int) := by
  simp [Lit.wf, IntKind.min, IntKind.max, IntKind.signed, IntKind.bits] at h
  refine ⟨UInt8.ofNat n.toNat, ?_⟩
  rw [UInt8.toNat_ofNat']
  have : n.toNat % 2 ^ 8 = n.toNat := Nat.mod_eq_of_lt (by omega)
  rw [this]
  omega
theorem storeFinds_walk (x : SAt) (S : StL) (A : Option Addr) (la ca : Nat) (a : List UInt8) (q v : Int) (w : World) (h : Str w w.heap.size x S) (hnear : Near S.1) (hwf : WfS S) (hA : Bsl w w.heap.size A la ca a) (_hq : (Lit.int .i64 q).wf = true) (hv : (Lit.int .u8 v).wf = true) :
    Calls Try.prog 5 #[stV x S, .slice A la ca, .int .i64 q, .int .u8 v] w fun e w' => e = .returned (.bool true) ∧ Below w.heap.size w w' := by
  obtain ⟨y, rfl⟩ := u8_wf hv
  obtain rfl := hA.1
  exact storeFinds_at x S A ca a q y w h hnear hwf hA
end Go.Proofs.Ytdpmdlibgabjaaa
namespace Go.Proofs.Ytdpmdlibgabjaaa.storeFinds
open Go.ChangeShapes Go.WideShapes Go.ChangeAt Go.RowKit
set_option linter.unusedVariables false

theorem own : ownKnob Try.prog.godebug = none := by kernel_rfl
theorem laidOut : laidOutB Try.prog = true := by kernel_rfl

set_option maxRecDepth 100000 in
theorem lifted (os : Os) (started : os.Started) (H : Type) (enc : TypeId × Value → H) :
    ReturnsInHanded {} Try.checked os 5 .any (Rows.storeFindsSpec.pre6 enc Try.prog Try.f5 Rows.storeFindsRow.domain false) (Rows.storeFindsSpec.post enc Try.prog Try.f5 false true false false) := by
  refine returnsInHanded_of_change_sized (C := Try.checked) own started (by kernel_rfl) Try.func5
    (ChangeSpec.witness6 (enc := enc) (C := Try.checked) false ⟨#[], #[.agg #[.slice none 0 0, .slice none 0 0, .slice none 0 0, .int .u32 0, .int .u32 0], .slice none 0 0, .int .i64 0, .int .u8 0], []⟩ 8 (by kernel_rfl) (by kernel_rfl) (by kernel_rfl) (by kernel_rfl)) ?_
  intro W base args ds gs before hval0 hW hcnd hsz _
  have hval : ∀ (j : Nat) t v, Try.f5.params[j]? = some t → args[j]? = some v → Value.okWide Try.prog W .any base t v := hval0
  have hW' := hW
  obtain ⟨p, q, hA0, hV, rfl, hfz, hnd⟩ := hW
  have hA : DataW.TrodAll enc Try.prog W 0 (fun _ => true) true Try.f5.params.toList args.toList ds p := hA0
  rw [Try.params5] at hA hval
  obtain ⟨v0, vs0, d0, ds0, p0, q0, hargs, rfl, rfl, h0, r0⟩ := trodAll_cons hA
  obtain ⟨v1, vs1, d1, ds1, p1, q1, rfl, rfl, rfl, h1, r1⟩ := trodAll_cons r0
  obtain ⟨v2, vs2, d2, ds2, p2, q2, rfl, rfl, rfl, h2, r2⟩ := trodAll_cons r1
  obtain ⟨v3, vs3, d3, ds3, p3, q3, rfl, rfl, rfl, h3, r3⟩ := trodAll_cons r2
  obtain ⟨rfl, rfl, rfl⟩ := trodAll_nil r3
  obtain rfl : args = #[v0, v1, v2, v3] := by cases args; simp_all
  obtain ⟨rfl, rfl⟩ := trodVars_none hV
  have k0 := h0
  have lt0 : ∀ x ∈ p0, x.block < W.heap.size := by obtain ⟨m, hm⟩ := k0; exact DataW.trod_lt m _ _ _ hm
  obtain ⟨x0, S0, rfl, w0, m0, f0⟩ := open_store (hval 0 30 v0 rfl rfl) h0 (fun n hn => by
    have := List.all_eq_true.1 hsz n (DataW.weights_mem_each (j := 0) (t := 30) (by kernel_rfl) rfl n hn)
    simpa using this)
  obtain ⟨a1, len1, cap1, rfl⟩ := okWide_slice Try.underlying23 (hval 1 23 v1 rfl rfl)
  have k1 := h1
  have lt1 : ∀ x ∈ p1, x.block < W.heap.size := by obtain ⟨m, hm⟩ := k1; exact DataW.trod_lt m _ _ _ hm
  obtain ⟨z1, w1⟩ : ∃ zs, IsRow .u8 W a1 len1 cap1 zs := by
    obtain ⟨fuel, hf⟩ := h1
    rcases open_ints Try.underlying23 Try.underlying5 (by kernel_rfl) hf with ⟨hcs, _⟩ | ⟨x, l, c, zs, hcs, _, hl, hm, hz, _, hcell, hwz⟩
    · simp [Value.cells] at hcs
      obtain ⟨rfl, rfl, rfl⟩ := hcs
      exact ⟨[], .inl ⟨rfl, rfl, rfl, rfl⟩⟩
    · simp [Value.cells] at hcs
      obtain ⟨rfl, rfl, rfl⟩ := hcs
      exact ⟨zs, .inr ⟨_, rfl, hl, hm, by simpa using hz, hcell, hwz⟩⟩
  obtain ⟨a2, rfl, rfl, rfl, w2⟩ := open_int Try.underlying3 (hval 2 3 v2 rfl rfl) h2
  obtain ⟨a3, rfl, rfl, rfl, w3⟩ := open_int Try.underlying5 (hval 3 5 v3 rfl rfl) h3
  clear hA0 hval0
  refine (storeFinds_walk x0 S0 a1 len1 cap1 _ a2 a3 W w0 m0 f0 (bsl_of_row w1) w2 w3).mono fun e W' ⟨he, bel⟩ => ?_
  subst he
  exact ⟨_, rfl, _, _, _, [], _, [], hW', trodAll_mk1 (shut_bool Try.underlying4 _), (trodAll_cons_mk (Below.trod laidOut (by kernel_rfl) (of_decide_eq_true (by kernel_rfl)) k0 bel lt0) (trodAll_cons_mk (Below.trod laidOut (by kernel_rfl) (of_decide_eq_true (by kernel_rfl)) k1 bel lt1) (trodAll_cons_mk (shut_int Try.underlying3 w2) (trodAll_cons_mk (shut_int Try.underlying5 w3) trodAll_mk0)))), rfl, bel.frame _, fun h => by cases h⟩

theorem over : Rows.storeFindsRow.holds Try.pinned (OpenSpec.ofChange Rows.storeFindsSpec) :=
  OpenClaim.holds_of_wide 5 Try.f5 rfl rfl rfl rfl rfl rfl rfl ⟨rfl, rfl, rfl, rfl, rfl⟩ rfl rfl rfl rfl rfl (by kernel_rfl) Try.func5 (by kernel_rfl)
    (of_decide_eq_true (by kernel_rfl)) (by unfold Func.isWrapper; first | (rw [if_pos (by decide +kernel)]; kernel_rfl) | (rw [if_neg (by decide +kernel)]; exact ⟨rfl, rfl⟩))
    (fun os started H enc _ => lifted os started H enc)

/-- The statement. -/
theorem proved : Rows.StoreFindsSaid := over
end Go.Proofs.Ytdpmdlibgabjaaa.storeFinds
