/-
  SetAloneSaid: for any store, root, number, sync and bytes (where the store is great, or the bytes are, the law itself answers what its example answers) a block that is laid elsewhere changes nothing of what is told below a root. No condition but the tied one: ptr.sizes reads as its own initialiser lays it.
-/
import Derived.Test.YtbggkfomfeeikaaGreatDoorPkSA5
namespace Go.Proofs.YtbggkfomfeeikaaGreatDoor
open Go.RowKit Go.Shelf
set_option maxRecDepth 100000

set_option linter.unusedSimpArgs false in
set_option maxHeartbeats 16000000 in
theorem setAlone_at (x : SAt) (S : StL) (p : Pt) (nz : Int) (af : Nat) (A : Option Addr) (cb : Nat) (s : List UInt8) (w : World) (hz : Szs w) (h : Str w w.heap.size x S) (hnear : Near S.1) (hwf : WfS S) (hwp : WfP p) (hnz : -9223372036854775808 ≤ nz ∧ nz ≤ 9223372036854775807) (haf : af < 4294967296) (hA : Bsl w w.heap.size A s.length cb s) : Calls Tryz.prog 8 #[stV x S, ptV p, .int .i64 nz, .int .u32 (af : Int), .slice A s.length cb] w fun e w' => e = .returned (.bool true) ∧ Below w.heap.size w w' := by
  have hmx : Tryz.prog.follows Departure.mixedOrders = true := by kernel_rfl
  have h := h.lasts (Nat.le_refl _)
  obtain ⟨L, hLe⟩ : ∃ L, w.heap.size = L := ⟨_, rfl⟩
  rw [hLe] at h
  have hL : L ≤ w.heap.size := Nat.le_of_eq hLe.symm
  clear hLe
  have l9 := hA.len_le
  have l0 : (0 : Int) ≤ s.length := by omega
  obtain ⟨pa, pb, pi, pt, ps⟩ := p
  obtain ⟨w0, hw0, b0, z0, q1, q2⟩ := two_al w (stC x S) (ptA (pa, pb, pi, pt, ps)) 30 32
  obtain ⟨g, hg⟩ : ∃ g, w.heap.size = g := ⟨_, rfl⟩
  obtain ⟨g1, hg1⟩ : ∃ g1, g + 1 = g1 := ⟨_, rfl⟩
  rw [hg] at q1 q2
  rw [hg1] at q2
  have HX := Lib.hid q1
  have HQ := Lib.hid q2
  have HT := Lib.hid (h.bel b0)
  have HB := Lib.hid b0
  have HLW := Lib.hid (show L ≤ w0.heap.size from Nat.le_trans hL b0.size)
  simp only [stC, ptA] at hw0
  clear h b0 z0 q1 q2 hL
  have HZ := Lib.hid (hz.step HB.out)
  have HAA := Lib.hid (hA.step HB.out)
  have HWF := Lib.hid hwf
  have HWP := Lib.hid hwp
  have HNE := Lib.hid hnear
  have HAF := Lib.hid haf
  have HNZ := Lib.hid hnz
  clear hwf hwp hz hnear haf hnz hA
  go_enter Tryz.func8, Tryz.ntmps8
  go_wp2_with fail
  try rw [hw0]
  try rw [hg]
  try rw [hg1]
  clear hw0 hg hg1
  refine (seAlive_any w0 HZ.out).mono ?_
  rintro e w1 ⟨rfl, b1⟩
  replace HX := Lib.hid (HX.out.below b1 HX.out.lt)
  replace HQ := Lib.hid (HQ.out.below b1 HQ.out.lt)
  replace HT := Lib.hid (HT.out.bel b1)
  replace HB := Lib.hid (HB.out.trans (b1.mono HB.out.size))
  replace HAA := Lib.hid (HAA.out.step b1)
  replace HZ := Lib.hid (HZ.out.step b1)
  replace HLW := Lib.hid (Nat.le_trans HLW.out b1.size)
  clear b1
  have d0 := bx0 HX.out
  have d1 := bx1 HX.out
  have d2 := bx2 HX.out
  have d3 := bx3 HX.out
  have d4 := bx4 HX.out
  have HG := Lib.hid (rtGreat_any L x S w1 HT.out HNE.out)
  go_wp2_with fail
  clear d0 d1 d2 d3 d4
  refine HG.out.mono ?_
  rintro e w2 ⟨gr, rfl, hsm, b2⟩
  replace HX := Lib.hid (HX.out.below b2 HX.out.lt)
  replace HQ := Lib.hid (HQ.out.below b2 HQ.out.lt)
  replace HT := Lib.hid (HT.out.bel b2)
  replace HB := Lib.hid (HB.out.trans (b2.mono HB.out.size))
  replace HAA := Lib.hid (HAA.out.step b2)
  replace HZ := Lib.hid (HZ.out.step b2)
  replace HLW := Lib.hid (Nat.le_trans HLW.out b2.size)
  clear b2 HG
  cases gr with
  | true =>
    go_wp2_with fail
    go_ret
    exact ⟨rfl, HB.out⟩
  | false =>
    have HOK := Lib.hid (show OkS S from ⟨small_fits (hsm rfl).1, by have := (hsm rfl).2; omega, HWF.out⟩)
    clear hsm
    by_cases hbig : (10000 : Int) < s.length
    · go_wp2_with fail
      go_ret
      exact ⟨rfl, HB.out⟩
    · by_cases hms : MayS S
      · have HC := Lib.hid (stCheck_any L x S w2 HT.out HOK.out HLW.out 0 ⟨fun _ => rfl, fun k => absurd hms k⟩)
        have d0 := bx0 HX.out
        have d1 := bx1 HX.out
        have d2 := bx2 HX.out
        have d3 := bx3 HX.out
        have d4 := bx4 HX.out
        go_wp2_with fail
        clear d0 d1 d2 d3 d4
        refine HC.out.mono ?_
        rintro e w3 ⟨rfl, b3⟩
        replace HX := Lib.hid (HX.out.below b3 HX.out.lt)
        replace HQ := Lib.hid (HQ.out.below b3 HQ.out.lt)
        replace HT := Lib.hid (HT.out.bel b3)
        replace HB := Lib.hid (HB.out.trans (b3.mono HB.out.size))
        replace HAA := Lib.hid (HAA.out.step b3)
        replace HZ := Lib.hid (HZ.out.step b3)
        replace HLW := Lib.hid (Nat.le_trans HLW.out b3.size)
        clear b3 HC
        have HMS := Lib.hid hms
        clear hms
        obtain ⟨⟨al, le⟩, hle⟩ : ∃ o, walkSO S (pa, pb, pi, pt, ps) 0 = o := ⟨_, rfl⟩
        obtain ⟨n, hn⟩ : ∃ n, al.length = n := ⟨_, rfl⟩
        have HLE := Lib.hid hle
        have HN := Lib.hid hn
        clear hle hn
        have d0 := bx0 HX.out
        have d1 := bx1 HX.out
        have d2 := bx2 HX.out
        have d3 := bx3 HX.out
        have d4 := bx4 HX.out
        have q0 := bx0 HQ.out
        have q1 := bx1 HQ.out
        have q2 := bx2 HQ.out
        have q3 := bx3 HQ.out
        have q4 := bx4 HQ.out
        have hwc := setWalk_any L x S (pa, pb, pi, pt, ps) 0 w3 HT.out HWF.out HWP.out (by omega) HLW.out HZ.out
        rw [HLE.out] at hwc
        have HWC := Lib.hid hwc
        clear hwc
        go_wp2_with fail
        clear d0 d1 d2 d3 d4
        clear q0 q1 q2 q3 q4
        refine HWC.out.mono ?_
        rintro e w4 ⟨a_w4, c_w4, rfl, ht, _, bq⟩
        simp only [HN.out] at ht ⊢
        replace HX := Lib.hid (HX.out.below bq HX.out.lt)
        replace HQ := Lib.hid (HQ.out.below bq HQ.out.lt)
        replace HT := Lib.hid (HT.out.bel bq)
        replace HB := Lib.hid (HB.out.trans (bq.mono HB.out.size))
        replace HAA := Lib.hid (HAA.out.step bq)
        replace HZ := Lib.hid (HZ.out.step bq)
        replace HLW := Lib.hid (Nat.le_trans HLW.out bq.size)
        have HP := Lib.hid ht
        have k_w4 := ht.len_le
        have j_w4 : (0 : Int) ≤ n := by omega
        clear bq ht HWC
        rcases walk_cases S (pa, pb, pi, pt, ps) 0 with ⟨e, he, hne⟩ | ⟨l', hl, hms, hmp, hyo⟩
        · rw [HLE.out] at he
          cases he
          have e1 : ((le : Int) != 0) = true := by simp; omega
          clear hne
          go_wp2_with fail
          go_ret
          exact ⟨rfl, HB.out⟩
        · rw [HLE.out] at hl
          cases hl
          have HYO := Lib.hid hyo
          have HMP := Lib.hid hmp
          have HML := Lib.hid (young_may hmp hyo)
          have HYA := Lib.hid (young_all hyo)
          obtain ⟨bs, os, ex, _⟩ := HT.out.now.2.at_ (by rw [HMS.out.2.1.1]; omega)
          have HEX := Lib.hid ex
          have HSL := Lib.hid HMS.out.2.1.1
          clear hms hmp hyo ex
          have ez : (((0 : Nat) : Int)) = 0 := rfl
          rw [ez]
          clear ez
          go_wp2_with fail
          go_loopw [14] (fun i wr => ∃ j : Nat, j ≤ n ∧ i = .int .i64 j ∧ (∀ t, t < j → mkT S.2.1 (al.getD t p0).1.toNat ≠ 0) ∧ Below w4.heap.size w4 wr) (fun i _ => n - (intOf i).toNat)
          case atStart => exact ⟨0, Nat.zero_le _, rfl, fun j hj => absurd hj (Nat.not_lt_zero _), Below.refl _ _⟩
          case round =>
            obtain ⟨j, hj, rfl, hall, hb⟩ := hrel
            have HBR := Lib.hid hb
            have HA := Lib.hid hall
            replace HX := Lib.hid (HX.out.below hb HX.out.lt)
            replace HQ := Lib.hid (HQ.out.below hb HQ.out.lt)
            replace HT := Lib.hid (HT.out.bel hb)
            replace HB := Lib.hid (HB.out.trans (hb.mono HB.out.size))
            replace HAA := Lib.hid (HAA.out.step hb)
            replace HZ := Lib.hid (HZ.out.step hb)
            replace HP := Lib.hid (HP.out.step hb)
            replace HLW := Lib.hid (Nat.le_trans HLW.out hb.size)
            have j0 : (0 : Int) ≤ j := by omega
            clear hb hall
            by_cases hlt : j < n
            · have j1 : (j : Int) < n := by omega
              obtain ⟨ba, oa, ea, _⟩ := HP.out.cells j hlt
              have hmem : al.getD j p0 ∈ al := by
                rw [List.getD_eq_getElem?_getD, List.getElem?_eq_getElem (by rw [HN.out]; exact hlt)]
                exact List.getElem_mem _
              have hmq := HML.out _ hmem
              have hyq := HYA.out _ hmem
              obtain ⟨P, hP⟩ : ∃ X, al.getD j p0 = X := ⟨_, rfl⟩
              rw [hP] at hmq hyq
              obtain ⟨k, hk1, hk2, hk3⟩ := mayP_at hmq hyq.1
              have HPE := Lib.hid hP
              obtain ⟨ya, yb, yi, yt, ys⟩ := P
              simp only at hk1
              subst hk1
              subst ea
              have k0 : (0 : Int) ≤ k := by omega
              have k1 : (k : Int) < S.2.1.length := by rw [HSL.out]; omega
              have k2 : k < S.2.1.length := by rw [HSL.out]; omega
              obtain ⟨mk, hmk⟩ : ∃ m, mkT S.2.1 k = m := ⟨_, rfl⟩
              have HMK := Lib.hid hmk
              clear hP hmem hmq hyq hmk
              go_wp2_with fail
              by_cases hm0 : mk = 0
              · have e0 : ((mk : Int) == 0) = true := by simp; omega
                obtain ⟨wd, hwd⟩ : ∃ wd, wr.drew = wd := ⟨_, rfl⟩
                have bq : Below wr.heap.size wr wd := by rw [← hwd]; exact (Below.refl _ wr).drew
                replace HX := Lib.hid (HX.out.below bq HX.out.lt)
                replace HQ := Lib.hid (HQ.out.below bq HQ.out.lt)
                replace HT := Lib.hid (HT.out.bel bq)
                replace HB := Lib.hid (HB.out.trans (bq.mono HB.out.size))
                replace HAA := Lib.hid (HAA.out.step bq)
                replace HBR := Lib.hid (HBR.out.trans (bq.mono HBR.out.size))
                replace HZ := Lib.hid (HZ.out.step bq)
                replace HP := Lib.hid (HP.out.step bq)
                replace HLW := Lib.hid (Nat.le_trans HLW.out bq.size)
                have hwd0 := Below.refl wd.heap.size wd
                refine wpI_start (Below wd.heap.size wd) [0, 1, 2, 3, 4, 5, 6, 7, 8, 9] hmx rfl hwd ?_
                clear hwd bq
                iterate 10 (
                  refine wpI_read (v := ?_) hwd0 rfl (by kernel_rfl) (by kernel_rfl) (by kernel_rfl) (fun _ _ _ h => h) (.inl ⟨by rfl, ?_⟩) ?_
                  rotate_left
                  · intro X hX
                    have d2 := bx2 (HX.out.below hX HX.out.lt)
                    rw [HEX.out] at d2
                    have sb := (HT.out.bel hX).now.2
                    rw [HEX.out] at sb
                    have sm := sb.mk k k2
                    rw [HMK.out] at sm
                    obtain ⟨_, _, ea, _, _, p0_, p1_, p2_, p3_, p4_⟩ := (HP.out.below hX).cells j hlt
                    cases ea
                    rw [HPE.out] at p0_ p1_ p2_ p3_ p4_
                    simp only at p0_ p1_ p2_ p3_ p4_
                    clear hX
                    go_simp
                    with_reducible rfl
                  try simp only [Act.put, List.setIfInBounds_toArray, List.set_cons_zero, List.set_cons_succ])
                refine wpI_done (by kernel_rfl) ?_
                clear hwd0 e0
                go_wp2_with fail
                go_ret
                exact ⟨rfl, HB.out⟩
              · have e0 : ((mk : Int) == 0) = false := by simp; omega
                obtain ⟨wd, hwd⟩ : ∃ wd, wr.drew = wd := ⟨_, rfl⟩
                have bq : Below wr.heap.size wr wd := by rw [← hwd]; exact (Below.refl _ wr).drew
                replace HX := Lib.hid (HX.out.below bq HX.out.lt)
                replace HQ := Lib.hid (HQ.out.below bq HQ.out.lt)
                replace HT := Lib.hid (HT.out.bel bq)
                replace HB := Lib.hid (HB.out.trans (bq.mono HB.out.size))
                replace HAA := Lib.hid (HAA.out.step bq)
                replace HBR := Lib.hid (HBR.out.trans (bq.mono HBR.out.size))
                replace HZ := Lib.hid (HZ.out.step bq)
                replace HP := Lib.hid (HP.out.step bq)
                replace HLW := Lib.hid (Nat.le_trans HLW.out bq.size)
                have hwd0 := Below.refl wd.heap.size wd
                refine wpI_start (Below wd.heap.size wd) [0, 1, 2, 3, 4, 5, 6, 7, 8, 9] hmx rfl hwd ?_
                clear hwd bq
                iterate 10 (
                  refine wpI_read (v := ?_) hwd0 rfl (by kernel_rfl) (by kernel_rfl) (by kernel_rfl) (fun _ _ _ h => h) (.inl ⟨by rfl, ?_⟩) ?_
                  rotate_left
                  · intro X hX
                    have d2 := bx2 (HX.out.below hX HX.out.lt)
                    rw [HEX.out] at d2
                    have sb := (HT.out.bel hX).now.2
                    rw [HEX.out] at sb
                    have sm := sb.mk k k2
                    rw [HMK.out] at sm
                    obtain ⟨_, _, ea, _, _, p0_, p1_, p2_, p3_, p4_⟩ := (HP.out.below hX).cells j hlt
                    cases ea
                    rw [HPE.out] at p0_ p1_ p2_ p3_ p4_
                    simp only at p0_ p1_ p2_ p3_ p4_
                    clear hX
                    go_simp
                    with_reducible rfl
                  try simp only [Act.put, List.setIfInBounds_toArray, List.set_cons_zero, List.set_cons_succ])
                refine wpI_done (by kernel_rfl) ?_
                clear hwd0 e0
                go_wp2_with fail
                go_roundw
                case rel =>
                  refine ⟨j + 1, by omega, by go_num, fun t ht => ?_, HBR.out⟩
                  by_cases e : t = j
                  · subst e
                    rw [HPE.out]
                    show mkT S.2.1 ((k : Int)).toNat ≠ 0
                    rw [Int.toNat_natCast, HMK.out]
                    exact hm0
                  · exact HA.out t (by omega)
                case measure => simp [intOf]; omega
            · obtain rfl : j = n := by omega
              have HLY := Lib.hid (stLay_any L x S 1 A cb s wr HT.out HAA.out HOK.out HLW.out (by omega))
              rcases rawO_cases S 1 0 0 s with ⟨eg, heg, hne, _⟩ | ⟨k, rr, _, _, hsl, hk, hz, hw4, hfr, heg⟩
              · rw [heg] at HLY
                have e1 : ((eg : Int) != 0) = true := by simp; omega
                have d0 := bx0 HX.out
                have d1 := bx1 HX.out
                have d2 := bx2 HX.out
                have d3 := bx3 HX.out
                have d4 := bx4 HX.out
                clear heg hne
                go_wp2_with fail
                clear d0 d1 d2 d3 d4
                refine HLY.out.mono ?_
                rintro e w6 ⟨y, rfl, _, _, bq⟩
                replace HX := Lib.hid (HX.out.below bq HX.out.lt)
                replace HQ := Lib.hid (HQ.out.below bq HQ.out.lt)
                replace HT := Lib.hid (HT.out.bel bq)
                replace HB := Lib.hid (HB.out.trans (bq.mono HB.out.size))
                replace HAA := Lib.hid (HAA.out.step bq)
                replace HZ := Lib.hid (HZ.out.step bq)
                replace HP := Lib.hid (HP.out.step bq)
                replace HLW := Lib.hid (Nat.le_trans HLW.out bq.size)
                clear bq HLY
                go_wp2_with fail
                go_ret
                exact ⟨rfl, (HB.out.alloc HB.out.size _).alloc (by rw [World.size_alloc]; exact Nat.le_succ_of_le HB.out.size) _⟩
              · have hmT := putAt_may HMS.out hk hsl hw4
                have hne : ∀ q ∈ al, q.1 ≠ (k : Int) := fun q hq e => by
                  obtain ⟨i, hi, rfl⟩ := List.getElem_of_mem hq
                  have := HA.out i (by rw [← HN.out]; exact hi)
                  rw [List.getD_eq_getElem?_getD, List.getElem?_eq_getElem hi] at this
                  refine this ?_
                  show mkT S.2.1 (al[i]).1.toNat = 0
                  rw [e, Int.toNat_natCast]
                  exact hz
                obtain ⟨t1, t2⟩ := told_alone HMS.out hmT HMP.out HYO.out fun q hq => seenO_far S (HML.out q hq) (hne q hq)
                obtain ⟨T, hT⟩ : ∃ T, putAt S k s = T := ⟨_, rfl⟩
                rw [hT] at heg hmT t1 t2
                rw [heg] at HLY
                have HMT := Lib.hid hmT
                have HT1 := Lib.hid t1
                have HT3 := Lib.hid t2
                obtain ⟨su, hsu⟩ : ∃ z, sumOf s = z := ⟨_, rfl⟩
                rw [hsu] at HLY
                have d0 := bx0 HX.out
                have d1 := bx1 HX.out
                have d2 := bx2 HX.out
                have d3 := bx3 HX.out
                have d4 := bx4 HX.out
                clear heg hmT hne t1 t2 hT hsl hk hz hw4 hfr hsu HA
                go_wp2_with fail
                clear d0 d1 d2 d3 d4
                refine HLY.out.mono ?_
                rintro e w6 ⟨y, rfl, hy, _, bq⟩
                replace HX := Lib.hid (HX.out.below bq HX.out.lt)
                replace HQ := Lib.hid (HQ.out.below bq HQ.out.lt)
                replace HT := Lib.hid (HT.out.bel bq)
                replace HB := Lib.hid (HB.out.trans (bq.mono HB.out.size))
                replace HAA := Lib.hid (HAA.out.step bq)
                replace HZ := Lib.hid (HZ.out.step bq)
                replace HP := Lib.hid (HP.out.step bq)
                replace HLW := Lib.hid (Nat.le_trans HLW.out bq.size)
                have HT2 := Lib.hid (StP.any (L := L) hy)
                clear bq hy HLY
                obtain ⟨w7, hw7, bq, z7, xs, _⟩ := two_al w6 (stC y T) #[.int .i64 (k : Int), .int .u32 1, .int .u32 0, .int .u32 0, .int .u32 (su : Int)] 30 32
                obtain ⟨g7, hg7⟩ : ∃ X, w6.heap.size = X := ⟨_, rfl⟩
                replace HX := Lib.hid (HX.out.below bq HX.out.lt)
                replace HQ := Lib.hid (HQ.out.below bq HQ.out.lt)
                replace HT := Lib.hid (HT.out.bel bq)
                replace HB := Lib.hid (HB.out.trans (bq.mono HB.out.size))
                replace HAA := Lib.hid (HAA.out.step bq)
                replace HT2 := Lib.hid (HT2.out.bel bq)
                replace HZ := Lib.hid (HZ.out.step bq)
                replace HP := Lib.hid (HP.out.step bq)
                replace HLW := Lib.hid (Nat.le_trans HLW.out bq.size)
                rw [hg7] at xs
                have HX2 := Lib.hid xs
                clear bq z7 xs
                obtain ⟨⟨⟨k5, l5, r5, L5⟩, z5⟩, hoe⟩ : ∃ o, objSO S (pa, pb, pi, pt, ps) nz = o := ⟨_, rfl⟩
                obtain ⟨n5, hn5⟩ : ∃ n, L5.length = n := ⟨_, rfl⟩
                have HOE := Lib.hid hoe
                have HN5 := Lib.hid hn5
                clear hoe hn5
                have d0 := bx0 HX.out
                have d1 := bx1 HX.out
                have d2 := bx2 HX.out
                have d3 := bx3 HX.out
                have d4 := bx4 HX.out
                have q0 := bx0 HQ.out
                have q1 := bx1 HQ.out
                have q2 := bx2 HQ.out
                have q3 := bx3 HQ.out
                have q4 := bx4 HQ.out
                have hoc := setObject_any L x S (pa, pb, pi, pt, ps) nz w7 HT.out HWF.out HWP.out HLW.out HZ.out HNZ.out
                rw [HOE.out] at hoc
                have HOC := Lib.hid hoc
                clear hoc
                simp only [stC] at hw7
                rw [← hw7] at d0 d1 d2 d3 d4 q0 q1 q2 q3 q4
                have HW7 := Lib.hid hw7
                have HG7 := Lib.hid hg7
                clear hw7 hg7
                have ez : (((0 : Nat) : Int)) = 0 := rfl
                rw [ez]
                clear ez
                go_wp2_with fail
                rw [HW7.out]
                try rw [HG7.out]
                clear HW7 HG7
                clear d0 d1 d2 d3 d4
                clear q0 q1 q2 q3 q4
                refine HOC.out.mono ?_
                rintro e w8 ⟨a_o, c_o, rfl, ht5, _, bq⟩
                simp only [HN5.out] at ht5 ⊢
                replace HX := Lib.hid (HX.out.below bq HX.out.lt)
                replace HQ := Lib.hid (HQ.out.below bq HQ.out.lt)
                replace HT := Lib.hid (HT.out.bel bq)
                replace HB := Lib.hid (HB.out.trans (bq.mono HB.out.size))
                replace HAA := Lib.hid (HAA.out.step bq)
                replace HT2 := Lib.hid (HT2.out.bel bq)
                replace HX2 := Lib.hid (HX2.out.below bq HX2.out.lt)
                replace HZ := Lib.hid (HZ.out.step bq)
                replace HP := Lib.hid (HP.out.step bq)
                replace HLW := Lib.hid (Nat.le_trans HLW.out bq.size)
                have HD := Lib.hid ht5
                clear bq ht5 HOC
                obtain ⟨w9, hn, bq, xo⟩ : ∃ X, w8.alloc (.cells #[.int .u8 (k5 : Int), .int .i64 l5, .int .i64 r5, .slice a_o n5 c_o] 40) = X ∧ Below w8.heap.size w8 X ∧ Blk X w8.heap.size 40 #[.int .u8 (k5 : Int), .int .i64 l5, .int .i64 r5, .slice a_o n5 c_o] := ⟨_, rfl, (Below.refl _ _).alloc (Nat.le_refl _) _, Blk.new _ _ _⟩
                obtain ⟨g9, hg⟩ : ∃ X, w8.heap.size = X := ⟨_, rfl⟩
                replace HX := Lib.hid (HX.out.below bq HX.out.lt)
                replace HQ := Lib.hid (HQ.out.below bq HQ.out.lt)
                replace HT := Lib.hid (HT.out.bel bq)
                replace HB := Lib.hid (HB.out.trans (bq.mono HB.out.size))
                replace HAA := Lib.hid (HAA.out.step bq)
                replace HT2 := Lib.hid (HT2.out.bel bq)
                replace HX2 := Lib.hid (HX2.out.below bq HX2.out.lt)
                replace HZ := Lib.hid (HZ.out.step bq)
                replace HP := Lib.hid (HP.out.step bq)
                replace HD := Lib.hid (HD.out.step bq)
                replace HLW := Lib.hid (Nat.le_trans HLW.out bq.size)
                rw [hg] at xo
                have HU := Lib.hid xo
                clear bq xo
                have d0 := bx0 HX2.out
                have d1 := bx1 HX2.out
                have d2 := bx2 HX2.out
                have d3 := bx3 HX2.out
                have d4 := bx4 HX2.out
                have q0 := bx0 HQ.out
                have q1 := bx1 HQ.out
                have q2 := bx2 HQ.out
                have q3 := bx3 HQ.out
                have q4 := bx4 HQ.out
                have hoc := setObject_any L y T (pa, pb, pi, pt, ps) nz w9 HT2.out (MayS.ok HMT.out).2.2 HWP.out HLW.out HZ.out HNZ.out
                rw [HT1.out, HOE.out] at hoc
                have HOC := Lib.hid hoc
                clear hoc
                rw [← hn] at d0 d1 d2 d3 d4 q0 q1 q2 q3 q4
                have HNN := Lib.hid hn
                have HGG := Lib.hid hg
                clear hn hg
                go_wp2_with fail
                rw [HNN.out]
                try rw [HGG.out]
                clear HNN HGG
                clear d0 d1 d2 d3 d4
                clear q0 q1 q2 q3 q4
                refine HOC.out.mono ?_
                rintro e w10 ⟨a_p, c_p, rfl, ht5, _, bq⟩
                simp only [HN5.out] at ht5 ⊢
                replace HX := Lib.hid (HX.out.below bq HX.out.lt)
                replace HQ := Lib.hid (HQ.out.below bq HQ.out.lt)
                replace HT := Lib.hid (HT.out.bel bq)
                replace HB := Lib.hid (HB.out.trans (bq.mono HB.out.size))
                replace HAA := Lib.hid (HAA.out.step bq)
                replace HT2 := Lib.hid (HT2.out.bel bq)
                replace HX2 := Lib.hid (HX2.out.below bq HX2.out.lt)
                replace HU := Lib.hid (HU.out.below bq HU.out.lt)
                replace HZ := Lib.hid (HZ.out.step bq)
                replace HP := Lib.hid (HP.out.step bq)
                replace HD := Lib.hid (HD.out.step bq)
                replace HLW := Lib.hid (Nat.le_trans HLW.out bq.size)
                have HE := Lib.hid ht5
                clear bq ht5 HOC
                obtain ⟨w11, hn, bq, xo⟩ : ∃ X, w10.alloc (.cells #[.int .u8 (k5 : Int), .int .i64 l5, .int .i64 r5, .slice a_p n5 c_p] 40) = X ∧ Below w10.heap.size w10 X ∧ Blk X w10.heap.size 40 #[.int .u8 (k5 : Int), .int .i64 l5, .int .i64 r5, .slice a_p n5 c_p] := ⟨_, rfl, (Below.refl _ _).alloc (Nat.le_refl _) _, Blk.new _ _ _⟩
                obtain ⟨g11, hg⟩ : ∃ X, w10.heap.size = X := ⟨_, rfl⟩
                replace HX := Lib.hid (HX.out.below bq HX.out.lt)
                replace HQ := Lib.hid (HQ.out.below bq HQ.out.lt)
                replace HT := Lib.hid (HT.out.bel bq)
                replace HB := Lib.hid (HB.out.trans (bq.mono HB.out.size))
                replace HAA := Lib.hid (HAA.out.step bq)
                replace HT2 := Lib.hid (HT2.out.bel bq)
                replace HX2 := Lib.hid (HX2.out.below bq HX2.out.lt)
                replace HU := Lib.hid (HU.out.below bq HU.out.lt)
                replace HZ := Lib.hid (HZ.out.step bq)
                replace HP := Lib.hid (HP.out.step bq)
                replace HD := Lib.hid (HD.out.step bq)
                replace HE := Lib.hid (HE.out.step bq)
                replace HLW := Lib.hid (Nat.le_trans HLW.out bq.size)
                rw [hg] at xo
                have HV := Lib.hid xo
                clear bq xo
                obtain ⟨⟨u, ue⟩, hue⟩ : ∃ o, walkSO S (pa, pb, pi, pt, ps) af = o := ⟨_, rfl⟩
                obtain ⟨m, hm⟩ : ∃ n, u.length = n := ⟨_, rfl⟩
                have HUE := Lib.hid hue
                have HTE := Lib.hid ((HT3.out af).trans hue)
                have HM := Lib.hid hm
                clear hue hm
                have d0 := bx0 HX.out
                have d1 := bx1 HX.out
                have d2 := bx2 HX.out
                have d3 := bx3 HX.out
                have d4 := bx4 HX.out
                have q0 := bx0 HQ.out
                have q1 := bx1 HQ.out
                have q2 := bx2 HQ.out
                have q3 := bx3 HQ.out
                have q4 := bx4 HQ.out
                have hwc := setWalk_any L x S (pa, pb, pi, pt, ps) af w11 HT.out HWF.out HWP.out HAF.out HLW.out HZ.out
                rw [HUE.out] at hwc
                have HWC := Lib.hid hwc
                clear hwc
                rw [← hn] at d0 d1 d2 d3 d4 q0 q1 q2 q3 q4
                have HNN := Lib.hid hn
                have HGG := Lib.hid hg
                clear hn hg
                go_wp2_with fail
                rw [HNN.out]
                try rw [HGG.out]
                clear HNN HGG
                clear d0 d1 d2 d3 d4
                clear q0 q1 q2 q3 q4
                refine HWC.out.mono ?_
                rintro e w12 ⟨a_u, c_u, rfl, ht, _, bq⟩
                simp only [HM.out] at ht ⊢
                replace HX := Lib.hid (HX.out.below bq HX.out.lt)
                replace HQ := Lib.hid (HQ.out.below bq HQ.out.lt)
                replace HT := Lib.hid (HT.out.bel bq)
                replace HB := Lib.hid (HB.out.trans (bq.mono HB.out.size))
                replace HAA := Lib.hid (HAA.out.step bq)
                replace HT2 := Lib.hid (HT2.out.bel bq)
                replace HX2 := Lib.hid (HX2.out.below bq HX2.out.lt)
                replace HU := Lib.hid (HU.out.below bq HU.out.lt)
                replace HV := Lib.hid (HV.out.below bq HV.out.lt)
                replace HZ := Lib.hid (HZ.out.step bq)
                replace HP := Lib.hid (HP.out.step bq)
                replace HD := Lib.hid (HD.out.step bq)
                replace HE := Lib.hid (HE.out.step bq)
                replace HLW := Lib.hid (Nat.le_trans HLW.out bq.size)
                have HPU := Lib.hid ht
                have k_m := ht.len_le
                have j_m : (0 : Int) ≤ m := by omega
                clear bq ht HWC
                have d0 := bx0 HX2.out
                have d1 := bx1 HX2.out
                have d2 := bx2 HX2.out
                have d3 := bx3 HX2.out
                have d4 := bx4 HX2.out
                have q0 := bx0 HQ.out
                have q1 := bx1 HQ.out
                have q2 := bx2 HQ.out
                have q3 := bx3 HQ.out
                have q4 := bx4 HQ.out
                have hwc := setWalk_any L y T (pa, pb, pi, pt, ps) af w12 HT2.out (MayS.ok HMT.out).2.2 HWP.out HAF.out HLW.out HZ.out
                rw [HTE.out] at hwc
                have HWC := Lib.hid hwc
                clear hwc
                go_wp2_with fail
                clear d0 d1 d2 d3 d4
                clear q0 q1 q2 q3 q4
                refine HWC.out.mono ?_
                rintro e w13 ⟨a_v, c_v, rfl, ht, _, bq⟩
                simp only [HM.out] at ht ⊢
                replace HX := Lib.hid (HX.out.below bq HX.out.lt)
                replace HQ := Lib.hid (HQ.out.below bq HQ.out.lt)
                replace HT := Lib.hid (HT.out.bel bq)
                replace HB := Lib.hid (HB.out.trans (bq.mono HB.out.size))
                replace HAA := Lib.hid (HAA.out.step bq)
                replace HT2 := Lib.hid (HT2.out.bel bq)
                replace HX2 := Lib.hid (HX2.out.below bq HX2.out.lt)
                replace HU := Lib.hid (HU.out.below bq HU.out.lt)
                replace HV := Lib.hid (HV.out.below bq HV.out.lt)
                replace HZ := Lib.hid (HZ.out.step bq)
                replace HP := Lib.hid (HP.out.step bq)
                replace HD := Lib.hid (HD.out.step bq)
                replace HE := Lib.hid (HE.out.step bq)
                replace HPU := Lib.hid (HPU.out.step bq)
                replace HLW := Lib.hid (Nat.le_trans HLW.out bq.size)
                have HPV := Lib.hid ht
                clear bq ht HWC
                have hos := obSame_any a_o c_o (k5, l5, r5, L5) a_p c_p (k5, l5, r5, L5) w13 (by simp only [HN5.out]; exact HD.out) (by simp only [HN5.out]; exact HE.out) true (by simp)
                simp only [obV, HN5.out] at hos
                have HOS := Lib.hid hos
                clear hos
                have m0_ := ox0 HU.out
                have m1_ := ox1 HU.out
                have m2_ := ox2 HU.out
                have m3_ := ox3 HU.out
                have o0_ := ox0 HV.out
                have o1_ := ox1 HV.out
                have o2_ := ox2 HV.out
                have o3_ := ox3 HV.out
                have ne5 : ((z5 : Int) != (z5 : Int)) = false := by simp
                have neu : ((ue : Int) != (ue : Int)) = false := by simp
                have nem : ((m : Int) != (m : Int)) = false := by simp
                go_wp2_with fail
                clear m0_ m1_ m2_ m3_ o0_ o1_ o2_ o3_
                refine HOS.out.mono ?_
                rintro e w14 ⟨rfl, bq⟩
                replace HX := Lib.hid (HX.out.below bq HX.out.lt)
                replace HQ := Lib.hid (HQ.out.below bq HQ.out.lt)
                replace HT := Lib.hid (HT.out.bel bq)
                replace HB := Lib.hid (HB.out.trans (bq.mono HB.out.size))
                replace HAA := Lib.hid (HAA.out.step bq)
                replace HT2 := Lib.hid (HT2.out.bel bq)
                replace HX2 := Lib.hid (HX2.out.below bq HX2.out.lt)
                replace HU := Lib.hid (HU.out.below bq HU.out.lt)
                replace HV := Lib.hid (HV.out.below bq HV.out.lt)
                replace HZ := Lib.hid (HZ.out.step bq)
                replace HP := Lib.hid (HP.out.step bq)
                replace HD := Lib.hid (HD.out.step bq)
                replace HE := Lib.hid (HE.out.step bq)
                replace HPU := Lib.hid (HPU.out.step bq)
                replace HPV := Lib.hid (HPV.out.step bq)
                replace HLW := Lib.hid (Nat.le_trans HLW.out bq.size)
                clear bq HOS
                go_wp2_with fail
                clear ne5 neu nem
                go_loopw [26] (fun i wr => ∃ j : Nat, j ≤ m ∧ i = .int .i64 j ∧ Below w14.heap.size w14 wr) (fun i _ => m - (intOf i).toNat)
                case atStart => exact ⟨0, Nat.zero_le _, rfl, Below.refl _ _⟩
                case round =>
                  obtain ⟨q, hq, rfl, hb⟩ := hrel
                  have HB14 := Lib.hid hb
                  replace HX := Lib.hid (HX.out.below hb HX.out.lt)
                  replace HQ := Lib.hid (HQ.out.below hb HQ.out.lt)
                  replace HT := Lib.hid (HT.out.bel hb)
                  replace HB := Lib.hid (HB.out.trans (hb.mono HB.out.size))
                  replace HAA := Lib.hid (HAA.out.step hb)
                  replace HT2 := Lib.hid (HT2.out.bel hb)
                  replace HX2 := Lib.hid (HX2.out.below hb HX2.out.lt)
                  replace HU := Lib.hid (HU.out.below hb HU.out.lt)
                  replace HV := Lib.hid (HV.out.below hb HV.out.lt)
                  replace HZ := Lib.hid (HZ.out.step hb)
                  replace HP := Lib.hid (HP.out.step hb)
                  replace HD := Lib.hid (HD.out.step hb)
                  replace HE := Lib.hid (HE.out.step hb)
                  replace HPU := Lib.hid (HPU.out.step hb)
                  replace HPV := Lib.hid (HPV.out.step hb)
                  replace HLW := Lib.hid (Nat.le_trans HLW.out hb.size)
                  have q0_ : (0 : Int) ≤ q := by omega
                  clear hb
                  by_cases hqt : q < m
                  · have q1_ : (q : Int) < m := by omega
                    obtain ⟨b3, o3, e3, _⟩ := HPU.out.cells q hqt
                    obtain ⟨b4, o4, e4, _⟩ := HPV.out.cells q hqt
                    subst e3
                    subst e4
                    obtain ⟨⟨ua, ub, ui, ut, us⟩, hP⟩ : ∃ X, u.getD q p0 = X := ⟨_, rfl⟩
                    have HPE := Lib.hid hP
                    clear hP
                    have hlip := eqPt_lit ua ub ui ut us ua ub ui ut us
                    rw [eqP_yes] at hlip
                    go_wp2_with fail
                    obtain ⟨wd, hwd⟩ : ∃ wd, wr.drew = wd := ⟨_, rfl⟩
                    have bq : Below wr.heap.size wr wd := by rw [← hwd]; exact (Below.refl _ wr).drew
                    replace HX := Lib.hid (HX.out.below bq HX.out.lt)
                    replace HQ := Lib.hid (HQ.out.below bq HQ.out.lt)
                    replace HT := Lib.hid (HT.out.bel bq)
                    replace HB := Lib.hid (HB.out.trans (bq.mono HB.out.size))
                    replace HAA := Lib.hid (HAA.out.step bq)
                    replace HT2 := Lib.hid (HT2.out.bel bq)
                    replace HX2 := Lib.hid (HX2.out.below bq HX2.out.lt)
                    replace HU := Lib.hid (HU.out.below bq HU.out.lt)
                    replace HV := Lib.hid (HV.out.below bq HV.out.lt)
                    replace HB14 := Lib.hid (HB14.out.trans (bq.mono HB14.out.size))
                    replace HZ := Lib.hid (HZ.out.step bq)
                    replace HP := Lib.hid (HP.out.step bq)
                    replace HD := Lib.hid (HD.out.step bq)
                    replace HE := Lib.hid (HE.out.step bq)
                    replace HPU := Lib.hid (HPU.out.step bq)
                    replace HPV := Lib.hid (HPV.out.step bq)
                    replace HLW := Lib.hid (Nat.le_trans HLW.out bq.size)
                    have hwd0 := Below.refl wd.heap.size wd
                    refine wpI_start (Below wd.heap.size wd) [0, 1, 2, 3, 4, 5, 6, 7, 8] hmx rfl hwd ?_
                    clear hwd bq
                    iterate 9 (
                      refine wpI_read (v := ?_) hwd0 rfl (by kernel_rfl) (by kernel_rfl) (by kernel_rfl) (fun _ _ _ h => h) (.inl ⟨by rfl, ?_⟩) ?_
                      rotate_left
                      · intro X hX
                        obtain ⟨_, _, ea, _, _, p0_, p1_, p2_, p3_, p4_⟩ := (HPU.out.below hX).cells q hqt
                        cases ea
                        rw [HPE.out] at p0_ p1_ p2_ p3_ p4_
                        simp only at p0_ p1_ p2_ p3_ p4_
                        obtain ⟨_, _, ea, _, _, v0_, v1_, v2_, v3_, v4_⟩ := (HPV.out.below hX).cells q hqt
                        cases ea
                        rw [HPE.out] at v0_ v1_ v2_ v3_ v4_
                        simp only at v0_ v1_ v2_ v3_ v4_
                        clear hX
                        go_simp
                        with_reducible rfl
                      try simp only [Act.put, List.setIfInBounds_toArray, List.set_cons_zero, List.set_cons_succ])
                    refine wpI_done (by kernel_rfl) ?_
                    clear hwd0 hlip
                    go_wp2_with fail
                    go_roundw
                    case rel => exact ⟨q + 1, by omega, by go_num, HB14.out⟩
                    case measure => simp [intOf]; omega
                  · obtain rfl : q = m := by omega
                    go_wp2_with fail
                    go_ret
                    exact ⟨rfl, HB.out⟩
      · have HC := Lib.hid (stCheck_any L x S w2 HT.out HOK.out HLW.out 8 ⟨fun k => absurd k hms, fun _ => rfl⟩)
        have d0 := bx0 HX.out
        have d1 := bx1 HX.out
        have d2 := bx2 HX.out
        have d3 := bx3 HX.out
        have d4 := bx4 HX.out
        go_wp2_with fail
        clear d0 d1 d2 d3 d4
        refine HC.out.mono ?_
        rintro e w3 ⟨rfl, b3⟩
        replace HX := Lib.hid (HX.out.below b3 HX.out.lt)
        replace HQ := Lib.hid (HQ.out.below b3 HQ.out.lt)
        replace HT := Lib.hid (HT.out.bel b3)
        replace HB := Lib.hid (HB.out.trans (b3.mono HB.out.size))
        replace HAA := Lib.hid (HAA.out.step b3)
        replace HZ := Lib.hid (HZ.out.step b3)
        replace HLW := Lib.hid (Nat.le_trans HLW.out b3.size)
        clear b3 HC
        go_wp2_with fail
        go_ret
        exact ⟨rfl, HB.out⟩
theorem setAlone_walk (x : SAt) (S : StL) (p : Pt) (nz : Int) (a : Int) (A : Option Addr) (lb cb : Nat) (s : List UInt8) (w : World) (hz : Szs w) (h : Str w w.heap.size x S) (hnear : Near S.1) (hwf : WfS S) (hwp : WfP p) (hn : (Lit.int .i64 nz).wf = true) (ha : (Lit.int .u32 a).wf = true) (hA : Bsl w w.heap.size A lb cb s) : Calls Tryz.prog 8 #[stV x S, ptV p, .int .i64 nz, .int .u32 a, .slice A lb cb] w fun e w' => e = .returned (.bool true) ∧ Below w.heap.size w w' := by
  obtain ⟨m, rfl, hm⟩ := u32_wf ha
  obtain rfl := hA.1
  exact setAlone_at x S p nz m A cb s w hz h hnear hwf hwp (wf_le hn) hm hA
end Go.Proofs.YtbggkfomfeeikaaGreatDoor
namespace Go.Proofs.YtbggkfomfeeikaaGreatDoor.setAlone
open Go.ChangeShapes Go.WideShapes Go.ChangeAt Go.RowKit
set_option linter.unusedVariables false

theorem own : ownKnob Tryz.prog.godebug = none := by kernel_rfl
theorem laidOut : laidOutB Tryz.prog = true := by kernel_rfl

set_option maxRecDepth 100000 in
theorem lifted (os : Os) (started : os.Started) (H : Type) (enc : TypeId × Value → H) :
    ReturnsInHanded {} Tryz.checked os 8 .any (fun w args => (Rows.setAloneSpec.pre enc Tryz.prog Tryz.f8 [] false w args ∧ laidMetH Tryz.prog [("charterhouse/ptr.sizes", Rows.laid_charterhouse_ptr_sizes)] w) ∧ sizedMet enc Tryz.prog Tryz.f8 (OpenSpec.ofChange Rows.setAloneSpec) false w args)
      (Rows.setAloneSpec.post enc Tryz.prog Tryz.f8 false true false false) := by
  refine returnsInHanded_of_change_and (C := Tryz.checked) (X := fun w _ => laidMetH Tryz.prog [("charterhouse/ptr.sizes", Rows.laid_charterhouse_ptr_sizes)] w) (fun _ _ _ hh h => h.of_heap hh) own started (by kernel_rfl) Tryz.func8
    (ChangeSpec.witness_shaped (enc := enc) (C := Tryz.checked) (os := os) (X := fun w _ => laidMetH Tryz.prog [("charterhouse/ptr.sizes", Rows.laid_charterhouse_ptr_sizes)] w) false (World.doorLaid Tryz.prog 400 os) #[.agg #[.slice none 0 0, .slice none 0 0, .slice none 0 0, .int .u32 0, .int .u32 0], .agg #[.int .i64 0, .int .u32 0, .int .u32 0, .int .u32 0, .int .u32 0], .int .i64 0, .int .u32 0, .slice none 0 0] 8 rfl (World.shaped_of_RefB (by kernel_rfl) (by kernel_rfl)) (by kernel_rfl) (by kernel_rfl) (by kernel_rfl) (door_met os _)) ?_
  intro W base args ds gs before hval0 hW _ hsz hL _
  have hval : ∀ (j : Nat) t v, Tryz.f8.params[j]? = some t → args[j]? = some v → Value.okWide Tryz.prog W .any base t v := hval0
  have hW' := hW
  obtain ⟨p, q, hA0, hV, rfl, hfz, hnd⟩ := hW
  have hA : DataW.TrodAll enc Tryz.prog W 0 (fun _ => true) true Tryz.f8.params.toList args.toList ds p := hA0
  rw [Tryz.params8] at hA hval
  obtain ⟨v0, vs0, d0, ds0, p0, q0, hargs, rfl, rfl, h0, r0⟩ := trodAll_cons hA
  obtain ⟨v1, vs1, d1, ds1, p1, q1, rfl, rfl, rfl, h1, r1⟩ := trodAll_cons r0
  obtain ⟨v2, vs2, d2, ds2, p2, q2, rfl, rfl, rfl, h2, r2⟩ := trodAll_cons r1
  obtain ⟨v3, vs3, d3, ds3, p3, q3, rfl, rfl, rfl, h3, r3⟩ := trodAll_cons r2
  obtain ⟨v4, vs4, d4, ds4, p4, q4, rfl, rfl, rfl, h4, r4⟩ := trodAll_cons r3
  obtain ⟨rfl, rfl, rfl⟩ := trodAll_nil r4
  obtain rfl : args = #[v0, v1, v2, v3, v4] := by cases args; simp_all
  obtain ⟨rfl, rfl⟩ := trodVars_none hV
  have k0 := h0
  have lt0 : ∀ x ∈ p0, x.block < W.heap.size := by obtain ⟨m, hm⟩ := k0; exact DataW.trod_lt m _ _ _ hm
  obtain ⟨x0, S0, rfl, w0, m0, f0⟩ := open_store (hval 0 30 v0 rfl rfl) h0 (fun n hn => by
    have := List.all_eq_true.1 hsz n (DataW.weights_mem_each (j := 0) (t := 30) (by kernel_rfl) rfl n hn)
    simpa using this)
  have k1 := h1
  have lt1 : ∀ x ∈ p1, x.block < W.heap.size := by obtain ⟨m, hm⟩ := k1; exact DataW.trod_lt m _ _ _ hm
  obtain ⟨z1, rfl, w1⟩ := open_ptr (hval 1 32 v1 rfl rfl) h1
  obtain ⟨a2, rfl, rfl, rfl, w2⟩ := open_int Tryz.underlying3 (hval 2 3 v2 rfl rfl) h2
  obtain ⟨a3, rfl, rfl, rfl, w3⟩ := open_int Tryz.underlying28 (hval 3 28 v3 rfl rfl) h3
  obtain ⟨a4, len4, cap4, rfl⟩ := okWide_slice Tryz.underlying27 (hval 4 27 v4 rfl rfl)
  have k4 := h4
  have lt4 : ∀ x ∈ p4, x.block < W.heap.size := by obtain ⟨m, hm⟩ := k4; exact DataW.trod_lt m _ _ _ hm
  obtain ⟨z4, w4⟩ : ∃ zs, IsRow .u8 W a4 len4 cap4 zs := by
    obtain ⟨fuel, hf⟩ := h4
    rcases open_ints Tryz.underlying27 Tryz.underlying5 (by kernel_rfl) hf with ⟨hcs, _⟩ | ⟨x, l, c, zs, hcs, _, hl, hm, hz, _, hcell, hwz⟩
    · simp [Value.cells] at hcs
      obtain ⟨rfl, rfl, rfl⟩ := hcs
      exact ⟨[], .inl ⟨rfl, rfl, rfl, rfl⟩⟩
    · simp [Value.cells] at hcs
      obtain ⟨rfl, rfl, rfl⟩ := hcs
      exact ⟨zs, .inr ⟨_, rfl, hl, hm, by simpa using hz, hcell, hwz⟩⟩
  clear hA0 hval0
  refine (setAlone_walk x0 S0 z1 a2 a3 a4 len4 cap4 _ W (szs_of_laid hL) w0 m0 f0 w1 w2 w3 (bsl_of_row w4)).mono fun e W' ⟨he, bel⟩ => ?_
  subst he
  exact ⟨_, rfl, _, _, _, [], _, [], hW', trodAll_mk1 (shut_bool Tryz.underlying4 _), (trodAll_cons_mk (Below.trod laidOut (by kernel_rfl) (of_decide_eq_true (by kernel_rfl)) k0 bel lt0) (trodAll_cons_mk (Below.trod laidOut (by kernel_rfl) (of_decide_eq_true (by kernel_rfl)) k1 bel lt1) (trodAll_cons_mk (shut_int Tryz.underlying3 w2) (trodAll_cons_mk (shut_int Tryz.underlying28 w3) (trodAll_cons_mk (Below.trod laidOut (by kernel_rfl) (of_decide_eq_true (by kernel_rfl)) k4 bel lt4) trodAll_mk0))))), rfl, bel.frame _, fun h => by cases h⟩

theorem over : Rows.SetAloneSaid :=
  OpenClaim.holds_of_wide 8 Tryz.f8 rfl rfl rfl rfl rfl rfl rfl ⟨rfl, rfl, rfl, rfl, rfl⟩ rfl rfl rfl rfl rfl (by kernel_rfl) Tryz.func8 (by kernel_rfl)
    (of_decide_eq_true (by kernel_rfl)) (by unfold Func.isWrapper; first | (rw [if_pos (by decide +kernel)]; kernel_rfl) | (rw [if_neg (by decide +kernel)]; exact ⟨rfl, rfl⟩))
    (fun os started H enc _ => lifted os started H enc)

/-- The statement. -/
theorem proved : Rows.SetAloneCardSaid :=
  Claim7.holds_tied_plain_at .later [] [.data] true _ false
    over (fun _ h => by cases h) (by kernel_rfl) (fun _ h => by cases h) setAlone_row_tie rfl ⟨rfl, rfl⟩ (by kernel_rfl) rfl
    (fun f fn hf hfn => by
      obtain rfl : f = 8 := Option.some.inj ((show Tryz.prog.funcNamed "charterhouse/charterhouselaw15.SetAlone" = some 8 by kernel_rfl).symm.trans hf) |>.symm
      obtain rfl : fn = Tryz.f8 := (Option.some.inj (Tryz.func8.symm.trans hfn)).symm
      exact ⟨by kernel_rfl, fun j t ht => by
        rw [Tryz.params8] at ht
        have hm : t ∈ [30, 32, 3, 28, 27] := by simpa using Array.mem_of_getElem? ht
        have hall : ([30, 32, 3, 28, 27].all fun u => !Tryz.prog.wantsStandIn u) = true := by kernel_rfl
        exact (show Tryz.prog.wantsStandIn t = false by simpa using List.all_eq_true.1 hall t hm)⟩)
    (by kernel_rfl)
end Go.Proofs.YtbggkfomfeeikaaGreatDoor.setAlone
