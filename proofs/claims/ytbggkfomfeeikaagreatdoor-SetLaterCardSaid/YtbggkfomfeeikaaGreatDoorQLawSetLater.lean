/-
  SetLaterSaid: for any store, root and two syncs (where the store is great, or the syncs' sum is, the law itself answers what its example answers) what is young after a later sync is young after an earlier one, in the same order. No condition but the tied one: ptr.sizes reads as its own initialiser lays it.
-/
import Derived.Test.YtbggkfomfeeikaaGreatDoorPkSA5
namespace Go.Proofs.YtbggkfomfeeikaaGreatDoor
open Go.RowKit Go.Shelf
set_option maxRecDepth 100000

set_option linter.unusedSimpArgs false in
set_option maxHeartbeats 16000000 in
theorem setLater_at (x : SAt) (S : StL) (p : Pt) (af mo : Nat) (w : World) (hz : Szs w) (h : Str w w.heap.size x S) (hnear : Near S.1) (hwf : WfS S) (hwp : WfP p) (haf : af < 4294967296) (hmo : mo < 4294967296) : Calls Tryz.prog 7 #[stV x S, ptV p, .int .u32 (af : Int), .int .u32 (mo : Int)] w fun e w' => e = .returned (.bool true) ∧ Below w.heap.size w w' := by
  have hmx : Tryz.prog.follows Departure.mixedOrders = true := by kernel_rfl
  have h := h.lasts (Nat.le_refl _)
  obtain ⟨L, hLe⟩ : ∃ L, w.heap.size = L := ⟨_, rfl⟩
  rw [hLe] at h
  have hL : L ≤ w.heap.size := Nat.le_of_eq hLe.symm
  clear hLe
  obtain ⟨az, haz⟩ : ∃ z : Int, (af : Int) = z := ⟨_, rfl⟩
  obtain ⟨mz, hmz⟩ : ∃ z : Int, (mo : Int) = z := ⟨_, rfl⟩
  rw [haz, hmz]
  have af0 : 0 ≤ az := by omega
  have af9 : az ≤ 4294967295 := by omega
  have mo0 : 0 ≤ mz := by omega
  have mo9 : mz ≤ 4294967295 := by omega
  obtain ⟨qz, hqz⟩ : ∃ z : Int, IntKind.u32.wrap (az + mz) = z := ⟨_, rfl⟩
  have hwr : qz = (az + mz) % 4294967296 := by rw [← hqz]; simp [IntKind.wrap, IntKind.bits, IntKind.signed]
  obtain ⟨pa, pb, pi, pt, ps⟩ := p
  obtain ⟨w0, hw0, b0, z0, q1, q2⟩ := two_al w (stC x S) (ptA (pa, pb, pi, pt, ps)) 30 32
  obtain ⟨g, hg⟩ : ∃ g, w.heap.size = g := ⟨_, rfl⟩
  obtain ⟨g1, hg1⟩ : ∃ g1, g + 1 = g1 := ⟨_, rfl⟩
  rw [hg] at q1 q2
  rw [hg1] at q2
  have HX := Lib.hid q1
  have HQ := Lib.hid q2
  have HT := Lib.hid (h.bel b0)
  have HB := Lib.hid b0
  have HLW := Lib.hid (show L ≤ w0.heap.size from Nat.le_trans hL b0.size)
  simp only [stC, ptA] at hw0
  clear h b0 z0 q1 q2 hL
  have HZ := Lib.hid (hz.step HB.out)
  have HWF := Lib.hid hwf
  have HWP := Lib.hid hwp
  have HNE := Lib.hid hnear
  have HAF := Lib.hid haf
  have HAZ := Lib.hid haz
  have HWR := Lib.hid hwr
  have HMZ := Lib.hid hmz
  clear hwf hwp hz hnear haf haz hwr hmz hmo
  go_enter Tryz.func7, Tryz.ntmps7
  go_wp2_with fail
  try rw [hw0]
  try rw [hg]
  try rw [hg1]
  clear hw0 hg hg1
  refine (seAlive_any w0 HZ.out).mono ?_
  rintro e w1 ⟨rfl, b1⟩
  replace HX := Lib.hid (HX.out.below b1 HX.out.lt)
  replace HQ := Lib.hid (HQ.out.below b1 HQ.out.lt)
  replace HT := Lib.hid (HT.out.bel b1)
  replace HB := Lib.hid (HB.out.trans (b1.mono HB.out.size))
  replace HZ := Lib.hid (HZ.out.step b1)
  replace HLW := Lib.hid (Nat.le_trans HLW.out b1.size)
  clear b1
  have d0 := bx0 HX.out
  have d1 := bx1 HX.out
  have d2 := bx2 HX.out
  have d3 := bx3 HX.out
  have d4 := bx4 HX.out
  have HG := Lib.hid (rtGreat_any L x S w1 HT.out HNE.out)
  go_wp2_with fail
  clear d0 d1 d2 d3 d4
  refine HG.out.mono ?_
  rintro e w2 ⟨gr, rfl, _, b2⟩
  replace HX := Lib.hid (HX.out.below b2 HX.out.lt)
  replace HQ := Lib.hid (HQ.out.below b2 HQ.out.lt)
  replace HT := Lib.hid (HT.out.bel b2)
  replace HB := Lib.hid (HB.out.trans (b2.mono HB.out.size))
  replace HZ := Lib.hid (HZ.out.step b2)
  replace HLW := Lib.hid (Nat.le_trans HLW.out b2.size)
  clear b2 HG
  cases gr with
  | true =>
    go_wp2_with fail
    go_ret
    exact ⟨rfl, HB.out⟩
  | false =>
    by_cases ho : 4294967296 ≤ az + mz
    · have d1 : decide (qz < az) = true := decide_eq_true (by have := HWR.out; omega)
      go_wp2_with fail
      go_ret
      exact ⟨rfl, HB.out⟩
    · have d1 : decide (qz < az) = false := decide_eq_false (by have := HWR.out; omega)
      obtain ⟨⟨l, le⟩, hle⟩ : ∃ o, walkSO S (pa, pb, pi, pt, ps) af = o := ⟨_, rfl⟩
      obtain ⟨⟨M, me⟩, hme⟩ : ∃ o, walkSO S (pa, pb, pi, pt, ps) (af + mo) = o := ⟨_, rfl⟩
      obtain ⟨n, hn⟩ : ∃ n, l.length = n := ⟨_, rfl⟩
      obtain ⟨m, hm⟩ : ∃ m, M.length = m := ⟨_, rfl⟩
      have HLE := Lib.hid hle
      have HME := Lib.hid hme
      have HN := Lib.hid hn
      have HM := Lib.hid hm
      have HQZ := Lib.hid (show ((af + mo : Nat) : Int) = qz by have := HWR.out; have := HAZ.out; have := HMZ.out; omega)
      have HAM := Lib.hid (show af + mo < 4294967296 by have := HAZ.out; have := HMZ.out; omega)
      clear hle hme hn hm ho
      have d0 := bx0 HX.out
      have d1 := bx1 HX.out
      have d2 := bx2 HX.out
      have d3 := bx3 HX.out
      have d4 := bx4 HX.out
      have q0 := bx0 HQ.out
      have q1 := bx1 HQ.out
      have q2 := bx2 HQ.out
      have q3 := bx3 HQ.out
      have q4 := bx4 HQ.out
      have hwc := setWalk_any L x S (pa, pb, pi, pt, ps) af w2 HT.out HWF.out HWP.out HAF.out HLW.out HZ.out
      rw [HLE.out, HAZ.out] at hwc
      have HWC := Lib.hid hwc
      clear hwc
      go_wp2_with fail
      clear d1
      clear d0 d1 d2 d3 d4
      clear q0 q1 q2 q3 q4
      refine HWC.out.mono ?_
      rintro e w4 ⟨a4, c4, rfl, ht, _, bq⟩
      simp only [HN.out] at ht ⊢
      replace HX := Lib.hid (HX.out.below bq HX.out.lt)
      replace HQ := Lib.hid (HQ.out.below bq HQ.out.lt)
      replace HT := Lib.hid (HT.out.bel bq)
      replace HB := Lib.hid (HB.out.trans (bq.mono HB.out.size))
      replace HZ := Lib.hid (HZ.out.step bq)
      replace HLW := Lib.hid (Nat.le_trans HLW.out bq.size)
      have HP := Lib.hid ht
      have kn := ht.len_le
      have jn : (0 : Int) ≤ n := by omega
      clear bq ht HWC
      have d0 := bx0 HX.out
      have d1 := bx1 HX.out
      have d2 := bx2 HX.out
      have d3 := bx3 HX.out
      have d4 := bx4 HX.out
      have q0 := bx0 HQ.out
      have q1 := bx1 HQ.out
      have q2 := bx2 HQ.out
      have q3 := bx3 HQ.out
      have q4 := bx4 HQ.out
      have hwc := setWalk_any L x S (pa, pb, pi, pt, ps) (af + mo) w4 HT.out HWF.out HWP.out HAM.out HLW.out HZ.out
      rw [HME.out, HQZ.out] at hwc
      have HWC := Lib.hid hwc
      clear hwc
      go_wp2_with fail
      clear d0 d1 d2 d3 d4
      clear q0 q1 q2 q3 q4
      refine HWC.out.mono ?_
      rintro e w5 ⟨a5, c5, rfl, ht, _, bq⟩
      simp only [HM.out] at ht ⊢
      replace HX := Lib.hid (HX.out.below bq HX.out.lt)
      replace HQ := Lib.hid (HQ.out.below bq HQ.out.lt)
      replace HT := Lib.hid (HT.out.bel bq)
      replace HB := Lib.hid (HB.out.trans (bq.mono HB.out.size))
      replace HZ := Lib.hid (HZ.out.step bq)
      replace HP := Lib.hid (HP.out.step bq)
      replace HLW := Lib.hid (Nat.le_trans HLW.out bq.size)
      have HV := Lib.hid ht
      have km := ht.len_le
      have jm : (0 : Int) ≤ m := by omega
      clear bq ht HWC
      rcases walk_cases S (pa, pb, pi, pt, ps) af with ⟨e, he, hne⟩ | ⟨l', hl, hms, hmp, hyo⟩
      · rw [HLE.out] at he
        cases he
        obtain rfl : n = 0 := by rw [← HN.out]; rfl
        have e1 : ((le : Int) != 0) = true := by simp; omega
        clear hne
        go_wp2_with fail
        go_ret
        exact ⟨rfl, HB.out⟩
      · rw [HLE.out] at hl
        cases hl
        obtain ⟨M', hm1, hsub⟩ := young_later (Nat.le_add_right af mo) hyo
        have hm2 := HME.out
        rw [walkSO_may hms hmp, hm1] at hm2
        cases hm2
        have h257 := youngSO_len hyo
        have hle2 := hsub.length_le
        rw [HN.out] at h257 hle2
        rw [HM.out] at hle2
        have HYA := Lib.hid (young_all hyo)
        have HSB := Lib.hid hsub
        have h258 : ¬ (257 : Int) < (n : Int) := by omega
        have h259 : ¬ (n : Int) < (m : Int) := by omega
        clear hm1 hyo hsub h257 hle2 hms hmp
        have ez : (((0 : Nat) : Int)) = 0 := rfl
        rw [ez]
        clear ez
        go_wp2_with fail
        clear h258 h259
        go_loopw [14, 15] (fun v i wr => ∃ j t : Nat, j ≤ n ∧ t ≤ m ∧ i = .int .i64 j ∧ v = .int .i64 t ∧ (M.drop t).Sublist (l.drop j) ∧ Below w5.heap.size w5 wr) (fun _ i _ => n - (intOf i).toNat)
        case atStart => exact ⟨0, 0, Nat.zero_le _, Nat.zero_le _, rfl, rfl, HSB.out, Below.refl _ _⟩
        case round =>
          obtain ⟨j, t, hj, ht, rfl, rfl, hs, hb⟩ := hrel
          have HBR := Lib.hid hb
          have HS := Lib.hid hs
          replace HX := Lib.hid (HX.out.below hb HX.out.lt)
          replace HQ := Lib.hid (HQ.out.below hb HQ.out.lt)
          replace HT := Lib.hid (HT.out.bel hb)
          replace HB := Lib.hid (HB.out.trans (hb.mono HB.out.size))
          replace HZ := Lib.hid (HZ.out.step hb)
          replace HP := Lib.hid (HP.out.step hb)
          replace HV := Lib.hid (HV.out.step hb)
          replace HLW := Lib.hid (Nat.le_trans HLW.out hb.size)
          have j0 : (0 : Int) ≤ j := by omega
          have t0 : (0 : Int) ≤ t := by omega
          clear hb hs
          by_cases hlt : j < n
          · have j1 : (j : Int) < n := by omega
            obtain ⟨ba, oa, ea, _, _⟩ := HP.out.cells j hlt
            obtain ⟨⟨ya, yb, yi, yt, ys⟩, hP⟩ : ∃ X, l.getD j p0 = X := ⟨_, rfl⟩
            have hdr := drop_at (l := l) (j := j) (by rw [HN.out]; exact hlt)
            rw [hP] at hdr
            have hyp := HYA.out (l.getD j p0) (by rw [List.getD_eq_getElem?_getD, List.getElem?_eq_getElem (by rw [HN.out]; exact hlt)]; exact List.getElem_mem _)
            rw [hP] at hyp
            have hgt : af < yb := hyp.2
            have HGT := Lib.hid (show decide ((yb : Int) ≤ az) = false from decide_eq_false (by have := HAZ.out; omega))
            have HPE := Lib.hid hP
            have HDR := Lib.hid hdr
            subst ea
            clear hP hdr hyp hgt
            by_cases hlm : t < m
            · have t1 : (t : Int) < m := by omega
              obtain ⟨bv, ov, ev, _⟩ := HV.out.cells t hlm
              obtain ⟨⟨ua, ub, ui, ut, us⟩, hQ⟩ : ∃ X, M.getD t p0 = X := ⟨_, rfl⟩
              have hdm := drop_at (l := M) (j := t) (by rw [HM.out]; exact hlm)
              rw [hQ] at hdm
              have HQE := Lib.hid hQ
              have HDM := Lib.hid hdm
              subst ev
              clear hQ hdm
              have t9 : (t : Int) + 1 ≤ 9223372036854775807 := by omega
              have hlit := eqPt_lit ya yb yi yt ys ua ub ui ut us
              have hgo := sub_go (m := M.drop t) (x := (ya, yb, yi, yt, ys)) (r := l.drop (j + 1)) (by rw [← HDR.out]; exact HS.out)
              by_cases hpq : ((ya, yb, yi, yt, ys) : Pt) = (ua, ub, ui, ut, us)
              · have hq1 : eqP (ya, yb, yi, yt, ys) (ua, ub, ui, ut, us) = true := (eqP_iff _ _).2 hpq
                rw [hq1] at hlit
                have HSU := Lib.hid (hgo.1 _ _ HDM.out hpq.symm)
                clear hq1 hgo hpq
                go_wp2_with fail
                obtain ⟨wd, hwd⟩ : ∃ wd, wr.drew = wd := ⟨_, rfl⟩
                have bq : Below wr.heap.size wr wd := by rw [← hwd]; exact (Below.refl _ wr).drew
                replace HX := Lib.hid (HX.out.below bq HX.out.lt)
                replace HQ := Lib.hid (HQ.out.below bq HQ.out.lt)
                replace HT := Lib.hid (HT.out.bel bq)
                replace HB := Lib.hid (HB.out.trans (bq.mono HB.out.size))
                replace HBR := Lib.hid (HBR.out.trans (bq.mono HBR.out.size))
                replace HZ := Lib.hid (HZ.out.step bq)
                replace HP := Lib.hid (HP.out.step bq)
                replace HV := Lib.hid (HV.out.step bq)
                replace HLW := Lib.hid (Nat.le_trans HLW.out bq.size)
                have hwd0 := Below.refl wd.heap.size wd
                refine wpI_start (Below wd.heap.size wd) [0, 1, 2, 3, 4, 5, 6, 7, 8, 9, 10, 11, 12, 13, 14] hmx rfl hwd ?_
                clear hwd bq
                iterate 15 (
                  refine wpI_read (v := ?_) hwd0 rfl (by kernel_rfl) (by kernel_rfl) (by kernel_rfl) (fun _ _ _ h => h) (.inl ⟨by rfl, ?_⟩) ?_
                  rotate_left
                  · intro X hX
                    obtain ⟨_, _, ea, _, _, p0_, p1_, p2_, p3_, p4_⟩ := (HP.out.below hX).cells j hlt
                    cases ea
                    rw [HPE.out] at p0_ p1_ p2_ p3_ p4_
                    simp only at p0_ p1_ p2_ p3_ p4_
                    obtain ⟨_, _, ea, _, _, v0_, v1_, v2_, v3_, v4_⟩ := (HV.out.below hX).cells t hlm
                    cases ea
                    rw [HQE.out] at v0_ v1_ v2_ v3_ v4_
                    simp only at v0_ v1_ v2_ v3_ v4_
                    clear hX
                    go_simp
                    with_reducible rfl
                  try simp only [Act.put, List.setIfInBounds_toArray, List.set_cons_zero, List.set_cons_succ])
                refine wpI_done (by kernel_rfl) ?_
                clear hwd0
                clear hlit
                obtain ⟨_, _, ea, _, _, p0_, p1_, p2_, p3_, p4_⟩ := HP.out.cells j hlt
                cases ea
                rw [HPE.out] at p0_ p1_ p2_ p3_ p4_
                simp only at p0_ p1_ p2_ p3_ p4_
                have d1 := HGT.out
                go_wp2_with fail
                clear p0_ p1_ p2_ p3_ p4_ d1
                go_roundw
                case rel => exact ⟨j + 1, t + 1, by omega, by omega, by go_num, by go_num, HSU.out, HBR.out⟩
                case measure => simp [intOf]; omega
              · rw [eqP_not hpq] at hlit
                have HSU := Lib.hid (hgo.2 fun y m' e => by
                  rw [HDM.out] at e
                  cases e
                  exact fun h => hpq h.symm)
                clear hgo hpq
                go_wp2_with fail
                obtain ⟨wd, hwd⟩ : ∃ wd, wr.drew = wd := ⟨_, rfl⟩
                have bq : Below wr.heap.size wr wd := by rw [← hwd]; exact (Below.refl _ wr).drew
                replace HX := Lib.hid (HX.out.below bq HX.out.lt)
                replace HQ := Lib.hid (HQ.out.below bq HQ.out.lt)
                replace HT := Lib.hid (HT.out.bel bq)
                replace HB := Lib.hid (HB.out.trans (bq.mono HB.out.size))
                replace HBR := Lib.hid (HBR.out.trans (bq.mono HBR.out.size))
                replace HZ := Lib.hid (HZ.out.step bq)
                replace HP := Lib.hid (HP.out.step bq)
                replace HV := Lib.hid (HV.out.step bq)
                replace HLW := Lib.hid (Nat.le_trans HLW.out bq.size)
                have hwd0 := Below.refl wd.heap.size wd
                refine wpI_start (Below wd.heap.size wd) [0, 1, 2, 3, 4, 5, 6, 7, 8, 9, 10, 11, 12, 13, 14] hmx rfl hwd ?_
                clear hwd bq
                iterate 15 (
                  refine wpI_read (v := ?_) hwd0 rfl (by kernel_rfl) (by kernel_rfl) (by kernel_rfl) (fun _ _ _ h => h) (.inl ⟨by rfl, ?_⟩) ?_
                  rotate_left
                  · intro X hX
                    obtain ⟨_, _, ea, _, _, p0_, p1_, p2_, p3_, p4_⟩ := (HP.out.below hX).cells j hlt
                    cases ea
                    rw [HPE.out] at p0_ p1_ p2_ p3_ p4_
                    simp only at p0_ p1_ p2_ p3_ p4_
                    obtain ⟨_, _, ea, _, _, v0_, v1_, v2_, v3_, v4_⟩ := (HV.out.below hX).cells t hlm
                    cases ea
                    rw [HQE.out] at v0_ v1_ v2_ v3_ v4_
                    simp only at v0_ v1_ v2_ v3_ v4_
                    clear hX
                    go_simp
                    with_reducible rfl
                  try simp only [Act.put, List.setIfInBounds_toArray, List.set_cons_zero, List.set_cons_succ])
                refine wpI_done (by kernel_rfl) ?_
                clear hwd0
                clear hlit
                obtain ⟨_, _, ea, _, _, p0_, p1_, p2_, p3_, p4_⟩ := HP.out.cells j hlt
                cases ea
                rw [HPE.out] at p0_ p1_ p2_ p3_ p4_
                simp only at p0_ p1_ p2_ p3_ p4_
                have d1 := HGT.out
                go_wp2_with fail
                clear p0_ p1_ p2_ p3_ p4_ d1
                go_roundw
                case rel => exact ⟨j + 1, t, by omega, by omega, by go_num, rfl, HSU.out, HBR.out⟩
                case measure => simp [intOf]; omega
            · obtain rfl : t = m := by omega
              have HSU := Lib.hid (show (M.drop t).Sublist (l.drop (j + 1)) from by
                rw [List.drop_of_length_le (by rw [HM.out]; exact Nat.le_refl _)]
                exact List.nil_sublist _)
              go_wp2_with fail
              obtain ⟨wd, hwd⟩ : ∃ wd, wr.drew = wd := ⟨_, rfl⟩
              have bq : Below wr.heap.size wr wd := by rw [← hwd]; exact (Below.refl _ wr).drew
              replace HX := Lib.hid (HX.out.below bq HX.out.lt)
              replace HQ := Lib.hid (HQ.out.below bq HQ.out.lt)
              replace HT := Lib.hid (HT.out.bel bq)
              replace HB := Lib.hid (HB.out.trans (bq.mono HB.out.size))
              replace HBR := Lib.hid (HBR.out.trans (bq.mono HBR.out.size))
              replace HZ := Lib.hid (HZ.out.step bq)
              replace HP := Lib.hid (HP.out.step bq)
              replace HV := Lib.hid (HV.out.step bq)
              replace HLW := Lib.hid (Nat.le_trans HLW.out bq.size)
              have hwd0 := Below.refl wd.heap.size wd
              refine wpI_start (Below wd.heap.size wd) [0, 1, 2, 3, 4, 5, 6, 7, 8, 9, 10, 11, 12, 13, 14] hmx rfl hwd ?_
              clear hwd bq
              iterate 5 (
                refine wpI_read (v := ?_) hwd0 rfl (by kernel_rfl) (by kernel_rfl) (by kernel_rfl) (fun _ _ _ h => h) (.inl ⟨by rfl, ?_⟩) ?_
                rotate_left
                · intro X hX
                  clear hX
                  go_simp
                  with_reducible rfl
                try simp only [Act.put, List.setIfInBounds_toArray, List.set_cons_zero, List.set_cons_succ])
              iterate 9 (
                refine wpI_read (v := undef) hwd0 rfl (by kernel_rfl) (by kernel_rfl) (by kernel_rfl) (fun _ _ _ h => h) (.inr ⟨by rfl, rfl⟩) ?_
                try simp only [Act.put, List.setIfInBounds_toArray, List.set_cons_zero, List.set_cons_succ])
              iterate 1 (
                refine wpI_read (v := ?_) hwd0 rfl (by kernel_rfl) (by kernel_rfl) (by kernel_rfl) (fun _ _ _ h => h) (.inl ⟨by rfl, ?_⟩) ?_
                rotate_left
                · intro X hX
                  clear hX
                  go_simp
                  with_reducible rfl
                try simp only [Act.put, List.setIfInBounds_toArray, List.set_cons_zero, List.set_cons_succ])
              refine wpI_done (by kernel_rfl) ?_
              clear hwd0
              obtain ⟨_, _, ea, _, _, p0_, p1_, p2_, p3_, p4_⟩ := HP.out.cells j hlt
              cases ea
              rw [HPE.out] at p0_ p1_ p2_ p3_ p4_
              simp only at p0_ p1_ p2_ p3_ p4_
              have d1 := HGT.out
              go_wp2_with fail
              clear p0_ p1_ p2_ p3_ p4_ d1
              go_roundw
              case rel => exact ⟨j + 1, t, by omega, by omega, by go_num, rfl, HSU.out, HBR.out⟩
              case measure => simp [intOf]; omega
          · obtain rfl : j = n := by omega
            have hs := HS.out
            rw [List.drop_of_length_le (l := l) (by rw [HN.out]; exact Nat.le_refl _), List.sublist_nil] at hs
            have hs2 := congrArg List.length hs
            rw [List.length_drop, HM.out, List.length_nil] at hs2
            obtain rfl : t = m := by omega
            clear hs hs2
            go_wp2_with fail
            go_ret
            exact ⟨rfl, HB.out⟩
theorem setLater_walk (x : SAt) (S : StL) (p : Pt) (a m : Int) (w : World) (hz : Szs w) (h : Str w w.heap.size x S) (hnear : Near S.1) (hwf : WfS S) (hwp : WfP p) (ha : (Lit.int .u32 a).wf = true) (hm : (Lit.int .u32 m).wf = true) : Calls Tryz.prog 7 #[stV x S, ptV p, .int .u32 a, .int .u32 m] w fun e w' => e = .returned (.bool true) ∧ Below w.heap.size w w' := by
  obtain ⟨a1, rfl, ha1⟩ := u32_wf ha
  obtain ⟨m1, rfl, hm1⟩ := u32_wf hm
  exact setLater_at x S p a1 m1 w hz h hnear hwf hwp ha1 hm1
end Go.Proofs.YtbggkfomfeeikaaGreatDoor
namespace Go.Proofs.YtbggkfomfeeikaaGreatDoor.setLater
open Go.ChangeShapes Go.WideShapes Go.ChangeAt Go.RowKit
set_option linter.unusedVariables false

theorem own : ownKnob Tryz.prog.godebug = none := by kernel_rfl
theorem laidOut : laidOutB Tryz.prog = true := by kernel_rfl

set_option maxRecDepth 100000 in
theorem lifted (os : Os) (started : os.Started) (H : Type) (enc : TypeId × Value → H) :
    ReturnsInHanded {} Tryz.checked os 7 .any (fun w args => (Rows.setLaterSpec.pre enc Tryz.prog Tryz.f7 [] false w args ∧ laidMetH Tryz.prog [("charterhouse/ptr.sizes", Rows.laid_charterhouse_ptr_sizes)] w) ∧ sizedMet enc Tryz.prog Tryz.f7 (OpenSpec.ofChange Rows.setLaterSpec) false w args)
      (Rows.setLaterSpec.post enc Tryz.prog Tryz.f7 false true false false) := by
  refine returnsInHanded_of_change_and (C := Tryz.checked) (X := fun w _ => laidMetH Tryz.prog [("charterhouse/ptr.sizes", Rows.laid_charterhouse_ptr_sizes)] w) (fun _ _ _ hh h => h.of_heap hh) own started (by kernel_rfl) Tryz.func7
    (ChangeSpec.witness_shaped (enc := enc) (C := Tryz.checked) (os := os) (X := fun w _ => laidMetH Tryz.prog [("charterhouse/ptr.sizes", Rows.laid_charterhouse_ptr_sizes)] w) false (World.doorLaid Tryz.prog 400 os) #[.agg #[.slice none 0 0, .slice none 0 0, .slice none 0 0, .int .u32 0, .int .u32 0], .agg #[.int .i64 0, .int .u32 0, .int .u32 0, .int .u32 0, .int .u32 0], .int .u32 0, .int .u32 0] 8 rfl (World.shaped_of_RefB (by kernel_rfl) (by kernel_rfl)) (by kernel_rfl) (by kernel_rfl) (by kernel_rfl) (door_met os _)) ?_
  intro W base args ds gs before hval0 hW _ hsz hL _
  have hval : ∀ (j : Nat) t v, Tryz.f7.params[j]? = some t → args[j]? = some v → Value.okWide Tryz.prog W .any base t v := hval0
  have hW' := hW
  obtain ⟨p, q, hA0, hV, rfl, hfz, hnd⟩ := hW
  have hA : DataW.TrodAll enc Tryz.prog W 0 (fun _ => true) true Tryz.f7.params.toList args.toList ds p := hA0
  rw [Tryz.params7] at hA hval
  obtain ⟨v0, vs0, d0, ds0, p0, q0, hargs, rfl, rfl, h0, r0⟩ := trodAll_cons hA
  obtain ⟨v1, vs1, d1, ds1, p1, q1, rfl, rfl, rfl, h1, r1⟩ := trodAll_cons r0
  obtain ⟨v2, vs2, d2, ds2, p2, q2, rfl, rfl, rfl, h2, r2⟩ := trodAll_cons r1
  obtain ⟨v3, vs3, d3, ds3, p3, q3, rfl, rfl, rfl, h3, r3⟩ := trodAll_cons r2
  obtain ⟨rfl, rfl, rfl⟩ := trodAll_nil r3
  obtain rfl : args = #[v0, v1, v2, v3] := by cases args; simp_all
  obtain ⟨rfl, rfl⟩ := trodVars_none hV
  have k0 := h0
  have lt0 : ∀ x ∈ p0, x.block < W.heap.size := by obtain ⟨m, hm⟩ := k0; exact DataW.trod_lt m _ _ _ hm
  obtain ⟨x0, S0, rfl, w0, m0, f0⟩ := open_store (hval 0 30 v0 rfl rfl) h0 (fun n hn => by
    have := List.all_eq_true.1 hsz n (DataW.weights_mem_each (j := 0) (t := 30) (by kernel_rfl) rfl n hn)
    simpa using this)
  have k1 := h1
  have lt1 : ∀ x ∈ p1, x.block < W.heap.size := by obtain ⟨m, hm⟩ := k1; exact DataW.trod_lt m _ _ _ hm
  obtain ⟨z1, rfl, w1⟩ := open_ptr (hval 1 32 v1 rfl rfl) h1
  obtain ⟨a2, rfl, rfl, rfl, w2⟩ := open_int Tryz.underlying28 (hval 2 28 v2 rfl rfl) h2
  obtain ⟨a3, rfl, rfl, rfl, w3⟩ := open_int Tryz.underlying28 (hval 3 28 v3 rfl rfl) h3
  clear hA0 hval0
  refine (setLater_walk x0 S0 z1 a2 a3 W (szs_of_laid hL) w0 m0 f0 w1 w2 w3).mono fun e W' ⟨he, bel⟩ => ?_
  subst he
  exact ⟨_, rfl, _, _, _, [], _, [], hW', trodAll_mk1 (shut_bool Tryz.underlying4 _), (trodAll_cons_mk (Below.trod laidOut (by kernel_rfl) (of_decide_eq_true (by kernel_rfl)) k0 bel lt0) (trodAll_cons_mk (Below.trod laidOut (by kernel_rfl) (of_decide_eq_true (by kernel_rfl)) k1 bel lt1) (trodAll_cons_mk (shut_int Tryz.underlying28 w2) (trodAll_cons_mk (shut_int Tryz.underlying28 w3) trodAll_mk0)))), rfl, bel.frame _, fun h => by cases h⟩

theorem over : Rows.SetLaterSaid :=
  OpenClaim.holds_of_wide 7 Tryz.f7 rfl rfl rfl rfl rfl rfl rfl ⟨rfl, rfl, rfl, rfl, rfl⟩ rfl rfl rfl rfl rfl (by kernel_rfl) Tryz.func7 (by kernel_rfl)
    (of_decide_eq_true (by kernel_rfl)) (by unfold Func.isWrapper; first | (rw [if_pos (by decide +kernel)]; kernel_rfl) | (rw [if_neg (by decide +kernel)]; exact ⟨rfl, rfl⟩))
    (fun os started H enc _ => lifted os started H enc)

/-- The statement. -/
theorem proved : Rows.SetLaterCardSaid :=
  Claim7.holds_tied_plain_at .later [] [.data] true _ false
    over (fun _ h => by cases h) (by kernel_rfl) (fun _ h => by cases h) setLater_row_tie rfl ⟨rfl, rfl⟩ (by kernel_rfl) rfl
    (fun f fn hf hfn => by
      obtain rfl : f = 7 := Option.some.inj ((show Tryz.prog.funcNamed "charterhouse/charterhouselaw15.SetLater" = some 7 by kernel_rfl).symm.trans hf) |>.symm
      obtain rfl : fn = Tryz.f7 := (Option.some.inj (Tryz.func7.symm.trans hfn)).symm
      exact ⟨by kernel_rfl, fun j t ht => by
        rw [Tryz.params7] at ht
        have hm : t ∈ [30, 32, 28, 28] := by simpa using Array.mem_of_getElem? ht
        have hall : ([30, 32, 28, 28].all fun u => !Tryz.prog.wantsStandIn u) = true := by kernel_rfl
        exact (show Tryz.prog.wantsStandIn t = false by simpa using List.all_eq_true.1 hall t hm)⟩)
    (by kernel_rfl)
end Go.Proofs.YtbggkfomfeeikaaGreatDoor.setLater
