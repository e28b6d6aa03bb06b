/-
  SetPartsSaid: for any store and root (where the store is great the law itself answers what its example answers) all pointers below a root are it, its objects', and their data's, each as its object has it. No condition but the tied one: ptr.sizes reads as its own initialiser lays it.
-/
import Derived.Test.YtbggkfomfeeikaaGreatDoorPkSA5
namespace Go.Proofs.YtbggkfomfeeikaaGreatDoor
open Go.RowKit Go.Shelf
set_option maxRecDepth 100000

set_option linter.unusedSimpArgs false in
set_option maxHeartbeats 16000000 in
theorem setParts_walk (x : SAt) (S : StL) (p : Pt) (w : World) (hz : Szs w) (h : Str w w.heap.size x S) (hnear : Near S.1) (hwf : WfS S) (hwp : WfP p) : Calls Tryz.prog 6 #[stV x S, ptV p] w fun e w' => e = .returned (.bool true) ∧ Below w.heap.size w w' := by
  have hmx : Tryz.prog.follows Departure.mixedOrders = true := by kernel_rfl
  have h := h.lasts (Nat.le_refl _)
  obtain ⟨L, hLe⟩ : ∃ L, w.heap.size = L := ⟨_, rfl⟩
  rw [hLe] at h
  have hL : L ≤ w.heap.size := Nat.le_of_eq hLe.symm
  clear hLe
  obtain ⟨pa, pb, pi, pt, ps⟩ := p
  obtain ⟨w0, hw0, b0, z0, q1, q2⟩ := two_al w (stC x S) (ptA (pa, pb, pi, pt, ps)) 30 32
  obtain ⟨g, hg⟩ : ∃ g, w.heap.size = g := ⟨_, rfl⟩
  obtain ⟨g1, hg1⟩ : ∃ g1, g + 1 = g1 := ⟨_, rfl⟩
  rw [hg] at q1 q2
  rw [hg1] at q2
  have HX := Lib.hid q1
  have HQ := Lib.hid q2
  have HT := Lib.hid (h.bel b0)
  have HB := Lib.hid b0
  have HLW := Lib.hid (show L ≤ w0.heap.size from Nat.le_trans hL b0.size)
  simp only [stC, ptA] at hw0
  clear h b0 z0 q1 q2 hL
  have HZ := Lib.hid (hz.step HB.out)
  have HWF := Lib.hid hwf
  have HWP := Lib.hid hwp
  have HNE := Lib.hid hnear
  clear hwf hwp hz hnear
  go_enter Tryz.func6, Tryz.ntmps6
  go_wp2_with fail
  try rw [hw0]
  try rw [hg]
  try rw [hg1]
  clear hw0 hg hg1
  refine (seAlive_any w0 HZ.out).mono ?_
  rintro e w1 ⟨rfl, b1⟩
  replace HX := Lib.hid (HX.out.below b1 HX.out.lt)
  replace HQ := Lib.hid (HQ.out.below b1 HQ.out.lt)
  replace HT := Lib.hid (HT.out.bel b1)
  replace HB := Lib.hid (HB.out.trans (b1.mono HB.out.size))
  replace HZ := Lib.hid (HZ.out.step b1)
  replace HLW := Lib.hid (Nat.le_trans HLW.out b1.size)
  clear b1
  obtain ⟨⟨al, le⟩, hle⟩ : ∃ o, walkSO S (pa, pb, pi, pt, ps) 0 = o := ⟨_, rfl⟩
  obtain ⟨n, hn⟩ : ∃ n, al.length = n := ⟨_, rfl⟩
  have HLE := Lib.hid hle
  have HN := Lib.hid hn
  clear hle hn
  have d0 := bx0 HX.out
  have d1 := bx1 HX.out
  have d2 := bx2 HX.out
  have d3 := bx3 HX.out
  have d4 := bx4 HX.out
  have q0 := bx0 HQ.out
  have q1 := bx1 HQ.out
  have q2 := bx2 HQ.out
  have q3 := bx3 HQ.out
  have q4 := bx4 HQ.out
  have hwc := setWalk_any L x S (pa, pb, pi, pt, ps) 0 w1 HT.out HWF.out HWP.out (by omega) HLW.out HZ.out
  rw [HLE.out] at hwc
  have HWC := Lib.hid hwc
  clear hwc
  go_wp2_with fail
  clear d0 d1 d2 d3 d4
  clear q0 q1 q2 q3 q4
  refine HWC.out.mono ?_
  rintro e w2 ⟨a2, c2, rfl, ht, _, bq⟩
  simp only [HN.out] at ht ⊢
  replace HX := Lib.hid (HX.out.below bq HX.out.lt)
  replace HQ := Lib.hid (HQ.out.below bq HQ.out.lt)
  replace HT := Lib.hid (HT.out.bel bq)
  replace HB := Lib.hid (HB.out.trans (bq.mono HB.out.size))
  replace HZ := Lib.hid (HZ.out.step bq)
  replace HLW := Lib.hid (Nat.le_trans HLW.out bq.size)
  have HP := Lib.hid ht
  have kn := ht.len_le
  have jn : (0 : Int) ≤ n := by omega
  clear bq ht HWC
  have d0 := bx0 HX.out
  have d1 := bx1 HX.out
  have d2 := bx2 HX.out
  have d3 := bx3 HX.out
  have d4 := bx4 HX.out
  have HG := Lib.hid (rtGreat_any L x S w2 HT.out HNE.out)
  go_wp2_with fail
  clear d0 d1 d2 d3 d4
  refine HG.out.mono ?_
  rintro e w3 ⟨gr, rfl, _, b3⟩
  replace HX := Lib.hid (HX.out.below b3 HX.out.lt)
  replace HQ := Lib.hid (HQ.out.below b3 HQ.out.lt)
  replace HT := Lib.hid (HT.out.bel b3)
  replace HB := Lib.hid (HB.out.trans (b3.mono HB.out.size))
  replace HZ := Lib.hid (HZ.out.step b3)
  replace HP := Lib.hid (HP.out.step b3)
  replace HLW := Lib.hid (Nat.le_trans HLW.out b3.size)
  clear b3 HG
  rcases walk_cases S (pa, pb, pi, pt, ps) 0 with ⟨e, he, hne⟩ | ⟨l', hl, hms, hmp, hyo⟩
  · rw [HLE.out] at he
    cases he
    obtain rfl : n = 0 := by rw [← HN.out]; rfl
    have e1 : ((le : Int) != 0) = true := by simp; omega
    have e2 : ((le : Int) == 0) = false := by simp; omega
    clear hne
    cases gr with
    | true =>
      go_wp2_with fail
      go_ret
      exact ⟨rfl, HB.out⟩
    | false =>
      go_wp2_with fail
      go_ret
      exact ⟨rfl, HB.out⟩
  · rw [HLE.out] at hl
    cases hl
    have ez : (((0 : Nat) : Int)) = 0 := rfl
    rw [ez]
    clear ez
    cases gr with
    | true =>
      go_wp2_with fail
      go_ret
      exact ⟨rfl, HB.out⟩
    | false =>
      by_cases hp0 : ((pa, pb, pi, pt, ps) : Pt) = p0
      · have hlit := eqPt_zero pa pb pi pt ps
        rw [(eqP_iff _ _).2 hp0] at hlit
        have hn0 : n = 0 := by
          have : youngSO S (pa, pb, pi, pt, ps) 0 = ([], 0) := by unfold youngSO; rw [hp0, if_pos (yng_p0 0)]
          rw [hyo] at this
          cases this
          exact HN.out.symm
        subst hn0
        clear hp0 hyo
        have q0 := bx0 HQ.out
        have q1 := bx1 HQ.out
        have q2 := bx2 HQ.out
        have q3 := bx3 HQ.out
        have q4 := bx4 HQ.out
        go_wp2_with fail
        go_ret
        exact ⟨rfl, HB.out⟩
      · have hlit := eqPt_zero pa pb pi pt ps
        rw [eqP_not hp0] at hlit
        have hy0 := yng_may hmp hp0
        rcases youngSO_cases S (pa, pb, pi, pt, ps) 0 with ⟨h1, _⟩ | ⟨e, h1, h2, _⟩ | ⟨LL, _, hr, h16, hwl, hml, herr, h1⟩
        · exact absurd hy0 h1
        · rw [hyo] at h1
          cases h1
          exact absurd rfl h2
        · rw [hyo] at h1
          cases h1
          have HMS := Lib.hid hms
          have HMP := Lib.hid hmp
          have HR := Lib.hid hr
          have HL16 := Lib.hid h16
          have HWL := Lib.hid hwl
          have HML := Lib.hid hml
          have HER := Lib.hid herr
          have HPS := Lib.hid (show ptrsSO S (pa, pb, pi, pt, ps) = (LL, 0) by rw [ptrsSO_may hms hmp, hr])
          have hnp : 0 < n := by rw [← HN.out]; simp
          clear hp0 hyo hy0 hms hmp hr h16 hwl hml herr
          have d0 := bx0 HX.out
          have d1 := bx1 HX.out
          have d2 := bx2 HX.out
          have d3 := bx3 HX.out
          have d4 := bx4 HX.out
          have q0 := bx0 HQ.out
          have q1 := bx1 HQ.out
          have q2 := bx2 HQ.out
          have q3 := bx3 HQ.out
          have q4 := bx4 HQ.out
          have hpc := setPtrs_any L x S (pa, pb, pi, pt, ps) w3 HT.out HWF.out HWP.out HLW.out HZ.out
          rw [HPS.out] at hpc
          have HPC := Lib.hid hpc
          clear hpc
          go_wp2_with fail
          clear d0 d1 d2 d3 d4
          clear q0 q1 q2 q3 q4
          clear hlit
          refine HPC.out.mono ?_
          rintro e w4 ⟨a4, c4, rfl, ht, _, bq⟩
          simp only [HL16.out] at ht ⊢
          replace HX := Lib.hid (HX.out.below bq HX.out.lt)
          replace HQ := Lib.hid (HQ.out.below bq HQ.out.lt)
          replace HT := Lib.hid (HT.out.bel bq)
          replace HB := Lib.hid (HB.out.trans (bq.mono HB.out.size))
          replace HZ := Lib.hid (HZ.out.step bq)
          replace HP := Lib.hid (HP.out.step bq)
          replace HLW := Lib.hid (Nat.le_trans HLW.out bq.size)
          have HV := Lib.hid ht
          clear bq ht HPC
          have ez : (((0 : Nat) : Int)) = 0 := rfl
          rw [ez]
          clear ez
          go_wp2_with fail
          obtain ⟨ba, oa, ea, _⟩ := HP.out.cells 0 hnp
          subst ea
          have nn0 : ((n : Int) == 0) = false := by simp; omega
          have hlip := eqPt_lit pa pb pi pt ps pa pb pi pt ps
          rw [eqP_yes] at hlip
          have HA0 := Lib.hid (show (((pa, pb, pi, pt, ps) : Pt) :: LL.flatMap (chunkS S 0)).getD 0 p0 = (pa, pb, pi, pt, ps) from rfl)
          obtain ⟨w5, hwd⟩ : ∃ wd, w4.drew = wd := ⟨_, rfl⟩
          have bq : Below w4.heap.size w4 w5 := by rw [← hwd]; exact (Below.refl _ w4).drew
          replace HX := Lib.hid (HX.out.below bq HX.out.lt)
          replace HQ := Lib.hid (HQ.out.below bq HQ.out.lt)
          replace HT := Lib.hid (HT.out.bel bq)
          replace HB := Lib.hid (HB.out.trans (bq.mono HB.out.size))
          replace HZ := Lib.hid (HZ.out.step bq)
          replace HP := Lib.hid (HP.out.step bq)
          replace HV := Lib.hid (HV.out.step bq)
          replace HLW := Lib.hid (Nat.le_trans HLW.out bq.size)
          have hwd0 := Below.refl w5.heap.size w5
          refine wpI_start (Below w5.heap.size w5) [0, 1, 2, 3, 4, 5, 6, 7, 8, 9, 10, 11, 12, 13, 14, 15, 16, 17, 18] hmx rfl hwd ?_
          clear hwd bq
          iterate 19 (
            refine wpI_read (v := ?_) hwd0 rfl (by kernel_rfl) (by kernel_rfl) (by kernel_rfl) (fun _ _ _ h => h) (.inl ⟨by rfl, ?_⟩) ?_
            rotate_left
            · intro X hX
              have q0 := bx0 (HQ.out.below hX HQ.out.lt)
              have q1 := bx1 (HQ.out.below hX HQ.out.lt)
              have q2 := bx2 (HQ.out.below hX HQ.out.lt)
              have q3 := bx3 (HQ.out.below hX HQ.out.lt)
              have q4 := bx4 (HQ.out.below hX HQ.out.lt)
              obtain ⟨_, _, ea, _, _, v0_, v1_, v2_, v3_, v4_⟩ := (HP.out.below hX).cells 0 hnp
              cases ea
              rw [HA0.out] at v0_ v1_ v2_ v3_ v4_
              simp only at v0_ v1_ v2_ v3_ v4_
              rw [Nat.zero_mul, Nat.add_zero] at v0_ v1_ v2_ v3_ v4_
              clear hX
              go_simp
              with_reducible rfl
            try simp only [Act.put, List.setIfInBounds_toArray, List.set_cons_zero, List.set_cons_succ])
          refine wpI_done (by kernel_rfl) ?_
          clear hwd0 hlip nn0 HA0
          go_wp2_with fail
          go_loopw [10, 11] (fun v i wr => ∃ j t : Nat, j ≤ 16 ∧ i = .int .i64 j ∧ v = .int .i64 t ∧ t = 1 + ((LL.take j).flatMap (chunkS S 0)).length ∧ Below w5.heap.size w5 wr) (fun _ i _ => 16 - (intOf i).toNat)
          case atStart => exact ⟨0, 1, Nat.zero_le _, rfl, rfl, rfl, Below.refl _ _⟩
          case round =>
            obtain ⟨j, t, hj, rfl, rfl, hte, hb⟩ := hrel
            have HBR := Lib.hid hb
            have HTE := Lib.hid hte
            replace HX := Lib.hid (HX.out.below hb HX.out.lt)
            replace HQ := Lib.hid (HQ.out.below hb HQ.out.lt)
            replace HT := Lib.hid (HT.out.bel hb)
            replace HB := Lib.hid (HB.out.trans (hb.mono HB.out.size))
            replace HZ := Lib.hid (HZ.out.step hb)
            replace HP := Lib.hid (HP.out.step hb)
            replace HV := Lib.hid (HV.out.step hb)
            replace HLW := Lib.hid (Nat.le_trans HLW.out hb.size)
            have j0 : (0 : Int) ≤ j := by omega
            have t0 : (0 : Int) ≤ t := by omega
            clear hb hte
            by_cases hlt : j < 16
            · have j1 : (j : Int) < 16 := by omega
              have hoc := setObject_any L x S (pa, pb, pi, pt, ps) (j : Int) wr HT.out HWF.out HWP.out HLW.out HZ.out (by omega)
              rw [objSO_at HMS.out HMP.out hlt HR.out] at hoc
              obtain ⟨bv, ov, ev, _⟩ := HV.out.cells j hlt
              obtain ⟨P, hP⟩ : ∃ X, LL.getD j p0 = X := ⟨_, rfl⟩
              have hmem : LL.getD j p0 ∈ LL := by
                rw [List.getD_eq_getElem?_getD, List.getElem?_eq_getElem (by rw [HL16.out]; exact hlt)]
                exact List.getElem_mem _
              have hmpP := HML.out _ hmem
              have herP := HER.out _ hmem
              rw [hP] at hoc hmpP herP
              have HPE := Lib.hid hP
              subst ev
              clear hP hmem
              obtain ⟨⟨⟨k5, l5, r5, L5⟩, z5⟩, hoe⟩ : ∃ o, oneSO S P = o := ⟨_, rfl⟩
              rw [hoe] at hoc herP
              obtain ⟨n5, hn5⟩ : ∃ n, L5.length = n := ⟨_, rfl⟩
              have HOC := Lib.hid hoc
              have HOE := Lib.hid hoe
              have HN5 := Lib.hid hn5
              clear hoc hoe hn5
              have d0 := bx0 HX.out
              have d1 := bx1 HX.out
              have d2 := bx2 HX.out
              have d3 := bx3 HX.out
              have d4 := bx4 HX.out
              have q0 := bx0 HQ.out
              have q1 := bx1 HQ.out
              have q2 := bx2 HQ.out
              have q3 := bx3 HQ.out
              have q4 := bx4 HQ.out
              go_wp2_with fail
              clear d0 d1 d2 d3 d4
              clear q0 q1 q2 q3 q4
              refine HOC.out.mono ?_
              rintro e w6 ⟨a5, c5, rfl, ht5, _, bq⟩
              simp only [HN5.out] at ht5 ⊢
              replace HX := Lib.hid (HX.out.below bq HX.out.lt)
              replace HQ := Lib.hid (HQ.out.below bq HQ.out.lt)
              replace HT := Lib.hid (HT.out.bel bq)
              replace HB := Lib.hid (HB.out.trans (bq.mono HB.out.size))
              replace HBR := Lib.hid (HBR.out.trans (bq.mono HBR.out.size))
              replace HZ := Lib.hid (HZ.out.step bq)
              replace HP := Lib.hid (HP.out.step bq)
              replace HV := Lib.hid (HV.out.step bq)
              replace HLW := Lib.hid (Nat.le_trans HLW.out bq.size)
              have HD := Lib.hid ht5
              have m9 := ht5.len_le
              have m0 : (0 : Int) ≤ n5 := by omega
              clear bq ht5 HOC
              obtain ⟨w7, hn, hg7, bq, xo⟩ : ∃ X, w6.alloc (.cells #[.int .u8 (k5 : Int), .int .i64 l5, .int .i64 r5, .slice a5 n5 c5] 40) = X ∧ X.heap.size = w6.heap.size + 1 ∧ Below w6.heap.size w6 X ∧ Blk X w6.heap.size 40 #[.int .u8 (k5 : Int), .int .i64 l5, .int .i64 r5, .slice a5 n5 c5] := ⟨_, rfl, World.size_alloc .., (Below.refl _ _).alloc (Nat.le_refl _) _, Blk.new _ _ _⟩
              obtain ⟨g7, hg⟩ : ∃ X, w6.heap.size = X := ⟨_, rfl⟩
              replace HX := Lib.hid (HX.out.below bq HX.out.lt)
              replace HQ := Lib.hid (HQ.out.below bq HQ.out.lt)
              replace HT := Lib.hid (HT.out.bel bq)
              replace HB := Lib.hid (HB.out.trans (bq.mono HB.out.size))
              replace HBR := Lib.hid (HBR.out.trans (bq.mono HBR.out.size))
              replace HZ := Lib.hid (HZ.out.step bq)
              replace HP := Lib.hid (HP.out.step bq)
              replace HV := Lib.hid (HV.out.step bq)
              replace HD := Lib.hid (HD.out.step bq)
              replace HLW := Lib.hid (Nat.le_trans HLW.out bq.size)
              rw [hg] at xo
              have HO := Lib.hid xo
              obtain ⟨_, _, ea, _, _, v0_, v1_, v2_, v3_, v4_⟩ := HV.out.cells j hlt
              cases ea
              rw [HPE.out] at v0_ v1_ v2_ v3_ v4_
              clear xo hg7 bq
              by_cases hP0 : P = p0
              · have hz6 : z5 = 6 := by
                  have := HOE.out
                  rw [hP0, oneSO_none] at this
                  cases this
                  rfl
                subst hz6
                have hlit := eqPt_zero P.1 P.2.1 P.2.2.1 P.2.2.2.1 P.2.2.2.2
                have hyes : eqP (P.1, P.2.1, P.2.2.1, P.2.2.2.1, P.2.2.2.2) p0 = true := (eqP_iff _ _).2 hP0
                rw [hyes] at hlit
                have e6 : (((6 : Nat) : Int)) = 6 := rfl
                have HEQ := Lib.hid (show t = 1 + ((LL.take (j + 1)).flatMap (chunkS S 0)).length by
                  rw [flat_take (by rw [HL16.out]; exact hlt), HPE.out, hP0, HTE.out]
                  unfold chunkS
                  rw [if_neg (yng_p0 0)]
                  rfl)
                clear hP0 hyes hmpP herP
                rw [e6]
                clear e6
                go_wp2_with fail
                try rw [hn]
                try rw [hg]
                clear v0_ v1_ v2_ v3_ v4_ hlit hn hg
                go_roundw
                case rel => exact ⟨j + 1, t, by omega, by go_num, rfl, HEQ.out, HBR.out⟩
                case measure => simp [intOf]; omega
              · have hyP := yng_may hmpP hP0
                obtain rfl : z5 = 0 := herP hyP
                obtain ⟨ya, yb, yi, yt, ys⟩ := P
                have hlit := eqPt_zero ya yb yi yt ys
                rw [eqP_not hP0] at hlit
                simp only at v0_ v1_ v2_ v3_ v4_
                have hmo : MayOb (k5, l5, r5, L5) := by
                  rcases oneSO_cases S (ya, yb, yi, yt, ys) with ⟨e, h1, h2⟩ | ⟨O, h1, h2, _⟩
                  · rw [HOE.out] at h1
                    cases h1
                    exact absurd rfl h2
                  · rw [HOE.out] at h1
                    cases h1
                    exact h2
                have HMO := Lib.hid hmo
                have hch : chunkS S 0 (ya, yb, yi, yt, ys) = (ya, yb, yi, yt, ys) :: dataY 0 L5 := by
                  unfold chunkS
                  rw [if_pos hyP, HOE.out]
                have HCH := Lib.hid hch
                obtain ⟨q1, q2⟩ := all_at (L := LL) (f := chunkS S 0) (pa, pb, pi, pt, ps) (j := j) (k := 0) (by rw [HL16.out]; exact hlt) (by rw [HPE.out, hch]; simp)
                rw [HPE.out, hch, Nat.add_zero, ← HTE.out] at q2
                rw [Nat.add_zero, ← HTE.out, HN.out] at q1
                have HAT := Lib.hid (show (((pa, pb, pi, pt, ps) : Pt) :: LL.flatMap (chunkS S 0)).getD t p0 = (ya, yb, yi, yt, ys) from q2)
                have htn : t < n := q1
                have HTN := Lib.hid htn
                have hlip := eqPt_lit ya yb yi yt ys ya yb yi yt ys
                rw [eqP_yes] at hlip
                have d1 : decide ((n : Int) ≤ (t : Int)) = false := decide_eq_false (by omega)
                have d1n : decide (n ≤ t) = false := decide_eq_false (by omega)
                have HLIP := Lib.hid hlip
                have HD1 := Lib.hid (And.intro d1 d1n)
                clear hP0 hyP hmpP herP hmo hch q1 q2 hlip d1 d1n htn
                have ez : (((0 : Nat) : Int)) = 0 := rfl
                rw [ez]
                clear ez
                go_wp2_with fail
                try rw [hn]
                try rw [hg]
                clear v0_ v1_ v2_ v3_ v4_ hlit hn hg
                have hlip := HLIP.out
                have d1 := HD1.out.1
                have d1n := HD1.out.2
                obtain ⟨w8, hwd⟩ : ∃ wd, w7.drew = wd := ⟨_, rfl⟩
                have bq : Below w7.heap.size w7 w8 := by rw [← hwd]; exact (Below.refl _ w7).drew
                replace HX := Lib.hid (HX.out.below bq HX.out.lt)
                replace HQ := Lib.hid (HQ.out.below bq HQ.out.lt)
                replace HT := Lib.hid (HT.out.bel bq)
                replace HB := Lib.hid (HB.out.trans (bq.mono HB.out.size))
                replace HBR := Lib.hid (HBR.out.trans (bq.mono HBR.out.size))
                replace HO := Lib.hid (HO.out.below bq HO.out.lt)
                replace HZ := Lib.hid (HZ.out.step bq)
                replace HP := Lib.hid (HP.out.step bq)
                replace HV := Lib.hid (HV.out.step bq)
                replace HD := Lib.hid (HD.out.step bq)
                replace HLW := Lib.hid (Nat.le_trans HLW.out bq.size)
                have hwd0 := Below.refl w8.heap.size w8
                refine wpI_start (Below w8.heap.size w8) [0, 1, 2, 3, 4, 5, 6, 7, 8, 9, 10, 11, 12, 13, 14, 15, 16, 17, 18] hmx rfl hwd ?_
                clear hwd bq
                iterate 19 (
                  refine wpI_read (v := ?_) hwd0 rfl (by kernel_rfl) (by kernel_rfl) (by kernel_rfl) (fun _ _ _ h => h) (.inl ⟨by rfl, ?_⟩) ?_
                  rotate_left
                  · intro X hX
                    have h1_ := HTN.out
                    obtain ⟨_, _, ea, _, _, p0_, p1_, p2_, p3_, p4_⟩ := (HP.out.below hX).cells t HTN.out
                    cases ea
                    rw [HAT.out] at p0_ p1_ p2_ p3_ p4_
                    simp only at p0_ p1_ p2_ p3_ p4_
                    obtain ⟨_, _, ea, _, _, v0_, v1_, v2_, v3_, v4_⟩ := (HV.out.below hX).cells j hlt
                    cases ea
                    rw [HPE.out] at v0_ v1_ v2_ v3_ v4_
                    simp only at v0_ v1_ v2_ v3_ v4_
                    clear hX
                    go_simp
                    with_reducible rfl
                  try simp only [Act.put, List.setIfInBounds_toArray, List.set_cons_zero, List.set_cons_succ])
                refine wpI_done (by kernel_rfl) ?_
                clear hwd0 hlip d1 d1n HLIP HD1
                have t9 : (t : Int) + 1 ≤ 9223372036854775807 := by have := HTN.out; omega
                go_wp2_with fail
                clear t9
                go_loopw [10, 14] (fun v i wr => ∃ k u : Nat, k ≤ n5 ∧ i = .int .i64 k ∧ v = .int .i64 u ∧ u = t + 1 + (dataY 0 (L5.take k)).length ∧ Below w8.heap.size w8 wr) (fun _ i _ => n5 - (intOf i).toNat)
                case atStart => exact ⟨0, t + 1, Nat.zero_le _, rfl, by go_num, rfl, Below.refl _ _⟩
                case round =>
                  obtain ⟨k, u, hk, rfl, rfl, hue, hb⟩ := hrel
                  have HB8 := Lib.hid hb
                  have HUE := Lib.hid hue
                  replace HX := Lib.hid (HX.out.below hb HX.out.lt)
                  replace HQ := Lib.hid (HQ.out.below hb HQ.out.lt)
                  replace HT := Lib.hid (HT.out.bel hb)
                  replace HB := Lib.hid (HB.out.trans (hb.mono HB.out.size))
                  replace HBR := Lib.hid (HBR.out.trans (hb.mono HBR.out.size))
                  replace HO := Lib.hid (HO.out.below hb HO.out.lt)
                  replace HZ := Lib.hid (HZ.out.step hb)
                  replace HP := Lib.hid (HP.out.step hb)
                  replace HV := Lib.hid (HV.out.step hb)
                  replace HD := Lib.hid (HD.out.step hb)
                  replace HLW := Lib.hid (Nat.le_trans HLW.out hb.size)
                  have i0 : (0 : Int) ≤ k := by omega
                  have u0 : (0 : Int) ≤ u := by omega
                  have o3 := ox3 HO.out
                  clear hb hue
                  by_cases hkt : k < n5
                  · have i1 : (k : Int) < n5 := by omega
                    obtain ⟨b5, o5, ea, _, _, v0_, v1_, v2_, v3_, v4_⟩ := HD.out.cells k hkt
                    subst ea
                    obtain ⟨Q, hQ⟩ : ∃ X, L5.getD k p0 = X := ⟨_, rfl⟩
                    rw [hQ] at v0_ v1_ v2_ v3_ v4_
                    have HQE := Lib.hid hQ
                    have hfa := filter_at (al := L5) (f := fun q => decide (Yng 0 q)) (i := k) (by rw [HN5.out]; exact hkt)
                    have hmq : MayP Q := by
                      rw [← hQ, List.getD_eq_getElem?_getD, List.getElem?_eq_getElem (by rw [HN5.out]; exact hkt)]
                      exact HMO.out.2 _ (List.getElem_mem _)
                    rw [hQ] at hfa
                    clear hQ
                    by_cases hQ0 : Q = p0
                    · have hlit := eqPt_zero Q.1 Q.2.1 Q.2.2.1 Q.2.2.2.1 Q.2.2.2.2
                      have hyes : eqP (Q.1, Q.2.1, Q.2.2.1, Q.2.2.2.1, Q.2.2.2.2) p0 = true := (eqP_iff _ _).2 hQ0
                      rw [hyes] at hlit
                      have HEQ := Lib.hid (show u = t + 1 + (dataY 0 (L5.take (k + 1))).length by
                        have := hfa.1 (decide_eq_false (by rw [hQ0]; exact yng_p0 0))
                        unfold dataY
                        rw [this]
                        exact HUE.out)
                      clear hQ0 hyes hfa hmq
                      go_wp2_with fail
                      clear v0_ v1_ v2_ v3_ v4_ hlit o3
                      go_roundw
                      case rel => exact ⟨k + 1, u, by omega, by go_num, rfl, HEQ.out, HB8.out⟩
                      case measure => simp [intOf]; omega
                    · obtain ⟨ua, ub, ui, ut, us⟩ := Q
                      have hlit := eqPt_zero ua ub ui ut us
                      rw [eqP_not hQ0] at hlit
                      simp only at v0_ v1_ v2_ v3_ v4_
                      obtain ⟨e1, e2, e3⟩ := hfa.2 (decide_eq_true (yng_may hmq hQ0))
                      have hck : 1 + ((L5.take k).filter fun q => decide (Yng 0 q)).length < (chunkS S 0 (LL.getD j p0)).length := by
                        rw [HPE.out, HCH.out, List.length_cons]
                        unfold dataY
                        omega
                      obtain ⟨s1, s2⟩ := all_at (L := LL) (f := chunkS S 0) (pa, pb, pi, pt, ps) (j := j) (by rw [HL16.out]; exact hlt) hck
                      have hu : 1 + ((LL.take j).flatMap (chunkS S 0)).length + (1 + ((L5.take k).filter fun q => decide (Yng 0 q)).length) = u := by
                        rw [HUE.out, HTE.out]
                        unfold dataY
                        omega
                      rw [hu] at s1 s2
                      rw [HN.out] at s1
                      rw [HPE.out, HCH.out, Nat.add_comm 1, List.getD_cons_succ] at s2
                      have HAU := Lib.hid (show (((pa, pb, pi, pt, ps) : Pt) :: LL.flatMap (chunkS S 0)).getD u p0 = (ua, ub, ui, ut, us) from s2.trans e3)
                      have hun : u < n := s1
                      have HEQ := Lib.hid (show u + 1 = t + 1 + (dataY 0 (L5.take (k + 1))).length by
                        have := HUE.out
                        unfold dataY at this ⊢
                        rw [e1]
                        omega)
                      have hlip := eqPt_lit ua ub ui ut us ua ub ui ut us
                      rw [eqP_yes] at hlip
                      have HLIP := Lib.hid hlip
                      have HUN := Lib.hid hun
                      have HD1 := Lib.hid (And.intro (show decide ((n : Int) ≤ (u : Int)) = false from decide_eq_false (by omega)) (show decide (n ≤ u) = false from decide_eq_false (by omega)))
                      clear hQ0 hfa hmq e1 e2 e3 hck s1 s2 hu hlip hun
                      go_wp2_with fail
                      clear v0_ v1_ v2_ v3_ v4_ hlit o3
                      have hlip := HLIP.out
                      have d1 := HD1.out.1
                      have d1n := HD1.out.2
                      obtain ⟨w9, hwd⟩ : ∃ wd, wr.drew = wd := ⟨_, rfl⟩
                      have bq : Below wr.heap.size wr w9 := by rw [← hwd]; exact (Below.refl _ wr).drew
                      replace HX := Lib.hid (HX.out.below bq HX.out.lt)
                      replace HQ := Lib.hid (HQ.out.below bq HQ.out.lt)
                      replace HT := Lib.hid (HT.out.bel bq)
                      replace HB := Lib.hid (HB.out.trans (bq.mono HB.out.size))
                      replace HBR := Lib.hid (HBR.out.trans (bq.mono HBR.out.size))
                      replace HO := Lib.hid (HO.out.below bq HO.out.lt)
                      replace HB8 := Lib.hid (HB8.out.trans (bq.mono HB8.out.size))
                      replace HZ := Lib.hid (HZ.out.step bq)
                      replace HP := Lib.hid (HP.out.step bq)
                      replace HV := Lib.hid (HV.out.step bq)
                      replace HD := Lib.hid (HD.out.step bq)
                      replace HLW := Lib.hid (Nat.le_trans HLW.out bq.size)
                      have hwd0 := Below.refl w9.heap.size w9
                      refine wpI_start (Below w9.heap.size w9) [0, 1, 2, 3, 4, 5, 6, 7, 8, 9, 10, 11, 12, 13, 14, 15] hmx rfl hwd ?_
                      clear hwd bq
                      iterate 16 (
                        refine wpI_read (v := ?_) hwd0 rfl (by kernel_rfl) (by kernel_rfl) (by kernel_rfl) (fun _ _ _ h => h) (.inl ⟨by rfl, ?_⟩) ?_
                        rotate_left
                        · intro X hX
                          have h1_ := HUN.out
                          have o3 := ox3 (HO.out.below hX HO.out.lt)
                          obtain ⟨_, _, ea, _, _, p0_, p1_, p2_, p3_, p4_⟩ := (HP.out.below hX).cells u HUN.out
                          cases ea
                          rw [HAU.out] at p0_ p1_ p2_ p3_ p4_
                          simp only at p0_ p1_ p2_ p3_ p4_
                          obtain ⟨_, _, ea, _, _, v0_, v1_, v2_, v3_, v4_⟩ := (HD.out.below hX).cells k hkt
                          cases ea
                          rw [HQE.out] at v0_ v1_ v2_ v3_ v4_
                          simp only at v0_ v1_ v2_ v3_ v4_
                          clear hX
                          go_simp
                          with_reducible rfl
                        try simp only [Act.put, List.setIfInBounds_toArray, List.set_cons_zero, List.set_cons_succ])
                      refine wpI_done (by kernel_rfl) ?_
                      clear hwd0 hlip d1 d1n
                      have t9 : (u : Int) + 1 ≤ 9223372036854775807 := by have := HUN.out; omega
                      go_wp2_with fail
                      clear t9
                      go_roundw
                      case rel => exact ⟨k + 1, u + 1, by omega, by go_num, by go_num, HEQ.out, HB8.out⟩
                      case measure => simp [intOf]; omega
                  · obtain rfl : k = n5 := by omega
                    have HEQ := Lib.hid (show u = 1 + ((LL.take (j + 1)).flatMap (chunkS S 0)).length by
                      have h2 := HUE.out
                      rw [List.take_of_length_le (by rw [HN5.out]; exact Nat.le_refl _)] at h2
                      rw [flat_take (by rw [HL16.out]; exact hlt), HPE.out, HCH.out, List.length_cons, h2, HTE.out]
                      omega)
                    go_wp2_with fail
                    go_roundw
                    case rel => exact ⟨j + 1, u, by omega, by go_num, rfl, HEQ.out, HBR.out⟩
                    case measure => simp [intOf]; omega
            · obtain rfl : j = 16 := by omega
              have hte := HTE.out
              rw [List.take_of_length_le (by rw [HL16.out]; exact Nat.le_refl _)] at hte
              have hnn := HN.out
              rw [List.length_cons] at hnn
              obtain rfl : t = n := by omega
              clear hte hnn
              go_wp2_with fail
              go_ret
              exact ⟨rfl, HB.out⟩
end Go.Proofs.YtbggkfomfeeikaaGreatDoor
namespace Go.Proofs.YtbggkfomfeeikaaGreatDoor.setParts
open Go.ChangeShapes Go.WideShapes Go.ChangeAt Go.RowKit
set_option linter.unusedVariables false

theorem own : ownKnob Tryz.prog.godebug = none := by kernel_rfl
theorem laidOut : laidOutB Tryz.prog = true := by kernel_rfl

set_option maxRecDepth 100000 in
theorem lifted (os : Os) (started : os.Started) (H : Type) (enc : TypeId × Value → H) :
    ReturnsInHanded {} Tryz.checked os 6 .any (fun w args => (Rows.setPartsSpec.pre enc Tryz.prog Tryz.f6 [] false w args ∧ laidMetH Tryz.prog [("charterhouse/ptr.sizes", Rows.laid_charterhouse_ptr_sizes)] w) ∧ sizedMet enc Tryz.prog Tryz.f6 (OpenSpec.ofChange Rows.setPartsSpec) false w args)
      (Rows.setPartsSpec.post enc Tryz.prog Tryz.f6 false true false false) := by
  refine returnsInHanded_of_change_and (C := Tryz.checked) (X := fun w _ => laidMetH Tryz.prog [("charterhouse/ptr.sizes", Rows.laid_charterhouse_ptr_sizes)] w) (fun _ _ _ hh h => h.of_heap hh) own started (by kernel_rfl) Tryz.func6
    (ChangeSpec.witness_shaped (enc := enc) (C := Tryz.checked) (os := os) (X := fun w _ => laidMetH Tryz.prog [("charterhouse/ptr.sizes", Rows.laid_charterhouse_ptr_sizes)] w) false (World.doorLaid Tryz.prog 400 os) #[.agg #[.slice none 0 0, .slice none 0 0, .slice none 0 0, .int .u32 0, .int .u32 0], .agg #[.int .i64 0, .int .u32 0, .int .u32 0, .int .u32 0, .int .u32 0]] 8 rfl (World.shaped_of_RefB (by kernel_rfl) (by kernel_rfl)) (by kernel_rfl) (by kernel_rfl) (by kernel_rfl) (door_met os _)) ?_
  intro W base args ds gs before hval0 hW _ hsz hL _
  have hval : ∀ (j : Nat) t v, Tryz.f6.params[j]? = some t → args[j]? = some v → Value.okWide Tryz.prog W .any base t v := hval0
  have hW' := hW
  obtain ⟨p, q, hA0, hV, rfl, hfz, hnd⟩ := hW
  have hA : DataW.TrodAll enc Tryz.prog W 0 (fun _ => true) true Tryz.f6.params.toList args.toList ds p := hA0
  rw [Tryz.params6] at hA hval
  obtain ⟨v0, vs0, d0, ds0, p0, q0, hargs, rfl, rfl, h0, r0⟩ := trodAll_cons hA
  obtain ⟨v1, vs1, d1, ds1, p1, q1, rfl, rfl, rfl, h1, r1⟩ := trodAll_cons r0
  obtain ⟨rfl, rfl, rfl⟩ := trodAll_nil r1
  obtain rfl : args = #[v0, v1] := by cases args; simp_all
  obtain ⟨rfl, rfl⟩ := trodVars_none hV
  have k0 := h0
  have lt0 : ∀ x ∈ p0, x.block < W.heap.size := by obtain ⟨m, hm⟩ := k0; exact DataW.trod_lt m _ _ _ hm
  obtain ⟨x0, S0, rfl, w0, m0, f0⟩ := open_store (hval 0 30 v0 rfl rfl) h0 (fun n hn => by
    have := List.all_eq_true.1 hsz n (DataW.weights_mem_each (j := 0) (t := 30) (by kernel_rfl) rfl n hn)
    simpa using this)
  have k1 := h1
  have lt1 : ∀ x ∈ p1, x.block < W.heap.size := by obtain ⟨m, hm⟩ := k1; exact DataW.trod_lt m _ _ _ hm
  obtain ⟨z1, rfl, w1⟩ := open_ptr (hval 1 32 v1 rfl rfl) h1
  clear hA0 hval0
  refine (setParts_walk x0 S0 z1 W (szs_of_laid hL) w0 m0 f0 w1).mono fun e W' ⟨he, bel⟩ => ?_
  subst he
  exact ⟨_, rfl, _, _, _, [], _, [], hW', trodAll_mk1 (shut_bool Tryz.underlying4 _), (trodAll_cons_mk (Below.trod laidOut (by kernel_rfl) (of_decide_eq_true (by kernel_rfl)) k0 bel lt0) (trodAll_cons_mk (Below.trod laidOut (by kernel_rfl) (of_decide_eq_true (by kernel_rfl)) k1 bel lt1) trodAll_mk0)), rfl, bel.frame _, fun h => by cases h⟩

theorem over : Rows.SetPartsSaid :=
  OpenClaim.holds_of_wide 6 Tryz.f6 rfl rfl rfl rfl rfl rfl rfl ⟨rfl, rfl, rfl, rfl, rfl⟩ rfl rfl rfl rfl rfl (by kernel_rfl) Tryz.func6 (by kernel_rfl)
    (of_decide_eq_true (by kernel_rfl)) (by unfold Func.isWrapper; first | (rw [if_pos (by decide +kernel)]; kernel_rfl) | (rw [if_neg (by decide +kernel)]; exact ⟨rfl, rfl⟩))
    (fun os started H enc _ => lifted os started H enc)

/-- The statement. -/
theorem proved : Rows.SetPartsCardSaid :=
  Claim7.holds_tied_plain_at .later [] [.data] true _ false
    over (fun _ h => by cases h) (by kernel_rfl) (fun _ h => by cases h) setParts_row_tie rfl ⟨rfl, rfl⟩ (by kernel_rfl) rfl
    (fun f fn hf hfn => by
      obtain rfl : f = 6 := Option.some.inj ((show Tryz.prog.funcNamed "charterhouse/charterhouselaw15.SetParts" = some 6 by kernel_rfl).symm.trans hf) |>.symm
      obtain rfl : fn = Tryz.f6 := (Option.some.inj (Tryz.func6.symm.trans hfn)).symm
      exact ⟨by kernel_rfl, fun j t ht => by
        rw [Tryz.params6] at ht
        have hm : t ∈ [30, 32] := by simpa using Array.mem_of_getElem? ht
        have hall : ([30, 32].all fun u => !Tryz.prog.wantsStandIn u) = true := by kernel_rfl
        exact (show Tryz.prog.wantsStandIn t = false by simpa using List.all_eq_true.1 hall t hm)⟩)
    (by kernel_rfl)
end Go.Proofs.YtbggkfomfeeikaaGreatDoor.setParts
