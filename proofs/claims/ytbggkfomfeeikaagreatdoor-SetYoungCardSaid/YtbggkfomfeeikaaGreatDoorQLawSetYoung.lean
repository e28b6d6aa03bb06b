/-
  SetYoungSaid: for any store, root and sync (where the store is great, or births do not fall, the law itself answers what its example answers) the young ones are just those of all that are born later, in order. No condition but the tied one: ptr.sizes reads as its own initialiser lays it.
-/
import Derived.Test.YtbggkfomfeeikaaGreatDoorPkSA5
namespace Go.Proofs.YtbggkfomfeeikaaGreatDoor
open Go.RowKit Go.Shelf
set_option maxRecDepth 100000

/-- What falls asks gives what is young. -/
theorem falls_young {S : StL} {p : Pt} {a : Nat} (h : FallsP S p) : ∃ al, walkSO S p 0 = (al, 0) ∧ walkSO S p a = (al.filter (fun q => decide (a < q.2.1)), 0) ∧ al.length ≤ 257 ∧ (a < p.2.1 ∨ (al.filter (fun q => decide (a < q.2.1))).length = 0) := by
  obtain ⟨L, hl, hf⟩ := h
  by_cases hm : MayS S ∧ MayP p
  · rw [ptrsSO_may hm.1 hm.2] at hl
    rw [walkSO_may hm.1 hm.2, walkSO_may hm.1 hm.2]
    rcases rowSO_cases S p with ⟨e, h1, h2⟩ | ⟨L', h1, h16, _, hml⟩
    · rw [h1] at hl; cases hl; exact absurd rfl h2
    · rw [h1] at hl
      cases hl
      by_cases hp0 : p = p0
      · have e : ∀ b, youngSO S p b = ([], 0) := fun b => by
          unfold youngSO
          rw [hp0, if_pos (yng_p0 b)]
        exact ⟨[], e 0, e a, by simp, .inr rfl⟩
      · obtain ⟨l, h3, h4, h5⟩ := young_falls (a := a) hp0 hm.2 h1 hml (fun q hq hq0 => by
          obtain ⟨i, hi, rfl⟩ := List.getElem_of_mem hq
          have hg : L.getD i p0 = L[i] := by rw [List.getD_eq_getElem?_getD, List.getElem?_eq_getElem hi]; rfl
          have := hf i hi (by rw [hg]; exact hq0)
          rw [objSO_at hm.1 hm.2 (by omega) h1, hg] at this
          exact this)
        exact ⟨l, h3, h4, youngSO_len h3, h5.imp id fun h => by rw [h]; rfl⟩
  · rw [ptrsSO_no hm] at hl
    cases hl
set_option linter.unusedSimpArgs false in
set_option maxHeartbeats 16000000 in
theorem setYoung_at (x : SAt) (S : StL) (p : Pt) (af : Nat) (w : World) (hz : Szs w) (h : Str w w.heap.size x S) (hnear : Near S.1) (hwf : WfS S) (hwp : WfP p) (haf : af < 4294967296) : Calls Tryz.prog 5 #[stV x S, ptV p, .int .u32 (af : Int)] w fun e w' => e = .returned (.bool true) ∧ Below w.heap.size w w' := by
  have hmx : Tryz.prog.follows Departure.mixedOrders = true := by kernel_rfl
  have h := h.lasts (Nat.le_refl _)
  obtain ⟨L, hLe⟩ : ∃ L, w.heap.size = L := ⟨_, rfl⟩
  rw [hLe] at h
  have hL : L ≤ w.heap.size := Nat.le_of_eq hLe.symm
  clear hLe
  have af0 : (0 : Int) ≤ (af : Int) := by omega
  have af9 : (af : Int) ≤ 4294967295 := by omega
  obtain ⟨pa, pb, pi, pt, ps⟩ := p
  obtain ⟨w0, hw0, b0, z0, q1, q2⟩ := two_al w (stC x S) (ptA (pa, pb, pi, pt, ps)) 30 32
  obtain ⟨g, hg⟩ : ∃ g, w.heap.size = g := ⟨_, rfl⟩
  obtain ⟨g1, hg1⟩ : ∃ g1, g + 1 = g1 := ⟨_, rfl⟩
  rw [hg] at q1 q2
  rw [hg1] at q2
  have HX := Lib.hid q1
  have HQ := Lib.hid q2
  have HT := Lib.hid (h.bel b0)
  have HB := Lib.hid b0
  have HLW := Lib.hid (show L ≤ w0.heap.size from Nat.le_trans hL b0.size)
  simp only [stC, ptA] at hw0
  clear h b0 z0 q1 q2 hL
  have HZ := Lib.hid (hz.step HB.out)
  have HWF := Lib.hid hwf
  have HWP := Lib.hid hwp
  have HNE := Lib.hid hnear
  have HAF := Lib.hid haf
  clear hwf hwp hz hnear haf
  go_enter Tryz.func5, Tryz.ntmps5
  go_wp2_with fail
  try rw [hw0]
  try rw [hg]
  try rw [hg1]
  clear hw0 hg hg1
  refine (seAlive_any w0 HZ.out).mono ?_
  rintro e w1 ⟨rfl, b1⟩
  replace HX := Lib.hid (HX.out.below b1 HX.out.lt)
  replace HQ := Lib.hid (HQ.out.below b1 HQ.out.lt)
  replace HT := Lib.hid (HT.out.bel b1)
  replace HB := Lib.hid (HB.out.trans (b1.mono HB.out.size))
  replace HZ := Lib.hid (HZ.out.step b1)
  replace HLW := Lib.hid (Nat.le_trans HLW.out b1.size)
  clear b1
  have d0 := bx0 HX.out
  have d1 := bx1 HX.out
  have d2 := bx2 HX.out
  have d3 := bx3 HX.out
  have d4 := bx4 HX.out
  have HG := Lib.hid (rtGreat_any L x S w1 HT.out HNE.out)
  go_wp2_with fail
  clear d0 d1 d2 d3 d4
  refine HG.out.mono ?_
  rintro e w2 ⟨gr, rfl, _, b2⟩
  replace HX := Lib.hid (HX.out.below b2 HX.out.lt)
  replace HQ := Lib.hid (HQ.out.below b2 HQ.out.lt)
  replace HT := Lib.hid (HT.out.bel b2)
  replace HB := Lib.hid (HB.out.trans (b2.mono HB.out.size))
  replace HZ := Lib.hid (HZ.out.step b2)
  replace HLW := Lib.hid (Nat.le_trans HLW.out b2.size)
  clear b2 HG
  cases gr with
  | true =>
    go_wp2_with fail
    go_ret
    exact ⟨rfl, HB.out⟩
  | false =>
    have d0 := bx0 HX.out
    have d1 := bx1 HX.out
    have d2 := bx2 HX.out
    have d3 := bx3 HX.out
    have d4 := bx4 HX.out
    have q0 := bx0 HQ.out
    have q1 := bx1 HQ.out
    have q2 := bx2 HQ.out
    have q3 := bx3 HQ.out
    have q4 := bx4 HQ.out
    have HFA := Lib.hid (seFalls_any L x S (pa, pb, pi, pt, ps) w2 HT.out HWF.out HWP.out HLW.out HZ.out)
    go_wp2_with fail
    clear d0 d1 d2 d3 d4
    clear q0 q1 q2 q3 q4
    refine HFA.out.mono ?_
    rintro e w3 ⟨R, rfl, hR, b3⟩
    replace HX := Lib.hid (HX.out.below b3 HX.out.lt)
    replace HQ := Lib.hid (HQ.out.below b3 HQ.out.lt)
    replace HT := Lib.hid (HT.out.bel b3)
    replace HB := Lib.hid (HB.out.trans (b3.mono HB.out.size))
    replace HZ := Lib.hid (HZ.out.step b3)
    replace HLW := Lib.hid (Nat.le_trans HLW.out b3.size)
    clear b3 HFA
    cases R with
    | false =>
      go_wp2_with fail
      go_ret
      exact ⟨rfl, HB.out⟩
    | true =>
      obtain ⟨al, h0, h1, h257, hlast⟩ := falls_young (a := af) (hR rfl)
      obtain ⟨n, hn⟩ : ∃ n, al.length = n := ⟨_, rfl⟩
      obtain ⟨l, hl⟩ : ∃ l, al.filter (fun q => decide (af < q.2.1)) = l := ⟨_, rfl⟩
      obtain ⟨m, hm⟩ : ∃ m, l.length = m := ⟨_, rfl⟩
      rw [hl] at h1 hlast
      rw [hn] at h257
      rw [hm] at hlast
      have H0 := Lib.hid h0
      have H1 := Lib.hid h1
      have HN := Lib.hid hn
      have HM := Lib.hid hm
      have HL := Lib.hid hl
      have HLA := Lib.hid hlast
      have h258 : ¬ (257 : Int) < (n : Int) := by omega
      clear h0 h1 hn hm hl hlast hR h257
      have d0 := bx0 HX.out
      have d1 := bx1 HX.out
      have d2 := bx2 HX.out
      have d3 := bx3 HX.out
      have d4 := bx4 HX.out
      have q0 := bx0 HQ.out
      have q1 := bx1 HQ.out
      have q2 := bx2 HQ.out
      have q3 := bx3 HQ.out
      have q4 := bx4 HQ.out
      have hwc := setWalk_any L x S (pa, pb, pi, pt, ps) 0 w3 HT.out HWF.out HWP.out (by omega) HLW.out HZ.out
      rw [H0.out] at hwc
      have HWC := Lib.hid hwc
      clear hwc
      go_wp2_with fail
      clear d0 d1 d2 d3 d4
      clear q0 q1 q2 q3 q4
      refine HWC.out.mono ?_
      rintro e w4 ⟨a4, c4, rfl, ht, _, bq⟩
      simp only [HN.out] at ht ⊢
      replace HX := Lib.hid (HX.out.below bq HX.out.lt)
      replace HQ := Lib.hid (HQ.out.below bq HQ.out.lt)
      replace HT := Lib.hid (HT.out.bel bq)
      replace HB := Lib.hid (HB.out.trans (bq.mono HB.out.size))
      replace HZ := Lib.hid (HZ.out.step bq)
      replace HLW := Lib.hid (Nat.le_trans HLW.out bq.size)
      have HP := Lib.hid ht
      have kn := ht.len_le
      have jn : (0 : Int) ≤ n := by omega
      have ez : (((0 : Nat) : Int)) = 0 := rfl
      rw [ez]
      clear ez bq ht HWC
      have d0 := bx0 HX.out
      have d1 := bx1 HX.out
      have d2 := bx2 HX.out
      have d3 := bx3 HX.out
      have d4 := bx4 HX.out
      have q0 := bx0 HQ.out
      have q1 := bx1 HQ.out
      have q2 := bx2 HQ.out
      have q3 := bx3 HQ.out
      have q4 := bx4 HQ.out
      have hwc := setWalk_any L x S (pa, pb, pi, pt, ps) af w4 HT.out HWF.out HWP.out HAF.out HLW.out HZ.out
      rw [H1.out] at hwc
      have HWC := Lib.hid hwc
      clear hwc
      go_wp2_with fail
      clear d0 d1 d2 d3 d4
      clear q0 q1 q2 q3 q4
      refine HWC.out.mono ?_
      rintro e w5 ⟨a5, c5, rfl, ht, _, bq⟩
      simp only [HM.out] at ht ⊢
      replace HX := Lib.hid (HX.out.below bq HX.out.lt)
      replace HQ := Lib.hid (HQ.out.below bq HQ.out.lt)
      replace HT := Lib.hid (HT.out.bel bq)
      replace HB := Lib.hid (HB.out.trans (bq.mono HB.out.size))
      replace HZ := Lib.hid (HZ.out.step bq)
      replace HP := Lib.hid (HP.out.step bq)
      replace HLW := Lib.hid (Nat.le_trans HLW.out bq.size)
      have HV := Lib.hid ht
      have km := ht.len_le
      have jm : (0 : Int) ≤ m := by omega
      have ez : (((0 : Nat) : Int)) = 0 := rfl
      rw [ez]
      clear ez bq ht HWC
      go_wp2_with fail
      clear h258
      go_loopw [12, 13] (fun v i wr => ∃ j : Nat, j ≤ n ∧ i = .int .i64 j ∧ v = .int .i64 (((al.take j).filter (fun q => decide (af < q.2.1))).length : Nat) ∧ Below w5.heap.size w5 wr) (fun _ i _ => n - (intOf i).toNat)
      case atStart => exact ⟨0, Nat.zero_le _, rfl, rfl, Below.refl _ _⟩
      case round =>
        obtain ⟨j, hj, rfl, rfl, hb⟩ := hrel
        have HBR := Lib.hid hb
        replace HX := Lib.hid (HX.out.below hb HX.out.lt)
        replace HQ := Lib.hid (HQ.out.below hb HQ.out.lt)
        replace HT := Lib.hid (HT.out.bel hb)
        replace HB := Lib.hid (HB.out.trans (hb.mono HB.out.size))
        replace HZ := Lib.hid (HZ.out.step hb)
        replace HP := Lib.hid (HP.out.step hb)
        replace HV := Lib.hid (HV.out.step hb)
        replace HLW := Lib.hid (Nat.le_trans HLW.out hb.size)
        have j0 : (0 : Int) ≤ j := by omega
        clear hb
        by_cases hlt : j < n
        · have j1 : (j : Int) < n := by omega
          have hfa := filter_at (f := fun q => decide (af < q.2.1)) (i := j) (by rw [HN.out]; exact hlt)
          rw [HL.out, HM.out] at hfa
          obtain ⟨t, ht⟩ : ∃ t, ((al.take j).filter (fun q => decide (af < q.2.1))).length = t := ⟨_, rfl⟩
          obtain ⟨t', ht'⟩ : ∃ t, ((al.take (j + 1)).filter (fun q => decide (af < q.2.1))).length = t := ⟨_, rfl⟩
          rw [ht, ht'] at hfa
          rw [ht]
          have HT' := Lib.hid ht'
          obtain ⟨ba, oa, ea, _, _, p0_, p1_, p2_, p3_, p4_⟩ := HP.out.cells j hlt
          obtain ⟨⟨ya, yb, yi, yt, ys⟩, hP⟩ : ∃ X, al.getD j p0 = X := ⟨_, rfl⟩
          rw [hP] at p0_ p1_ p2_ p3_ p4_ hfa
          simp only at p0_ p1_ p2_ p3_ p4_ hfa
          have HPE := Lib.hid hP
          subst ea
          clear hP ht ht'
          have t0 : (0 : Int) ≤ t := by omega
          by_cases hy : af < yb
          · have d1 : decide ((yb : Int) ≤ (af : Int)) = false := decide_eq_false (by omega)
            have d1n : decide (yb ≤ af) = false := decide_eq_false (by omega)
            obtain ⟨e1, e2, e3⟩ := hfa.2 (decide_eq_true hy)
            have HE := Lib.hid e1
            have HE3 := Lib.hid e3
            have t1 : (t : Int) < m := by omega
            have d2 : decide ((m : Int) ≤ (t : Int)) = false := decide_eq_false (by omega)
            have t9 : (t : Int) + 1 ≤ 9223372036854775807 := by omega
            have ht2 : t < m := e2
            have HT9 := Lib.hid t9
            have HD2 := Lib.hid d2
            have HT1 := Lib.hid t1
            clear hfa hy e1 e2 e3 t9 d2 t1
            go_wp2_with fail
            clear p0_ p1_ p2_ p3_ p4_ d1 d1n
            obtain ⟨bv, ov, ev, _⟩ := HV.out.cells t ht2
            subst ev
            have hlip := eqPt_lit ya yb yi yt ys ya yb yi yt ys
            rw [eqP_yes] at hlip
            have t9 := HT9.out
            have d2 := HD2.out
            have d2n : decide (m ≤ t) = false := decide_eq_false (by omega)
            have t1 := HT1.out
            obtain ⟨wd, hwd⟩ : ∃ wd, wr.drew = wd := ⟨_, rfl⟩
            have bq : Below wr.heap.size wr wd := by rw [← hwd]; exact (Below.refl _ wr).drew
            replace HX := Lib.hid (HX.out.below bq HX.out.lt)
            replace HQ := Lib.hid (HQ.out.below bq HQ.out.lt)
            replace HT := Lib.hid (HT.out.bel bq)
            replace HB := Lib.hid (HB.out.trans (bq.mono HB.out.size))
            replace HBR := Lib.hid (HBR.out.trans (bq.mono HBR.out.size))
            replace HZ := Lib.hid (HZ.out.step bq)
            replace HP := Lib.hid (HP.out.step bq)
            replace HV := Lib.hid (HV.out.step bq)
            replace HLW := Lib.hid (Nat.le_trans HLW.out bq.size)
            have hwd0 := Below.refl wd.heap.size wd
            refine wpI_start (Below wd.heap.size wd) [0, 1, 2, 3, 4, 5, 6, 7, 8, 9, 10, 11, 12, 13, 14] hmx rfl hwd ?_
            clear hwd bq
            iterate 15 (
              refine wpI_read (v := ?_) hwd0 rfl (by kernel_rfl) (by kernel_rfl) (by kernel_rfl) (fun _ _ _ h => h) (.inl ⟨by rfl, ?_⟩) ?_
              rotate_left
              · intro X hX
                obtain ⟨_, _, ea, _, _, p0_, p1_, p2_, p3_, p4_⟩ := (HP.out.below hX).cells j hlt
                cases ea
                rw [HPE.out] at p0_ p1_ p2_ p3_ p4_
                simp only at p0_ p1_ p2_ p3_ p4_
                obtain ⟨_, _, ea, _, _, v0_, v1_, v2_, v3_, v4_⟩ := (HV.out.below hX).cells t ht2
                cases ea
                rw [HE3.out] at v0_ v1_ v2_ v3_ v4_
                simp only at v0_ v1_ v2_ v3_ v4_
                clear hX
                go_simp
                with_reducible rfl
              try simp only [Act.put, List.setIfInBounds_toArray, List.set_cons_zero, List.set_cons_succ])
            refine wpI_done (by kernel_rfl) ?_
            clear hwd0 hlip d2 d2n
            go_wp2_with fail
            go_roundw
            case rel => exact ⟨j + 1, by omega, by go_num, by rw [HT'.out]; rw [HE.out]; go_num, HBR.out⟩
            case measure => simp [intOf]; omega
          · have d1 : decide ((yb : Int) ≤ (af : Int)) = true := decide_eq_true (by omega)
            have d1n : decide (yb ≤ af) = true := decide_eq_true (by omega)
            have e := hfa.1 (decide_eq_false hy)
            have HE := Lib.hid e
            clear hfa hy e
            go_wp2_with fail
            clear p0_ p1_ p2_ p3_ p4_ d1 d1n
            go_roundw
            case rel => exact ⟨j + 1, by omega, by go_num, by rw [HT'.out]; rw [HE.out], HBR.out⟩
            case measure => simp [intOf]; omega
        · obtain rfl : j = n := by omega
          have htk : al.take j = al := List.take_of_length_le (by rw [HN.out]; exact Nat.le_refl _)
          rw [htk, HL.out, HM.out]
          have q1 := bx1 HQ.out
          clear htk
          by_cases hy : af < pb
          · have d1 : decide ((af : Int) < (pb : Int)) = true := decide_eq_true (by omega)
            have d1n : decide (af < pb) = true := decide_eq_true (by omega)
            go_wp2_with fail
            go_ret
            exact ⟨rfl, HB.out⟩
          · have d1 : decide ((af : Int) < (pb : Int)) = false := decide_eq_false (by omega)
            have d1n : decide (af < pb) = false := decide_eq_false (by omega)
            obtain rfl : m = 0 := HLA.out.resolve_left hy
            go_wp2_with fail
            go_ret
            exact ⟨rfl, HB.out⟩
theorem setYoung_walk (x : SAt) (S : StL) (p : Pt) (a : Int) (w : World) (hz : Szs w) (h : Str w w.heap.size x S) (hnear : Near S.1) (hwf : WfS S) (hwp : WfP p) (ha : (Lit.int .u32 a).wf = true) : Calls Tryz.prog 5 #[stV x S, ptV p, .int .u32 a] w fun e w' => e = .returned (.bool true) ∧ Below w.heap.size w w' := by
  obtain ⟨m, rfl, hm⟩ := u32_wf ha
  exact setYoung_at x S p m w hz h hnear hwf hwp hm
end Go.Proofs.YtbggkfomfeeikaaGreatDoor
namespace Go.Proofs.YtbggkfomfeeikaaGreatDoor.setYoung
open Go.ChangeShapes Go.WideShapes Go.ChangeAt Go.RowKit
set_option linter.unusedVariables false

theorem own : ownKnob Tryz.prog.godebug = none := by kernel_rfl
theorem laidOut : laidOutB Tryz.prog = true := by kernel_rfl

set_option maxRecDepth 100000 in
theorem lifted (os : Os) (started : os.Started) (H : Type) (enc : TypeId × Value → H) :
    ReturnsInHanded {} Tryz.checked os 5 .any (fun w args => (Rows.setYoungSpec.pre enc Tryz.prog Tryz.f5 [] false w args ∧ laidMetH Tryz.prog [("charterhouse/ptr.sizes", Rows.laid_charterhouse_ptr_sizes)] w) ∧ sizedMet enc Tryz.prog Tryz.f5 (OpenSpec.ofChange Rows.setYoungSpec) false w args)
      (Rows.setYoungSpec.post enc Tryz.prog Tryz.f5 false true false false) := by
  refine returnsInHanded_of_change_and (C := Tryz.checked) (X := fun w _ => laidMetH Tryz.prog [("charterhouse/ptr.sizes", Rows.laid_charterhouse_ptr_sizes)] w) (fun _ _ _ hh h => h.of_heap hh) own started (by kernel_rfl) Tryz.func5
    (ChangeSpec.witness_shaped (enc := enc) (C := Tryz.checked) (os := os) (X := fun w _ => laidMetH Tryz.prog [("charterhouse/ptr.sizes", Rows.laid_charterhouse_ptr_sizes)] w) false (World.doorLaid Tryz.prog 400 os) #[.agg #[.slice none 0 0, .slice none 0 0, .slice none 0 0, .int .u32 0, .int .u32 0], .agg #[.int .i64 0, .int .u32 0, .int .u32 0, .int .u32 0, .int .u32 0], .int .u32 0] 8 rfl (World.shaped_of_RefB (by kernel_rfl) (by kernel_rfl)) (by kernel_rfl) (by kernel_rfl) (by kernel_rfl) (door_met os _)) ?_
  intro W base args ds gs before hval0 hW _ hsz hL _
  have hval : ∀ (j : Nat) t v, Tryz.f5.params[j]? = some t → args[j]? = some v → Value.okWide Tryz.prog W .any base t v := hval0
  have hW' := hW
  obtain ⟨p, q, hA0, hV, rfl, hfz, hnd⟩ := hW
  have hA : DataW.TrodAll enc Tryz.prog W 0 (fun _ => true) true Tryz.f5.params.toList args.toList ds p := hA0
  rw [Tryz.params5] at hA hval
  obtain ⟨v0, vs0, d0, ds0, p0, q0, hargs, rfl, rfl, h0, r0⟩ := trodAll_cons hA
  obtain ⟨v1, vs1, d1, ds1, p1, q1, rfl, rfl, rfl, h1, r1⟩ := trodAll_cons r0
  obtain ⟨v2, vs2, d2, ds2, p2, q2, rfl, rfl, rfl, h2, r2⟩ := trodAll_cons r1
  obtain ⟨rfl, rfl, rfl⟩ := trodAll_nil r2
  obtain rfl : args = #[v0, v1, v2] := by cases args; simp_all
  obtain ⟨rfl, rfl⟩ := trodVars_none hV
  have k0 := h0
  have lt0 : ∀ x ∈ p0, x.block < W.heap.size := by obtain ⟨m, hm⟩ := k0; exact DataW.trod_lt m _ _ _ hm
  obtain ⟨x0, S0, rfl, w0, m0, f0⟩ := open_store (hval 0 30 v0 rfl rfl) h0 (fun n hn => by
    have := List.all_eq_true.1 hsz n (DataW.weights_mem_each (j := 0) (t := 30) (by kernel_rfl) rfl n hn)
    simpa using this)
  have k1 := h1
  have lt1 : ∀ x ∈ p1, x.block < W.heap.size := by obtain ⟨m, hm⟩ := k1; exact DataW.trod_lt m _ _ _ hm
  obtain ⟨z1, rfl, w1⟩ := open_ptr (hval 1 32 v1 rfl rfl) h1
  obtain ⟨a2, rfl, rfl, rfl, w2⟩ := open_int Tryz.underlying28 (hval 2 28 v2 rfl rfl) h2
  clear hA0 hval0
  refine (setYoung_walk x0 S0 z1 a2 W (szs_of_laid hL) w0 m0 f0 w1 w2).mono fun e W' ⟨he, bel⟩ => ?_
  subst he
  exact ⟨_, rfl, _, _, _, [], _, [], hW', trodAll_mk1 (shut_bool Tryz.underlying4 _), (trodAll_cons_mk (Below.trod laidOut (by kernel_rfl) (of_decide_eq_true (by kernel_rfl)) k0 bel lt0) (trodAll_cons_mk (Below.trod laidOut (by kernel_rfl) (of_decide_eq_true (by kernel_rfl)) k1 bel lt1) (trodAll_cons_mk (shut_int Tryz.underlying28 w2) trodAll_mk0))), rfl, bel.frame _, fun h => by cases h⟩

theorem over : Rows.SetYoungSaid :=
  OpenClaim.holds_of_wide 5 Tryz.f5 rfl rfl rfl rfl rfl rfl rfl ⟨rfl, rfl, rfl, rfl, rfl⟩ rfl rfl rfl rfl rfl (by kernel_rfl) Tryz.func5 (by kernel_rfl)
    (of_decide_eq_true (by kernel_rfl)) (by unfold Func.isWrapper; first | (rw [if_pos (by decide +kernel)]; kernel_rfl) | (rw [if_neg (by decide +kernel)]; exact ⟨rfl, rfl⟩))
    (fun os started H enc _ => lifted os started H enc)

/-- The statement. -/
theorem proved : Rows.SetYoungCardSaid :=
  Claim7.holds_tied_plain_at .later [] [.data] true _ false
    over (fun _ h => by cases h) (by kernel_rfl) (fun _ h => by cases h) setYoung_row_tie rfl ⟨rfl, rfl⟩ (by kernel_rfl) rfl
    (fun f fn hf hfn => by
      obtain rfl : f = 5 := Option.some.inj ((show Tryz.prog.funcNamed "charterhouse/charterhouselaw15.SetYoung" = some 5 by kernel_rfl).symm.trans hf) |>.symm
      obtain rfl : fn = Tryz.f5 := (Option.some.inj (Tryz.func5.symm.trans hfn)).symm
      exact ⟨by kernel_rfl, fun j t ht => by
        rw [Tryz.params5] at ht
        have hm : t ∈ [30, 32, 28] := by simpa using Array.mem_of_getElem? ht
        have hall : ([30, 32, 28].all fun u => !Tryz.prog.wantsStandIn u) = true := by kernel_rfl
        exact (show Tryz.prog.wantsStandIn t = false by simpa using List.all_eq_true.1 hall t hm)⟩)
    (by kernel_rfl)
end Go.Proofs.YtbggkfomfeeikaaGreatDoor.setYoung
