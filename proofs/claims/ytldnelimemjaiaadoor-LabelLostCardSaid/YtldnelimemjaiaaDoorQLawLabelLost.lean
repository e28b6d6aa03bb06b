/-
  LabelLostCardSaid: for any disk on which nothing waits, any label and whether it is kept (of a disk that is great the law itself answers what its example answers): where power fails while a label waits, the labels that stand are those of ahead, or these with it. No condition but the tied one: ptr.sizes reads as its own initialiser lays it.
-/
import Derived.Test.YtldnelimemjaiaaDoorRows
import Derived.Test.YtldnelimemjaiaaDoorPkLB5
namespace Go.Proofs.YtldnelimemjaiaaDoor
open Go.RowKit Go.Shelf
set_option maxRecDepth 100000

/-- What stands behind a crash. -/
theorem findL_congr {D E : DkL} (h : ∀ p, p < 4 → seenL D p = seenL E p) : findL D = findL E := standL_congr h
theorem seenL_left {D E : DkL} {p : Nat} (h : leftD D (fun _ => true) p = leftD E (fun _ => true) p) : seenL D p = seenL E p := by
  unfold seenL
  rw [h]
theorem left_kept {D : DkL} {mk : Nat → Bool} {p : Nat} (h : p < 256) : leftD (keptD D mk) (fun _ => true) p = leftD D mk p := by
  rw [left_still rfl, keptD_get _ _ _ h]
theorem lost_kept {D : DkL} {p : Int} {s : List UInt8} (h0 : D.2 = []) : findL (keptD (withD D p s) (fun i => [true].getD i false)) = findL (withD D p s) := by
  refine findL_congr fun q hq => seenL_left ?_
  rw [left_kept (by omega)]
  unfold leftD
  have e : lastTo (withD D p s).2 (fun i => [true].getD i false) (q : Int) (withD D p s).2.length = lastTo (withD D p s).2 (fun _ => true) (q : Int) (withD D p s).2.length := lastTo_congr (fun i hi => by
    have : i = 0 := by simp [withD, h0] at hi; exact hi
    subst this
    simp)
  rw [e]
theorem lost_lost {D : DkL} {p : Int} {s : List UInt8} (h0 : D.2 = []) : findL (keptD (withD D p s) (fun i => [false].getD i false)) = findL D := by
  refine findL_congr fun q hq => seenL_left ?_
  rw [left_kept (by omega), left_still h0]
  unfold leftD
  have e : lastTo (withD D p s).2 (fun i => [false].getD i false) (q : Int) (withD D p s).2.length = none := lastTo_no (fun i hi => by
    have : i = 0 := by simp [withD, h0] at hi; exact hi
    subst this
    simp)
  rw [e]
  rfl
set_option maxHeartbeats 8000000 in
theorem labelLost_at (x : DAt) (D : DkL) (l : Lb) (kp : Bool) (w : World) (hz : Szs w) (h : Dsk w w.heap.size x D) (hnear : Near D) (hwl : WfL l) :
    Calls Tryd.prog 6 #[dval x D, lbV l, .bool kp] w fun e w' => e = .returned (.bool true) ∧ Below w.heap.size w w' := by
  have hL0 := lawL_box w x D h
  have bl := alloc_b (w.alloc (.cells #[.slice x.ba D.1.length x.bc, .slice x.wa D.2.length x.wc] 30)) (.cells (lbC l).toArray 38)
  have xl := Blk.new (w.alloc (.cells #[.slice x.ba D.1.length x.bc, .slice x.wa D.2.length x.wc] 30)) 38 (lbC l).toArray
  obtain ⟨w0, hw0⟩ : ∃ w0, (w.alloc (.cells #[.slice x.ba D.1.length x.bc, .slice x.wa D.2.length x.wc] 30)).alloc (.cells (lbC l).toArray 38) = w0 := ⟨_, rfl⟩
  rw [hw0] at bl xl
  rw [World.size_alloc] at xl
  have HB := Lib.hid hL0
  replace HB := Lib.hid (HB.out.step bl)
  have HX := Lib.hid xl
  have HZ := Lib.hid (hz.step HB.out.bel)
  have HNR := Lib.hid hnear
  have HWL := Lib.hid hwl
  have HA := Lib.hid (lAlive_any w0 HZ.out)
  obtain ⟨g, e, a, b, c, d, f⟩ := l
  simp only [lbC] at hw0
  simp only [dval]
  clear h hL0 hnear hwl hz bl xl
  go_enter Tryd.func6, Tryd.ntmps6
  go_wp2_with fail
  clear hw0
  refine HA.out.mono ?_
  rintro ev w1 ⟨rfl, b1⟩
  replace HB := Lib.hid (HB.out.step b1)
  replace HX := Lib.hid (HX.out.below b1 HX.out.lt)
  replace HZ := Lib.hid (HZ.out.step b1)
  have HG := Lib.hid (rdGreat_any x D w1 HB.out.dsk HNR.out)
  have c0 := HB.out.c0
  have c1 := HB.out.c1
  simp only [dval] at HG
  clear b1 HA
  go_wp2_with fail
  clear c0 c1
  refine HG.out.mono ?_
  rintro ev w2 ⟨gr, rfl, hsm, b2⟩
  replace HB := Lib.hid (HB.out.step b2)
  replace HX := Lib.hid (HX.out.below b2 HX.out.lt)
  replace HZ := Lib.hid (HZ.out.step b2)
  clear b2 HG
  cases gr with
  | true =>
    go_wp2_with fail
    go_ret
    exact ⟨rfl, HB.out.bel⟩
  | false =>
    clear hsm
    have m1 := HB.out.dsk.2.len_le
    by_cases hq : D.2.length = 0
    · have c1 := HB.out.c1
      have c0 := HB.out.c0
      obtain ⟨e0, e1, e2, e3, e4, e5, e6⟩ := HX.out.seven
      have HP := Lib.hid (lPut_any x D (g, e, a, b, c, d, f) w2 HB.out.dsk HWL.out HZ.out)
      simp only [dval] at HP
      have hq0 : ¬ (0 : Int) < D.2.length := by omega
      have HQ := Lib.hid hq
      clear hq
      go_wp2_with fail
      clear c0 c1 e0 e1 e2 e3 e4 e5 e6 hq0
      refine HP.out.mono ?_
      rintro ev w3 ⟨x3, rfl, o3, b3⟩
      replace HB := Lib.hid (HB.out.step b3)
      replace HX := Lib.hid (HX.out.below b3 HX.out.lt)
      replace HZ := Lib.hid (HZ.out.step b3)
      have HO := Lib.hid o3
      clear b3 o3 HP
      rcases putO_cases D (g, e, a, b, c, d, f) with ⟨k, hk, hk0⟩ | ⟨hm, hl, hn, hmw, hk⟩
      · rw [hk]
        have hkb : (k == 0) = false := by simpa using hk0
        have ba := alloc_b w3 (.cells #[.slice x3.ba 0 x3.bc, .slice x3.wa 0 x3.wc] 30)
        replace HB := Lib.hid (HB.out.step ba)
        replace HX := Lib.hid (HX.out.below ba HX.out.lt)
        replace HZ := Lib.hid (HZ.out.step ba)
        simp only [dval, List.length_nil]
        clear ba hk hk0
        go_wp2_with fail
        go_ret
        exact ⟨rfl, HB.out.bel⟩
      · rw [hk] at HO ⊢
        have h00 : D.2 = [] := List.eq_nil_of_length_eq_zero HQ.out
        have hcr := crash_ok (ks := [kp]) hmw (by simp [withD, h00])
        have hfk : findL (keptD (withD D ((g % 4 : Nat) : Int) (blockL (g, e, a, b, c, d, f))) (fun i => [kp].getD i false)) = if kp then findL (withD D ((g % 4 : Nat) : Int) (blockL (g, e, a, b, c, d, f))) else findL D := by
          cases kp with
          | true => exact lost_kept h00
          | false => exact lost_lost h00
        have hmk := keptD_may hmw (fun i => [kp].getD i false)
        obtain ⟨E, hE⟩ : ∃ E, withD D ((g % 4 : Nat) : Int) (blockL (g, e, a, b, c, d, f)) = E := ⟨_, rfl⟩
        simp only [hE] at hmw hcr hfk HO hmk ⊢
        obtain ⟨K, hK⟩ : ∃ K, keptD E (fun i => [kp].getD i false) = K := ⟨_, rfl⟩
        rw [hK] at hcr hfk hmk
        have HMD := Lib.hid hm
        have HME := Lib.hid hmw
        have HMK := Lib.hid hmk
        have HCR := Lib.hid hcr
        have HFK := Lib.hid hfk
        clear hm hl hn hmw hk hcr hfk hmk hE hK h00 HQ
        have HU := Lib.hid (HB.out.put HO.out.dsk)
        have ba := alloc_b w3 (.cells #[.slice x3.ba E.1.length x3.bc, .slice x3.wa E.2.length x3.wc] 30)
        replace HB := Lib.hid (HB.out.step ba)
        replace HX := Lib.hid (HX.out.below ba HX.out.lt)
        replace HZ := Lib.hid (HZ.out.step ba)
        obtain ⟨w4, hw4⟩ : ∃ w4, w3.alloc (.cells #[.slice x3.ba E.1.length x3.bc, .slice x3.wa E.2.length x3.wc] 30) = w4 := ⟨_, rfl⟩
        obtain ⟨g3, hg3⟩ : ∃ g, w3.heap.size = g := ⟨_, rfl⟩
        rw [hw4] at HU HB HX HZ
        rw [hg3] at HU
        clear ba HO
        -- the crash
        obtain ⟨wm, hwm⟩ : ∃ wm, w4.alloc (.cells #[.bool kp] 4) = wm := ⟨_, rfl⟩
        have b5 : Below w4.heap.size w4 wm := by rw [← hwm]; exact alloc_b _ _
        have x5 : Blk wm w4.heap.size 4 #[.bool kp] := by rw [← hwm]; exact Blk.new w4 _ _
        have HM5 : Mks wm wm.heap.size (some ⟨w4.heap.size, 0, none⟩) 1 1 [kp] := ⟨rfl, Nat.le_refl _, by unfold maxLen; omega, fun _ => ⟨w4.heap.size, 0, rfl, x5.lt, fun i hi => by
          obtain rfl : i = 0 := by omega
          exact x5.cell 0⟩⟩
        have d0 := HU.out.c0
        have d1 := HU.out.c1
        replace HB := Lib.hid (HB.out.step b5)
        replace HX := Lib.hid (HX.out.below b5 HX.out.lt)
        replace HZ := Lib.hid (HZ.out.step b5)
        replace HU := Lib.hid (HU.out.step b5)
        have hc5 := dCrash_any x3 E (some ⟨w4.heap.size, 0, none⟩) 1 1 [kp] wm HU.out.dsk HM5
        rw [HCR.out] at hc5
        simp only [dval] at hc5 ⊢
        have HC5 := Lib.hid hc5
        clear hc5 HM5 x5 b5 HCR
        go_wp2_with fail
        clear hwm d0 d1 hw4 hg3
        refine HC5.out.mono ?_
        rintro ev w6 ⟨x6, rfl, o6, b6⟩
        replace HB := Lib.hid (HB.out.step b6)
        replace HX := Lib.hid (HX.out.below b6 HX.out.lt)
        replace HZ := Lib.hid (HZ.out.step b6)
        replace HU := Lib.hid (HU.out.step b6)
        have hV := HB.out.put o6.dsk
        have ba := alloc_b w6 (.cells #[.slice x6.ba K.1.length x6.bc, .slice x6.wa K.2.length x6.wc] 30)
        clear HC5 b6 o6
        replace HB := Lib.hid (HB.out.step ba)
        replace HX := Lib.hid (HX.out.below ba HX.out.lt)
        replace HZ := Lib.hid (HZ.out.step ba)
        replace HU := Lib.hid (HU.out.step ba)
        have HV := Lib.hid hV
        obtain ⟨w7, hw7⟩ : ∃ w7, w6.alloc (.cells #[.slice x6.ba K.1.length x6.bc, .slice x6.wa K.2.length x6.wc] 30) = w7 := ⟨_, rfl⟩
        obtain ⟨g6, hg6⟩ : ∃ g, w6.heap.size = g := ⟨_, rfl⟩
        rw [hw7] at HV HU HB HX HZ
        rw [hg6] at HV
        simp only [dval]
        clear ba hV
        have c0 := HB.out.c0
        have c1 := HB.out.c1
        have hfi := lFind_any x D w7 HB.out.dsk HZ.out
        rw [findO, if_pos HMD.out] at hfi
        simp only [dval] at hfi
        have HFI := Lib.hid hfi
        clear hfi
        go_wp2_with fail
        clear c0 c1 hw7 hg6
        refine HFI.out.mono ?_
        rintro ev wf1_ ⟨v, rfl, r, bf⟩
        obtain ⟨aW, kW, rfl, sW⟩ := r.lbs
        replace HB := Lib.hid (HB.out.step bf)
        replace HX := Lib.hid (HX.out.below bf HX.out.lt)
        replace HZ := Lib.hid (HZ.out.step bf)
        replace HU := Lib.hid (HU.out.step bf)
        replace HV := Lib.hid (HV.out.step bf)
        have HSW := Lib.hid sW
        clear HFI bf r sW
        have c0 := HU.out.c0
        have c1 := HU.out.c1
        have hfi := lFind_any x3 E wf1_ HU.out.dsk HZ.out
        rw [findO, if_pos HME.out] at hfi
        simp only [dval] at hfi
        have HFI := Lib.hid hfi
        clear hfi
        go_wp2_with fail
        clear c0 c1
        refine HFI.out.mono ?_
        rintro ev wf2_ ⟨v, rfl, r, bf⟩
        obtain ⟨aI, kI, rfl, sI⟩ := r.lbs
        replace HB := Lib.hid (HB.out.step bf)
        replace HX := Lib.hid (HX.out.below bf HX.out.lt)
        replace HZ := Lib.hid (HZ.out.step bf)
        replace HU := Lib.hid (HU.out.step bf)
        replace HV := Lib.hid (HV.out.step bf)
        replace HSW := Lib.hid (HSW.out.step bf)
        have HSI := Lib.hid sI
        clear HFI bf r sI
        have c0 := HV.out.c0
        have c1 := HV.out.c1
        have hfi := lFind_any x6 K wf2_ HV.out.dsk HZ.out
        rw [findO, if_pos HMK.out] at hfi
        simp only [dval] at hfi
        have HFI := Lib.hid hfi
        clear hfi
        go_wp2_with fail
        clear c0 c1
        refine HFI.out.mono ?_
        rintro ev wf3_ ⟨v, rfl, r, bf⟩
        obtain ⟨aN, kN, rfl, sN⟩ := r.lbs
        replace HB := Lib.hid (HB.out.step bf)
        replace HX := Lib.hid (HX.out.below bf HX.out.lt)
        replace HZ := Lib.hid (HZ.out.step bf)
        replace HU := Lib.hid (HU.out.step bf)
        replace HV := Lib.hid (HV.out.step bf)
        replace HSW := Lib.hid (HSW.out.step bf)
        replace HSI := Lib.hid (HSI.out.step bf)
        have HSN := Lib.hid sN
        clear HFI bf r sN
        cases kp with
        | true =>
          have hs := lSame_any aN _ kN (findL K) aI _ kI (findL E) wf3_ HSN.out HSI.out
          rw [decide_eq_true (show findL K = findL E from HFK.out)] at hs
          have HS := Lib.hid hs
          clear hs
          go_wp2_with fail
          refine HS.out.mono ?_
          rintro ev wz ⟨rfl, bz⟩
          replace HB := Lib.hid (HB.out.step bz)
          go_wp2_with fail
          go_ret
          exact ⟨rfl, HB.out.bel⟩
        | false =>
          have hs := lSame_any aN _ kN (findL K) aW _ kW (findL D) wf3_ HSN.out HSW.out
          rw [decide_eq_true (show findL K = findL D from HFK.out)] at hs
          have HS := Lib.hid hs
          clear hs
          go_wp2_with fail
          refine HS.out.mono ?_
          rintro ev wz ⟨rfl, bz⟩
          replace HB := Lib.hid (HB.out.step bz)
          go_wp2_with fail
          go_ret
          exact ⟨rfl, HB.out.bel⟩
    · have c1 := HB.out.c1
      have c0 := HB.out.c0
      have hq0 : (0 : Int) < D.2.length := by omega
      go_wp2_with fail
      go_ret
      exact ⟨rfl, HB.out.bel⟩
theorem labelLost_walk (x : DAt) (D : DkL) (l : Lb) (kp : Bool) (w : World) (hz : Szs w) (h : Dsk w w.heap.size x D) (hnear : Near D) (hwl : WfL l) :
    Calls Tryd.prog 6 #[dval x D, lbV l, .bool kp] w fun e w' => e = .returned (.bool true) ∧ Below w.heap.size w w' := labelLost_at x D l kp w hz h hnear hwl
end Go.Proofs.YtldnelimemjaiaaDoor
namespace Go.Proofs.YtldnelimemjaiaaDoor.labelLost
open Go.ChangeShapes Go.WideShapes Go.ChangeAt Go.RowKit
set_option linter.unusedVariables false

theorem own : ownKnob Tryd.prog.godebug = none := by kernel_rfl
theorem laidOut : laidOutB Tryd.prog = true := by kernel_rfl

set_option maxRecDepth 100000 in
theorem lifted (os : Os) (started : os.Started) (H : Type) (enc : TypeId × Value → H) :
    ReturnsInHanded {} Tryd.checked os 6 .any (fun w args => (Rows.labelLostSpec.pre enc Tryd.prog Tryd.f6 [] false w args ∧ laidMetH Tryd.prog [("charterhouse/ptr.sizes", Rows.laid_charterhouse_ptr_sizes)] w) ∧ sizedMet enc Tryd.prog Tryd.f6 (OpenSpec.ofChange Rows.labelLostSpec) false w args)
      (Rows.labelLostSpec.post enc Tryd.prog Tryd.f6 false true false false) := by
  refine returnsInHanded_of_change_and (C := Tryd.checked) (X := fun w _ => laidMetH Tryd.prog [("charterhouse/ptr.sizes", Rows.laid_charterhouse_ptr_sizes)] w) (fun _ _ _ hh h => h.of_heap hh) own started (by kernel_rfl) Tryd.func6
    (ChangeSpec.witness_shaped (enc := enc) (C := Tryd.checked) (os := os) (X := fun w _ => laidMetH Tryd.prog [("charterhouse/ptr.sizes", Rows.laid_charterhouse_ptr_sizes)] w) false (World.doorLaid Tryd.prog 400 os) #[.agg #[.slice none 0 0, .slice none 0 0], .agg #[.int .u32 0, .int .u32 0, .int .i64 0, .int .u32 0, .int .u32 0, .int .u32 0, .int .u32 0], .bool false] 8 rfl (World.shaped_of_RefB (by kernel_rfl) (by kernel_rfl)) (by kernel_rfl) (by kernel_rfl) (by kernel_rfl) (door_met os _)) ?_
  intro W base args ds gs before hval0 hW _ hsz hL _
  have hval : ∀ (j : Nat) t v, Tryd.f6.params[j]? = some t → args[j]? = some v → Value.okWide Tryd.prog W .any base t v := hval0
  have hW' := hW
  obtain ⟨p, q, hA0, hV, rfl, hfz, hnd⟩ := hW
  have hA : DataW.TrodAll enc Tryd.prog W 0 (fun _ => true) true Tryd.f6.params.toList args.toList ds p := hA0
  rw [Tryd.params6] at hA hval
  obtain ⟨v0, vs0, d0, ds0, p0, q0, hargs, rfl, rfl, h0, r0⟩ := trodAll_cons hA
  obtain ⟨v1, vs1, d1, ds1, p1, q1, rfl, rfl, rfl, h1, r1⟩ := trodAll_cons r0
  obtain ⟨v2, vs2, d2, ds2, p2, q2, rfl, rfl, rfl, h2, r2⟩ := trodAll_cons r1
  obtain ⟨rfl, rfl, rfl⟩ := trodAll_nil r2
  obtain rfl : args = #[v0, v1, v2] := by cases args; simp_all
  obtain ⟨rfl, rfl⟩ := trodVars_none hV
  have k0 := h0
  have lt0 : ∀ x ∈ p0, x.block < W.heap.size := by obtain ⟨m, hm⟩ := k0; exact DataW.trod_lt m _ _ _ hm
  obtain ⟨x0, D0, rfl, w0, m0⟩ := open_disk (hval 0 30 v0 rfl rfl) h0 (fun n hn => by
    have := List.all_eq_true.1 hsz n (DataW.weights_mem_each (j := 0) (t := 30) (by kernel_rfl) rfl n hn)
    simpa using this)
  have k1 := h1
  have lt1 : ∀ x ∈ p1, x.block < W.heap.size := by obtain ⟨m, hm⟩ := k1; exact DataW.trod_lt m _ _ _ hm
  obtain ⟨z1, rfl, w1⟩ := open_label (hval 1 38 v1 rfl rfl) h1
  obtain ⟨a2, rfl, rfl, rfl⟩ := open_bool Tryd.underlying4 (hval 2 4 v2 rfl rfl) h2
  clear hA0 hval0
  refine (labelLost_walk x0 D0 z1 a2 W (szs_of_laid hL) w0 m0 w1).mono fun e W' ⟨he, bel⟩ => ?_
  subst he
  exact ⟨_, rfl, _, _, _, [], _, [], hW', trodAll_mk1 (shut_bool Tryd.underlying4 _), (trodAll_cons_mk (Below.trod laidOut (by kernel_rfl) (of_decide_eq_true (by kernel_rfl)) k0 bel lt0) (trodAll_cons_mk (Below.trod laidOut (by kernel_rfl) (of_decide_eq_true (by kernel_rfl)) k1 bel lt1) (trodAll_cons_mk (shut_bool Tryd.underlying4 _) trodAll_mk0))), rfl, bel.frame _, fun h => by cases h⟩

theorem over : Rows.LabelLostSaid :=
  OpenClaim.holds_of_wide 6 Tryd.f6 rfl rfl rfl rfl rfl rfl rfl ⟨rfl, rfl, rfl, rfl, rfl⟩ rfl rfl rfl rfl rfl (by kernel_rfl) Tryd.func6 (by kernel_rfl)
    (of_decide_eq_true (by kernel_rfl)) (by unfold Func.isWrapper; first | (rw [if_pos (by decide +kernel)]; kernel_rfl) | (rw [if_neg (by decide +kernel)]; exact ⟨rfl, rfl⟩))
    (fun os started H enc _ => lifted os started H enc)

/-- The statement. -/
theorem proved : Rows.LabelLostCardSaid :=
  Claim7.holds_tied_plain_at .later [] [.data] true _ false
    over (fun _ h => by cases h) (by kernel_rfl) (fun _ h => by cases h) labelLost_row_tie rfl ⟨rfl, rfl⟩ (by kernel_rfl) rfl
    (fun f fn hf hfn => by
      obtain rfl : f = 6 := Option.some.inj ((show Tryd.prog.funcNamed "charterhouse/charterhouselaw11.LabelLost" = some 6 by kernel_rfl).symm.trans hf) |>.symm
      obtain rfl : fn = Tryd.f6 := (Option.some.inj (Tryd.func6.symm.trans hfn)).symm
      exact ⟨by kernel_rfl, fun j t ht => by
        rw [Tryd.params6] at ht
        have hm : t ∈ [30, 38, 4] := by simpa using Array.mem_of_getElem? ht
        have hall : ([30, 38, 4].all fun u => !Tryd.prog.wantsStandIn u) = true := by kernel_rfl
        exact (show Tryd.prog.wantsStandIn t = false by simpa using List.all_eq_true.1 hall t hm)⟩)
    (by kernel_rfl)
end Go.Proofs.YtldnelimemjaiaaDoor.labelLost
