/-
  ObjPartsSaid: for any two objects that may be (else the law itself answers what its example answers) each part has its own bytes, and the blocks are the same just where the objects are. No condition but the tied one: ptr.sizes reads as its own initialiser lays it.
-/
import Derived.Test.YtennhempdnpobaaDoorLawObjB
import Derived.Test.YtennhempdnpobaaDoorObMath
import Derived.Test.YtennhempdnpobaaDoorObOpen
import Derived.Test.YtennhempdnpobaaDoorPtOpen
namespace Go.Proofs.YtennhempdnpobaaDoor
open Go.RowKit Go.Shelf
set_option maxRecDepth 100000

theorem str_eq (s t : List UInt8) (R : Bool) (h : R = true ↔ s = t) : ((strOf s).toList == (strOf t).toList) = R := by
  rw [strOf_toList, strOf_toList]
  cases R with
  | true => rw [h.1 rfl]; simp
  | false =>
    rw [beq_eq_false_iff_ne]
    exact fun e => by have := h.2 e; cases this
theorem int_eq (x y : Int) (R : Bool) (h : R = true ↔ x = y) : (x == y) = R := by
  cases R with
  | true => rw [h.1 rfl]; simp
  | false =>
    rw [beq_eq_false_iff_ne]
    exact fun e => by have := h.2 e; cases this
theorem bool_of (p : Prop) : ∃ R : Bool, R = true ↔ p := by
  by_cases h : p
  · exact ⟨true, fun _ => h, fun _ => rfl⟩
  · exact ⟨false, fun e => (by cases e), fun x => absurd x h⟩
theorem u8_cast {x y : UInt8} : ((x.toNat : Int) = (y.toNat : Int)) ↔ x = y := ⟨fun h => UInt8.toNat_inj.1 (by omega), fun h => by rw [h]⟩
set_option linter.unusedSimpArgs false in
set_option maxHeartbeats 16000000 in
theorem objParts_walk (a : Option Addr) (c : Nat) (O : ObL) (b : Option Addr) (d : Nat) (M : ObL) (w : World) (hz : Szs w) (h : Pts w w.heap.size a O.2.2.2.length c O.2.2.2) (hw : WfOb O) (h' : Pts w w.heap.size b M.2.2.2.length d M.2.2.2) (hw' : WfOb M) :
    Calls Tryd.prog 6 #[obV a c O, obV b d M] w fun e w' => e = .returned (.bool true) ∧ Below w.heap.size w w' := by
  have hmx : Tryd.prog.follows Departure.mixedOrders = true := by kernel_rfl
  obtain ⟨k, l, s, Lp⟩ := O
  obtain ⟨k', l', s', Mp⟩ := M
  simp only at h h'
  obtain ⟨n, hn⟩ : ∃ n, Lp.length = n := ⟨_, rfl⟩
  obtain ⟨m, hm⟩ : ∃ m, Mp.length = m := ⟨_, rfl⟩
  have HCO := Lib.hid (fun W hW z hz => obCheck_any a c (k, l, s, Lp) W hW hw z hz)
  have HCM := Lib.hid (fun W hW z hz => obCheck_any b d (k', l', s', Mp) W hW hw' z hz)
  have HWO := Lib.hid (fun W hW hz => obWrite_any a c (k, l, s, Lp) W hW hw hz)
  have HWM := Lib.hid (fun W hW hz => obWrite_any b d (k', l', s', Mp) W hW hw' hz)
  have HSA := Lib.hid (fun W hW hW' R hR => obSame_any a c (k, l, s, Lp) b d (k', l', s', Mp) W hW hW' R hR)
  have HF1 := Lib.hid (fun p (hp : p ∈ Lp) => h.wf hp)
  have HF2 := Lib.hid (fun p (hp : p ∈ Mp) => h'.wf hp)
  simp only [obV] at HCO HCM HWO HWM HSA ⊢
  rw [hn] at h HCO HWO HSA ⊢
  rw [hm] at h' HCM HWM HSA ⊢
  have HN := Lib.hid hn
  have HM := Lib.hid hm
  have x0 := (Blk.new w 24 #[.int .u8 (k : Int), .int .i64 l, .int .i64 s, .slice a n c]).alloc (.cells #[.int .u8 (k' : Int), .int .i64 l', .int .i64 s', .slice b m d] 24)
  have y0 := Blk.new (w.alloc (.cells #[.int .u8 (k : Int), .int .i64 l, .int .i64 s, .slice a n c] 24)) 24 #[.int .u8 (k' : Int), .int .i64 l', .int .i64 s', .slice b m d]
  rw [World.size_alloc] at y0
  have b0 := ((Below.refl w.heap.size w).alloc (Nat.le_refl _) (.cells #[.int .u8 (k : Int), .int .i64 l, .int .i64 s, .slice a n c] 24)).alloc (by rw [World.size_alloc]; omega) (.cells #[.int .u8 (k' : Int), .int .i64 l', .int .i64 s', .slice b m d] 24)
  obtain ⟨w0, hw0⟩ : ∃ w0, (w.alloc (.cells #[.int .u8 (k : Int), .int .i64 l, .int .i64 s, .slice a n c] 24)).alloc (.cells #[.int .u8 (k' : Int), .int .i64 l', .int .i64 s', .slice b m d] 24) = w0 := ⟨_, rfl⟩
  rw [hw0] at x0 y0 b0
  have HX := Lib.hid x0
  have HY := Lib.hid y0
  have HP := Lib.hid (h.step b0)
  have HQ := Lib.hid (h'.step b0)
  have HZ := Lib.hid (hz.step b0)
  have HB := Lib.hid b0
  clear x0 y0 b0 h h' hz hn hm hw hw'
  go_enter Tryd.func6, Tryd.ntmps6
  go_wp2_with fail
  try rw [hw0]
  clear hw0
  refine (loAlive_any w0 HZ.out).mono ?_
  rintro e w1 ⟨rfl, b1⟩
  replace HX := Lib.hid (HX.out.below b1 HX.out.lt)
  replace HY := Lib.hid (HY.out.below b1 HY.out.lt)
  replace HP := Lib.hid (HP.out.step b1)
  replace HQ := Lib.hid (HQ.out.step b1)
  replace HZ := Lib.hid (HZ.out.step b1)
  replace HB := Lib.hid (HB.out.trans (b1.mono HB.out.size))
  clear b1
  by_cases q1 : MayOb (k, l, s, Lp)
  · by_cases q2 : MayOb (k', l', s', Mp)
    · have c0 := ox0 HX.out
      have c1 := ox1 HX.out
      have c2 := ox2 HX.out
      have c3 := ox3 HX.out
      have HCK := Lib.hid (HCO.out w1 HP.out 0 ⟨fun _ => rfl, fun h => absurd q1 h⟩)
      go_wp2_with fail
      clear c0 c1 c2 c3
      refine HCK.out.mono ?_
      rintro e w2 ⟨rfl, bq⟩
      replace HX := Lib.hid (HX.out.below bq HX.out.lt)
      replace HY := Lib.hid (HY.out.below bq HY.out.lt)
      replace HP := Lib.hid (HP.out.step bq)
      replace HQ := Lib.hid (HQ.out.step bq)
      replace HZ := Lib.hid (HZ.out.step bq)
      replace HB := Lib.hid (HB.out.trans (bq.mono HB.out.size))
      clear bq HCK
      have d0 := ox0 HY.out
      have d1 := ox1 HY.out
      have d2 := ox2 HY.out
      have d3 := ox3 HY.out
      have HCK := Lib.hid (HCM.out w2 HQ.out 0 ⟨fun _ => rfl, fun h => absurd q2 h⟩)
      go_wp2_with fail
      clear d0 d1 d2 d3
      refine HCK.out.mono ?_
      rintro e w3 ⟨rfl, bq⟩
      replace HX := Lib.hid (HX.out.below bq HX.out.lt)
      replace HY := Lib.hid (HY.out.below bq HY.out.lt)
      replace HP := Lib.hid (HP.out.step bq)
      replace HQ := Lib.hid (HQ.out.step bq)
      replace HZ := Lib.hid (HZ.out.step bq)
      replace HB := Lib.hid (HB.out.trans (bq.mono HB.out.size))
      clear bq HCK
      obtain rfl : n = 15 := by rw [← HN.out]; exact q1.1.2.2.2
      obtain rfl : m = 15 := by rw [← HM.out]; exact q2.1.2.2.2
      have HMO := Lib.hid q1
      have HMM := Lib.hid q2
      clear q1 q2
      have c0 := ox0 HX.out
      have c1 := ox1 HX.out
      have c2 := ox2 HX.out
      have c3 := ox3 HX.out
      have hwr := HWO.out w3 HP.out HZ.out
      unfold owriteO at hwr
      rw [if_pos HMO.out] at hwr
      have hlen := blockOb_length ((k, l, s, Lp) : ObL)
      have HWR := Lib.hid hwr
      clear hwr
      go_wp2_with fail
      clear c0 c1 c2 c3
      refine HWR.out.mono ?_
      rintro e w4 ⟨v, rfl, ho, bq⟩
      try simp only at ho
      rw [hlen] at ho
      obtain ⟨g1, C1, rfl, _⟩ := bsl_of_own ho (by omega)
      replace HX := Lib.hid (HX.out.below bq HX.out.lt)
      replace HY := Lib.hid (HY.out.below bq HY.out.lt)
      replace HP := Lib.hid (HP.out.step bq)
      replace HQ := Lib.hid (HQ.out.step bq)
      replace HZ := Lib.hid (HZ.out.step bq)
      replace HB := Lib.hid (HB.out.trans (bq.mono HB.out.size))
      have HR := Lib.hid (own_bsl ho)
      clear bq HWR ho hlen
      have d0 := ox0 HY.out
      have d1 := ox1 HY.out
      have d2 := ox2 HY.out
      have d3 := ox3 HY.out
      have hwr := HWM.out w4 HQ.out HZ.out
      unfold owriteO at hwr
      rw [if_pos HMM.out] at hwr
      have hlen := blockOb_length ((k', l', s', Mp) : ObL)
      have HWR := Lib.hid hwr
      clear hwr
      go_wp2_with fail
      clear d0 d1 d2 d3
      refine HWR.out.mono ?_
      rintro e w5 ⟨v, rfl, ho, bq⟩
      try simp only at ho
      rw [hlen] at ho
      obtain ⟨g2, C2, rfl, _⟩ := bsl_of_own ho (by omega)
      replace HX := Lib.hid (HX.out.below bq HX.out.lt)
      replace HY := Lib.hid (HY.out.below bq HY.out.lt)
      replace HP := Lib.hid (HP.out.step bq)
      replace HQ := Lib.hid (HQ.out.step bq)
      replace HZ := Lib.hid (HZ.out.step bq)
      replace HB := Lib.hid (HB.out.trans (bq.mono HB.out.size))
      replace HR := Lib.hid (HR.out.step bq)
      have HS := Lib.hid (own_bsl ho)
      clear bq HWR ho hlen
      have e0 : (((0 : Nat) : Int) != 0) = false := rfl
      have hcap1 := HR.out.2.1
      have hcap2 := HS.out.2.1
      obtain ⟨R, hR⟩ := bool_of (((k, l, s, Lp) : ObL) = ((k', l', s', Mp) : ObL))
      have hbi := block_inj HMO.out HMM.out HF1.out HF2.out
      have hse := str_eq (blockOb ((k, l, s, Lp) : ObL)) (blockOb ((k', l', s', Mp) : ObL)) R (hR.trans hbi.symm)
      have HRR := Lib.hid hR
      clear hR hbi
      go_wp2_with fail
      obtain ⟨wd, hwd⟩ : ∃ wd, w5.drew = wd := ⟨_, rfl⟩
      have bq : Below w5.heap.size w5 wd := by rw [← hwd]; exact (Below.refl _ w5).drew
      replace HX := Lib.hid (HX.out.below bq HX.out.lt)
      replace HY := Lib.hid (HY.out.below bq HY.out.lt)
      replace HP := Lib.hid (HP.out.step bq)
      replace HQ := Lib.hid (HQ.out.step bq)
      replace HZ := Lib.hid (HZ.out.step bq)
      replace HB := Lib.hid (HB.out.trans (bq.mono HB.out.size))
      replace HR := Lib.hid (HR.out.step bq)
      replace HS := Lib.hid (HS.out.step bq)
      have hwd0 := Below.refl wd.heap.size wd
      refine wpI_start (Below wd.heap.size wd) [0, 1, 2, 3, 4, 5, 6, 7, 8, 9, 10, 11, 12, 13, 14, 15, 16, 17, 18, 19, 20, 21, 22, 23, 24, 25, 26] hmx rfl hwd ?_
      clear hwd bq
      iterate 24 (
        refine wpI_read (v := ?_) hwd0 rfl (by kernel_rfl) (by kernel_rfl) (by kernel_rfl) (fun _ _ _ h => h) (.inl ⟨by rfl, ?_⟩) ?_
        rotate_left
        · intro X hX
          have c0 := ox0 (HX.out.below hX HX.out.lt)
          have c1 := ox1 (HX.out.below hX HX.out.lt)
          have c2 := ox2 (HX.out.below hX HX.out.lt)
          have c3 := ox3 (HX.out.below hX HX.out.lt)
          have d0 := ox0 (HY.out.below hX HY.out.lt)
          have d1 := ox1 (HY.out.below hX HY.out.lt)
          have d2 := ox2 (HY.out.below hX HY.out.lt)
          have d3 := ox3 (HY.out.below hX HY.out.lt)
          have v1 := (HR.out.below hX).conv
          have v2 := (HS.out.below hX).conv
          clear hX
          go_simp
          with_reducible rfl
        try simp only [Act.put, List.setIfInBounds_toArray, List.set_cons_zero, List.set_cons_succ])
      refine wpI_lone rfl (by kernel_rfl) (fun K hK => ?_)
      go_simp
      refine (HSA.out wd HP.out HQ.out R HRR.out).mono ?_
      rintro ev w6 ⟨rfl, bq⟩
      have hsb := hwd0.trans (bq.mono hwd0.size)
      replace HX := Lib.hid (HX.out.below bq HX.out.lt)
      replace HY := Lib.hid (HY.out.below bq HY.out.lt)
      replace HP := Lib.hid (HP.out.step bq)
      replace HQ := Lib.hid (HQ.out.step bq)
      replace HZ := Lib.hid (HZ.out.step bq)
      replace HB := Lib.hid (HB.out.trans (bq.mono HB.out.size))
      replace HR := Lib.hid (HR.out.step bq)
      replace HS := Lib.hid (HS.out.step bq)
      refine hK _ _ hsb ?_
      clear hK K bq
      try simp only [Act.put, List.setIfInBounds_toArray, List.set_cons_zero, List.set_cons_succ]
      iterate 2 (
        refine wpI_read (v := ?_) hsb rfl (by kernel_rfl) (by kernel_rfl) (by kernel_rfl) (fun _ _ _ h => h) (.inl ⟨by rfl, ?_⟩) ?_
        rotate_left
        · intro X hX
          clear hX
          go_simp
          with_reducible rfl
        try simp only [Act.put, List.setIfInBounds_toArray, List.set_cons_zero, List.set_cons_succ])
      refine wpI_done (by kernel_rfl) ?_
      clear hse hsb hwd0 HSA HCO HCM HWO HWM
      have hk0 := block_kind HMO.out HMM.out
      have hk1 := block_links HMO.out HMM.out
      have hk2 := block_size HMO.out HMM.out
      have hk3 := block_noughts ((k, l, s, Lp) : ObL)
      obtain ⟨r0, hr0⟩ := bool_of (k = k')
      obtain ⟨r1, hr1⟩ := bool_of (l = l')
      obtain ⟨r2, hr2⟩ := bool_of (s = s')
      simp only at hk0 hk1 hk2
      have f0 := int_eq ((k : Nat) : Int) ((k' : Nat) : Int) r0 (hr0.trans ⟨fun h => by rw [h], fun h => by omega⟩)
      have f1 := int_eq l l' r1 hr1
      have f2 := int_eq s s' r2 hr2
      have p0_ := int_eq (((blockOb ((k, l, s, Lp) : ObL)).getD 0 0).toNat : Int) (((blockOb ((k', l', s', Mp) : ObL)).getD 0 0).toNat : Int) r0 (hr0.trans (hk0.symm.trans u8_cast.symm))
      have p1_ := int_eq (((blockOb ((k, l, s, Lp) : ObL)).getD 1 0).toNat : Int) (((blockOb ((k', l', s', Mp) : ObL)).getD 1 0).toNat : Int) r1 (hr1.trans (hk1.symm.trans u8_cast.symm))
      have p2_ := str_eq (((blockOb ((k, l, s, Lp) : ObL)).drop 2).take 2) (((blockOb ((k', l', s', Mp) : ObL)).drop 2).take 2) r2 (hr2.trans hk2.symm)
      have p3_ : ((strOf (List.replicate 12 0)).toList == (strOf (List.replicate 12 0)).toList) = true := by simp
      have HWN1 := Lib.hid (fun i hi => block_win ((k, l, s, Lp) : ObL) (i := i) hi)
      have HWN2 := Lib.hid (fun i hi => block_win ((k', l', s', Mp) : ObL) (i := i) hi)
      have HK3 := Lib.hid hk3
      obtain ⟨B1, hB1⟩ : ∃ X, blockOb ((k, l, s, Lp) : ObL) = X := ⟨_, rfl⟩
      obtain ⟨B2, hB2⟩ : ∃ X, blockOb ((k', l', s', Mp) : ObL) = X := ⟨_, rfl⟩
      rw [hB1] at HR HWN1 HK3 p0_ p1_ p2_
      rw [hB2] at HS HWN2 p0_ p1_ p2_
      obtain ⟨zz, hzz⟩ : ∃ X : List UInt8, List.replicate 12 0 = X := ⟨_, rfl⟩
      rw [hzz] at p3_ HK3
      have hmk : ∀ W : World, (Instr.makeSlice 28 (.int .i64 12) (.int .i64 12)).run Tryd.prog W = .ok (.slice (some ⟨W.heap.size, 0, none⟩) 12 12) (W.alloc (.cells (ar zz) 5)) := fun W => by rw [← hzz]; exact mkBytes 12 (by omega) W
      have HZL := Lib.hid (show zz.length = 12 by rw [← hzz]; rfl)
      obtain ⟨t1, ht1⟩ : ∃ X, (B1.drop 2).take 2 = X := ⟨_, rfl⟩
      obtain ⟨t2, ht2⟩ : ∃ X, (B2.drop 2).take 2 = X := ⟨_, rfl⟩
      rw [ht1, ht2] at p2_
      obtain ⟨x0, hx0⟩ : ∃ X, (B1.getD 0 0).toNat = X := ⟨_, rfl⟩
      obtain ⟨x1, hx1⟩ : ∃ X, (B1.getD 1 0).toNat = X := ⟨_, rfl⟩
      obtain ⟨y0, hy0⟩ : ∃ X, (B2.getD 0 0).toNat = X := ⟨_, rfl⟩
      obtain ⟨y1, hy1⟩ : ∃ X, (B2.getD 1 0).toNat = X := ⟨_, rfl⟩
      rw [hx0, hy0] at p0_
      rw [hx1, hy1] at p1_
      have s1 : ∀ W : World, (Instr.slice 28 (.slice (some ⟨g1, 0, none⟩) 256 C1) (some (.int .i64 2)) (some (.int .i64 4)) none).run Tryd.prog W = .ok (.slice (some ⟨g1, 2, none⟩) 2 (C1 - 2)) W := fun W => by simpa using slice_lh W g1 0 256 C1 2 2 (by omega) (by omega)
      have s2 : ∀ W : World, (Instr.slice 28 (.slice (some ⟨g2, 0, none⟩) 256 C2) (some (.int .i64 2)) (some (.int .i64 4)) none).run Tryd.prog W = .ok (.slice (some ⟨g2, 2, none⟩) 2 (C2 - 2)) W := fun W => by simpa using slice_lh W g2 0 256 C2 2 2 (by omega) (by omega)
      have s3 : ∀ W : World, (Instr.slice 28 (.slice (some ⟨g1, 0, none⟩) 256 C1) (some (.int .i64 4)) (some (.int .i64 16)) none).run Tryd.prog W = .ok (.slice (some ⟨g1, 4, none⟩) 12 (C1 - 4)) W := fun W => by simpa using slice_lh W g1 0 256 C1 4 12 (by omega) (by omega)
      have HW1 := Lib.hid (And.intro hx0 (And.intro hx1 ht1))
      have HW2 := Lib.hid (And.intro hy0 (And.intro hy1 ht2))
      clear hk0 hk1 hk2 hk3 hr0 hr1 hr2 hB1 hB2 hzz hx0 hx1 hy0 hy1 ht1 ht2
      go_wp2_with fail
      obtain ⟨wd8, hwd⟩ : ∃ wd, w6.drew = wd := ⟨_, rfl⟩
      have bq : Below w6.heap.size w6 wd8 := by rw [← hwd]; exact (Below.refl _ w6).drew
      replace HX := Lib.hid (HX.out.below bq HX.out.lt)
      replace HY := Lib.hid (HY.out.below bq HY.out.lt)
      replace HP := Lib.hid (HP.out.step bq)
      replace HQ := Lib.hid (HQ.out.step bq)
      replace HZ := Lib.hid (HZ.out.step bq)
      replace HB := Lib.hid (HB.out.trans (bq.mono HB.out.size))
      replace HR := Lib.hid (HR.out.step bq)
      replace HS := Lib.hid (HS.out.step bq)
      have hwd0 := Below.refl wd8.heap.size wd8
      refine wpI_start (Below wd8.heap.size wd8) [0, 1, 2, 3, 4, 5, 6, 7, 8, 9, 10, 11, 12, 13, 14, 15, 16, 17, 18, 19, 20, 21, 22, 23, 24, 25, 26, 27, 28, 29, 30, 31, 32, 33, 34, 35, 36, 37, 38, 39, 40, 41, 42, 43, 44, 45, 46, 47, 48, 49, 50] hmx rfl hwd ?_
      clear hwd bq
      iterate 47 (
        refine wpI_read (v := ?_) hwd0 rfl (by kernel_rfl) (by kernel_rfl) (by kernel_rfl) (fun _ _ _ h => h) (.inl ⟨by rfl, ?_⟩) ?_
        rotate_left
        · intro X hX
          have c0 := ox0 (HX.out.below hX HX.out.lt)
          have c1 := ox1 (HX.out.below hX HX.out.lt)
          have c2 := ox2 (HX.out.below hX HX.out.lt)
          have c3 := ox3 (HX.out.below hX HX.out.lt)
          have d0 := ox0 (HY.out.below hX HY.out.lt)
          have d1 := ox1 (HY.out.below hX HY.out.lt)
          have d2 := ox2 (HY.out.below hX HY.out.lt)
          have d3 := ox3 (HY.out.below hX HY.out.lt)
          have z0 := (HR.out.below hX).cellD 0 (by omega)
          have z1 := (HR.out.below hX).cellD 1 (by omega)
          have z2 := (HS.out.below hX).cellD 0 (by omega)
          have z3 := (HS.out.below hX).cellD 1 (by omega)
          rw [HW1.out.1] at z0
          rw [HW1.out.2.1] at z1
          rw [HW2.out.1] at z2
          rw [HW2.out.2.1] at z3
          rw [Nat.zero_add] at z0 z1 z2 z3
          have v1 := ((HR.out.below hX).win 2 2 (by omega)).conv
          have v2 := ((HS.out.below hX).win 2 2 (by omega)).conv
          have v3 := ((HR.out.below hX).win 4 12 (by omega)).conv
          rw [HW1.out.2.2] at v1
          rw [HW2.out.2.2] at v2
          rw [HK3.out] at v3
          rw [Nat.zero_add] at v1 v2 v3
          clear hX
          go_simp
          with_reducible rfl
        try simp only [Act.put, List.setIfInBounds_toArray, List.set_cons_zero, List.set_cons_succ])
      clear s1 s2 s3 f0 f1 f2 p0_ p1_ p2_
      refine wpI_lone rfl (by kernel_rfl) (fun K hK => ?_)
      go_simp
      have bq := (Below.refl wd8.heap.size wd8).alloc (Nat.le_refl _) (.cells (ar zz) 5)
      have hz7 := (Blk.new wd8 5 (ar zz)).bsl HZL.out (by omega)
      have v4 := hz7.conv
      obtain ⟨w7, hn⟩ : ∃ X, wd8.alloc (.cells (ar zz) 5) = X := ⟨_, rfl⟩
      rw [hn] at bq v4 ⊢
      have hsb := bq
      obtain ⟨g7, hg7⟩ : ∃ X, wd8.heap.size = X := ⟨_, rfl⟩
      rw [hg7] at v4 ⊢
      have hsb2 : Below wd8.heap.size wd8 w7 := bq

      refine hK _ _ hsb ?_
      clear hK K hn hz7 hmk
      try simp only [Act.put, List.setIfInBounds_toArray, List.set_cons_zero, List.set_cons_succ]
      refine wpI_lone rfl (by kernel_rfl) (fun K hK => ?_)
      go_simp
      refine hK _ _ hsb ?_
      clear hK K v4 hg7
      try simp only [Act.put, List.setIfInBounds_toArray, List.set_cons_zero, List.set_cons_succ]
      iterate 2 (
        refine wpI_read (v := ?_) hsb rfl (by kernel_rfl) (by kernel_rfl) (by kernel_rfl) (fun _ _ _ h => h) (.inl ⟨by rfl, ?_⟩) ?_
        rotate_left
        · intro X hX
          clear hX
          go_simp
          with_reducible rfl
        try simp only [Act.put, List.setIfInBounds_toArray, List.set_cons_zero, List.set_cons_succ])
      replace HX := Lib.hid (HX.out.below bq HX.out.lt)
      replace HY := Lib.hid (HY.out.below bq HY.out.lt)
      replace HP := Lib.hid (HP.out.step bq)
      replace HQ := Lib.hid (HQ.out.step bq)
      replace HZ := Lib.hid (HZ.out.step bq)
      replace HB := Lib.hid (HB.out.trans (bq.mono HB.out.size))
      replace HR := Lib.hid (HR.out.step bq)
      replace HS := Lib.hid (HS.out.step bq)
      refine wpI_done (by kernel_rfl) ?_
      clear p3_ hsb hsb2 hwd0 bq
      have e0' : True := trivial
      clear e0'
      obtain ⟨ba, oa, rfl, _, _⟩ := HP.out.2.2.2.2 (by omega)
      obtain ⟨bb, ob, rfl, _, _⟩ := HQ.out.2.2.2.2 (by omega)
      go_wp2_with fail
      go_loopw [10] (fun i wr => ∃ j : Nat, j ≤ 15 ∧ i = .int .i64 j ∧ Below w7.heap.size w7 wr) (fun i _ => 15 - (intOf i).toNat)
      case atStart => exact ⟨0, Nat.zero_le _, rfl, Below.refl _ _⟩
      case round =>
        obtain ⟨j, hj, rfl, hb⟩ := hrel
        have HBR := Lib.hid hb
        replace HX := Lib.hid (HX.out.below hb HX.out.lt)
        replace HY := Lib.hid (HY.out.below hb HY.out.lt)
        replace HP := Lib.hid (HP.out.step hb)
        replace HQ := Lib.hid (HQ.out.step hb)
        replace HZ := Lib.hid (HZ.out.step hb)
        replace HB := Lib.hid (HB.out.trans (hb.mono HB.out.size))
        replace HR := Lib.hid (HR.out.step hb)
        replace HS := Lib.hid (HS.out.step hb)
        have j0 : (0 : Int) ≤ j := by omega
        clear hb
        by_cases hlt : j < 15
        · have j1 : (j : Int) < 15 := by omega
          have m1 : IntKind.i64.wrap (16 * (j : Int)) = 16 * (j : Int) := by rw [IntKind.wrap_i64]; omega
          have m2 : IntKind.i64.wrap (16 + 16 * (j : Int)) = 16 + 16 * (j : Int) := by rw [IntKind.wrap_i64]; omega
          have m3 : IntKind.i64.wrap (32 + 16 * (j : Int)) = 32 + 16 * (j : Int) := by rw [IntKind.wrap_i64]; omega
          have hs1 : ∀ W : World, (Instr.slice 28 (.slice (some ⟨g1, 0, none⟩) 256 C1) (some (.int .i64 (16 + 16 * (j : Int)))) (some (.int .i64 (32 + 16 * (j : Int)))) none).run Tryd.prog W = .ok (.slice (some ⟨g1, 16 + 16 * j, none⟩) 16 (C1 - (16 + 16 * j))) W := fun W => by have := slice_ob W g1 0 C1 j hlt hcap1; rwa [Nat.zero_add] at this
          have hs2 : ∀ W : World, (Instr.slice 28 (.slice (some ⟨g2, 0, none⟩) 256 C2) (some (.int .i64 (16 + 16 * (j : Int)))) (some (.int .i64 (32 + 16 * (j : Int)))) none).run Tryd.prog W = .ok (.slice (some ⟨g2, 16 + 16 * j, none⟩) 16 (C2 - (16 + 16 * j))) W := fun W => by have := slice_ob W g2 0 C2 j hlt hcap2; rwa [Nat.zero_add] at this
          have hw1 := HWN1.out j hlt
          have hw2 := HWN2.out j hlt
          have hm1 := HMO.out.2 _ (data_at HMO.out hlt)
          have hm2 := HMM.out.2 _ (data_at HMM.out hlt)
          have hf1 := HF1.out _ (data_at HMO.out hlt)
          have hf2 := HF2.out _ (data_at HMM.out hlt)
          simp only at hw1 hw2 hm1 hm2 hf1 hf2
          obtain ⟨P, hP⟩ : ∃ X, Lp.getD j p0 = X := ⟨_, rfl⟩
          obtain ⟨Q, hQ⟩ : ∃ X, Mp.getD j p0 = X := ⟨_, rfl⟩
          rw [hP] at hw1 hm1 hf1
          rw [hQ] at hw2 hm2 hf2
          obtain ⟨r, hr⟩ := bool_of (P = Q)
          have hse := str_eq (bytesP P) (bytesP Q) r (hr.trans (bytesP_inj hm1 hm2 hf1 hf2).symm)
          have heq : eqP P Q = r := by
            cases r with
            | true => exact (eqP_iff P Q).2 (hr.1 rfl)
            | false => exact decide_eq_false fun e => by have := hr.2 e; cases this
          have hpp : eqP P P = true := (eqP_iff P P).2 rfl
          have hpr := bytesP_read hm1 hf1
          have HPE := Lib.hid hP
          have HQE := Lib.hid hQ
          have HW1' := Lib.hid hw1
          have HW2' := Lib.hid hw2
          have HPR := Lib.hid hpr
          clear hP hQ hw1 hw2 hm1 hm2 hf1 hf2 hr hpr
          obtain ⟨x, y, z, t, u⟩ := P
          obtain ⟨x', y', z', t', u'⟩ := Q
          have hlit := eqPt_lit x y z t u x' y' z' t' u'
          have hlip := eqPt_lit x y z t u x y z t u
          rw [heq] at hlit
          rw [hpp] at hlip
          clear heq hpp
          have HWF := Lib.hid HF1.out
          obtain ⟨S1, hS1⟩ : ∃ X, bytesP (x, y, z, t, u) = X := ⟨_, rfl⟩
          obtain ⟨S2, hS2⟩ : ∃ X, bytesP (x', y', z', t', u') = X := ⟨_, rfl⟩
          rw [hS1] at hse HPR HW1'
          rw [hS2] at hse HW2'
          clear hS1 hS2
          have HSE := Lib.hid hse
          have HLI := Lib.hid hlit
          have HLP := Lib.hid hlip
          clear hse hlit hlip
          go_wp2_with fail
          obtain ⟨wd13, hwd⟩ : ∃ wd, wr.drew = wd := ⟨_, rfl⟩
          have bq : Below wr.heap.size wr wd13 := by rw [← hwd]; exact (Below.refl _ wr).drew
          replace HX := Lib.hid (HX.out.below bq HX.out.lt)
          replace HY := Lib.hid (HY.out.below bq HY.out.lt)
          replace HP := Lib.hid (HP.out.step bq)
          replace HQ := Lib.hid (HQ.out.step bq)
          replace HZ := Lib.hid (HZ.out.step bq)
          replace HB := Lib.hid (HB.out.trans (bq.mono HB.out.size))
          replace HR := Lib.hid (HR.out.step bq)
          replace HS := Lib.hid (HS.out.step bq)
          replace HBR := Lib.hid (HBR.out.trans (bq.mono HBR.out.size))
          have hwd0 := Below.refl wd13.heap.size wd13
          refine wpI_start (Below wd13.heap.size wd13) [0, 1, 2, 3, 4, 5, 6, 7, 8, 9, 10, 11, 12, 13, 14, 15, 16, 17] hmx rfl hwd ?_
          clear hwd bq
          iterate 18 (
            refine wpI_read (v := ?_) hwd0 rfl (by kernel_rfl) (by kernel_rfl) (by kernel_rfl) (fun _ _ _ h => h) (.inl ⟨by rfl, ?_⟩) ?_
            rotate_left
            · intro X hX
              clear hX
              go_simp
              with_reducible rfl
            try simp only [Act.put, List.setIfInBounds_toArray, List.set_cons_zero, List.set_cons_succ])
          refine wpI_done (by kernel_rfl) ?_
          clear hs1 hs2 m1 m2 m3 hwd0
          go_wp2_with fail
          obtain ⟨wd14, hwd⟩ : ∃ wd, wd13.drew = wd := ⟨_, rfl⟩
          have bq : Below wd13.heap.size wd13 wd14 := by rw [← hwd]; exact (Below.refl _ wd13).drew
          replace HX := Lib.hid (HX.out.below bq HX.out.lt)
          replace HY := Lib.hid (HY.out.below bq HY.out.lt)
          replace HP := Lib.hid (HP.out.step bq)
          replace HQ := Lib.hid (HQ.out.step bq)
          replace HZ := Lib.hid (HZ.out.step bq)
          replace HB := Lib.hid (HB.out.trans (bq.mono HB.out.size))
          replace HR := Lib.hid (HR.out.step bq)
          replace HS := Lib.hid (HS.out.step bq)
          replace HBR := Lib.hid (HBR.out.trans (bq.mono HBR.out.size))
          have hwd0 := Below.refl wd14.heap.size wd14
          refine wpI_start (Below wd14.heap.size wd14) [0, 1, 2, 3, 4, 5, 6, 7, 8, 9, 10, 11, 12, 13, 14, 15, 16] hmx rfl hwd ?_
          clear hwd bq
          iterate 17 (
            refine wpI_read (v := ?_) hwd0 rfl (by kernel_rfl) (by kernel_rfl) (by kernel_rfl) (fun _ _ _ h => h) (.inl ⟨by rfl, ?_⟩) ?_
            rotate_left
            · intro X hX
              obtain ⟨_, _, ea, _, _, p0_, p1_, p2_, p3_, p4_⟩ := (HP.out.below hX).cells j hlt
              cases ea
              rw [HPE.out] at p0_ p1_ p2_ p3_ p4_
              simp only at p0_ p1_ p2_ p3_ p4_
              obtain ⟨_, _, ea, _, _, q0_, q1_, q2_, q3_, q4_⟩ := (HQ.out.below hX).cells j hlt
              cases ea
              rw [HQE.out] at q0_ q1_ q2_ q3_ q4_
              simp only at q0_ q1_ q2_ q3_ q4_
              have c3 := ox3 (HX.out.below hX HX.out.lt)
              have d3 := ox3 (HY.out.below hX HY.out.lt)
              have v1 := ((HR.out.below hX).win (16 + 16 * j) 16 (by omega)).conv
              have v2 := ((HS.out.below hX).win (16 + 16 * j) 16 (by omega)).conv
              rw [HW1'.out, Nat.zero_add] at v1
              rw [HW2'.out, Nat.zero_add] at v2
              have hse := HSE.out
              have hlit := HLI.out
              clear hX
              go_simp
              with_reducible rfl
            try simp only [Act.put, List.setIfInBounds_toArray, List.set_cons_zero, List.set_cons_succ])
          refine wpI_done (by kernel_rfl) ?_
          clear hwd0
          have hb16 := (HR.out.win (16 + 16 * j) 16 (by omega))
          rw [HW1'.out, Nat.zero_add] at hb16
          have hrd := Read_any _ 16 _ S1 wd14 hb16 HZ.out
          rw [HPR.out] at hrd
          have HRD := Lib.hid hrd
          clear hb16 hrd
          go_wp2_with fail
          refine HRD.out.mono ?_
          rintro e w16 ⟨rfl, bq⟩
          replace HX := Lib.hid (HX.out.below bq HX.out.lt)
          replace HY := Lib.hid (HY.out.below bq HY.out.lt)
          replace HP := Lib.hid (HP.out.step bq)
          replace HQ := Lib.hid (HQ.out.step bq)
          replace HZ := Lib.hid (HZ.out.step bq)
          replace HB := Lib.hid (HB.out.trans (bq.mono HB.out.size))
          replace HR := Lib.hid (HR.out.step bq)
          replace HS := Lib.hid (HS.out.step bq)
          replace HBR := Lib.hid (HBR.out.trans (bq.mono HBR.out.size))
          clear bq HRD
          have bq := (Below.refl w16.heap.size w16).alloc (Nat.le_refl _) (.cells #[.int .i64 x, .int .u32 (y : Int), .int .u32 (z : Int), .int .u32 (t : Int), .int .u32 (u : Int)] 42)
          have hq16 := Blk.new w16 42 #[.int .i64 x, .int .u32 (y : Int), .int .u32 (z : Int), .int .u32 (t : Int), .int .u32 (u : Int)]
          go_wp2_with fail
          obtain ⟨w17, hn⟩ : ∃ X, w16.alloc (.cells #[.int .i64 x, .int .u32 (y : Int), .int .u32 (z : Int), .int .u32 (t : Int), .int .u32 (u : Int)] 42) = X := ⟨_, rfl⟩
          rw [hn] at bq hq16
          try rw [hn]
          replace HX := Lib.hid (HX.out.below bq HX.out.lt)
          replace HY := Lib.hid (HY.out.below bq HY.out.lt)
          replace HP := Lib.hid (HP.out.step bq)
          replace HQ := Lib.hid (HQ.out.step bq)
          replace HZ := Lib.hid (HZ.out.step bq)
          replace HB := Lib.hid (HB.out.trans (bq.mono HB.out.size))
          replace HR := Lib.hid (HR.out.step bq)
          replace HS := Lib.hid (HS.out.step bq)
          replace HBR := Lib.hid (HBR.out.trans (bq.mono HBR.out.size))
          clear bq hn
          obtain ⟨gq, hgq⟩ : ∃ X, w16.heap.size = X := ⟨_, rfl⟩
          rw [hgq] at hq16
          try rw [hgq]
          have HGQ := Lib.hid hq16
          clear hq16 hgq
          obtain ⟨wd17, hwd⟩ : ∃ wd, w17.drew = wd := ⟨_, rfl⟩
          have bq : Below w17.heap.size w17 wd17 := by rw [← hwd]; exact (Below.refl _ w17).drew
          replace HX := Lib.hid (HX.out.below bq HX.out.lt)
          replace HY := Lib.hid (HY.out.below bq HY.out.lt)
          replace HP := Lib.hid (HP.out.step bq)
          replace HQ := Lib.hid (HQ.out.step bq)
          replace HZ := Lib.hid (HZ.out.step bq)
          replace HB := Lib.hid (HB.out.trans (bq.mono HB.out.size))
          replace HR := Lib.hid (HR.out.step bq)
          replace HS := Lib.hid (HS.out.step bq)
          replace HBR := Lib.hid (HBR.out.trans (bq.mono HBR.out.size))
          replace HGQ := Lib.hid (HGQ.out.below bq HGQ.out.lt)
          have hwd0 := Below.refl wd17.heap.size wd17
          refine wpI_start (Below wd17.heap.size wd17) [0, 1, 2, 3, 4, 5, 6, 7, 8, 9, 10] hmx rfl hwd ?_
          clear hwd bq
          iterate 11 (
            refine wpI_read (v := ?_) hwd0 rfl (by kernel_rfl) (by kernel_rfl) (by kernel_rfl) (fun _ _ _ h => h) (.inl ⟨by rfl, ?_⟩) ?_
            rotate_left
            · intro X hX
              obtain ⟨_, _, ea, _, _, p0_, p1_, p2_, p3_, p4_⟩ := (HP.out.below hX).cells j hlt
              cases ea
              rw [HPE.out] at p0_ p1_ p2_ p3_ p4_
              simp only at p0_ p1_ p2_ p3_ p4_
              have c3 := ox3 (HX.out.below hX HX.out.lt)
              obtain ⟨g0_, g1_, g2_, g3_, g4_⟩ := (HGQ.out.below hX HGQ.out.lt).five
              have hlip := HLP.out
              clear hX
              go_simp
              with_reducible rfl
            try simp only [Act.put, List.setIfInBounds_toArray, List.set_cons_zero, List.set_cons_succ])
          refine wpI_done (by kernel_rfl) ?_
          clear hwd0
          go_wp2_with fail
          go_roundw
          case rel => exact ⟨j + 1, by omega, by go_num, HBR.out⟩
          case measure => simp [intOf]; omega
        · have j1 : ¬ (j : Int) < 15 := by omega
          go_wp2_with fail
          go_ret
          exact ⟨rfl, HB.out⟩
    · have c0 := ox0 HX.out
      have c1 := ox1 HX.out
      have c2 := ox2 HX.out
      have c3 := ox3 HX.out
      have HCK := Lib.hid (HCO.out w1 HP.out 0 ⟨fun _ => rfl, fun h => absurd q1 h⟩)
      go_wp2_with fail
      clear c0 c1 c2 c3
      refine HCK.out.mono ?_
      rintro e w2 ⟨rfl, bq⟩
      replace HX := Lib.hid (HX.out.below bq HX.out.lt)
      replace HY := Lib.hid (HY.out.below bq HY.out.lt)
      replace HP := Lib.hid (HP.out.step bq)
      replace HQ := Lib.hid (HQ.out.step bq)
      replace HZ := Lib.hid (HZ.out.step bq)
      replace HB := Lib.hid (HB.out.trans (bq.mono HB.out.size))
      clear bq HCK
      have d0 := ox0 HY.out
      have d1 := ox1 HY.out
      have d2 := ox2 HY.out
      have d3 := ox3 HY.out
      have HCK := Lib.hid (HCM.out w2 HQ.out 8 ⟨fun h => absurd h q2, fun _ => rfl⟩)
      go_wp2_with fail
      clear d0 d1 d2 d3
      refine HCK.out.mono ?_
      rintro e w3 ⟨rfl, bq⟩
      replace HX := Lib.hid (HX.out.below bq HX.out.lt)
      replace HY := Lib.hid (HY.out.below bq HY.out.lt)
      replace HP := Lib.hid (HP.out.step bq)
      replace HQ := Lib.hid (HQ.out.step bq)
      replace HZ := Lib.hid (HZ.out.step bq)
      replace HB := Lib.hid (HB.out.trans (bq.mono HB.out.size))
      clear bq HCK
      go_wp2_with fail
      go_ret
      exact ⟨rfl, HB.out⟩
  · have c0 := ox0 HX.out
    have c1 := ox1 HX.out
    have c2 := ox2 HX.out
    have c3 := ox3 HX.out
    have HCK := Lib.hid (HCO.out w1 HP.out 8 ⟨fun h => absurd h q1, fun _ => rfl⟩)
    go_wp2_with fail
    clear c0 c1 c2 c3
    refine HCK.out.mono ?_
    rintro e w2 ⟨rfl, bq⟩
    replace HX := Lib.hid (HX.out.below bq HX.out.lt)
    replace HY := Lib.hid (HY.out.below bq HY.out.lt)
    replace HP := Lib.hid (HP.out.step bq)
    replace HQ := Lib.hid (HQ.out.step bq)
    replace HZ := Lib.hid (HZ.out.step bq)
    replace HB := Lib.hid (HB.out.trans (bq.mono HB.out.size))
    clear bq HCK
    go_wp2_with fail
    go_ret
    exact ⟨rfl, HB.out⟩
end Go.Proofs.YtennhempdnpobaaDoor
namespace Go.Proofs.YtennhempdnpobaaDoor.objParts
open Go.ChangeShapes Go.WideShapes Go.ChangeAt Go.RowKit
set_option linter.unusedVariables false

theorem own : ownKnob Tryd.prog.godebug = none := by kernel_rfl
theorem laidOut : laidOutB Tryd.prog = true := by kernel_rfl

set_option maxRecDepth 100000 in
theorem lifted (os : Os) (started : os.Started) (H : Type) (enc : TypeId × Value → H) :
    ReturnsInHanded {} Tryd.checked os 6 .any (fun w args => (Rows.objPartsSpec.pre enc Tryd.prog Tryd.f6 [] false w args ∧ laidMetH Tryd.prog [("charterhouse/ptr.sizes", Rows.laid_charterhouse_ptr_sizes)] w) ∧ sizedMet enc Tryd.prog Tryd.f6 (OpenSpec.ofChange Rows.objPartsSpec) false w args)
      (Rows.objPartsSpec.post enc Tryd.prog Tryd.f6 false true false false) := by
  refine returnsInHanded_of_change_and (C := Tryd.checked) (X := fun w _ => laidMetH Tryd.prog [("charterhouse/ptr.sizes", Rows.laid_charterhouse_ptr_sizes)] w) (fun _ _ _ hh h => h.of_heap hh) own started (by kernel_rfl) Tryd.func6
    (ChangeSpec.witness_shaped (enc := enc) (C := Tryd.checked) (os := os) (X := fun w _ => laidMetH Tryd.prog [("charterhouse/ptr.sizes", Rows.laid_charterhouse_ptr_sizes)] w) false (World.doorLaid Tryd.prog 400 os) #[.agg #[.int .u8 0, .int .i64 0, .int .i64 0, .slice none 0 0], .agg #[.int .u8 0, .int .i64 0, .int .i64 0, .slice none 0 0]] 8 rfl (World.shaped_of_RefB (by kernel_rfl) (by kernel_rfl)) (by kernel_rfl) (by kernel_rfl) (by kernel_rfl) (door_met os _)) ?_
  intro W base args ds gs before hval0 hW _ _ hL _
  have hval : ∀ (j : Nat) t v, Tryd.f6.params[j]? = some t → args[j]? = some v → Value.okWide Tryd.prog W .any base t v := hval0
  have hW' := hW
  obtain ⟨p, q, hA0, hV, rfl, hfz, hnd⟩ := hW
  have hA : DataW.TrodAll enc Tryd.prog W 0 (fun _ => true) true Tryd.f6.params.toList args.toList ds p := hA0
  rw [Tryd.params6] at hA hval
  obtain ⟨v0, vs0, d0, ds0, p0, q0, hargs, rfl, rfl, h0, r0⟩ := trodAll_cons hA
  obtain ⟨v1, vs1, d1, ds1, p1, q1, rfl, rfl, rfl, h1, r1⟩ := trodAll_cons r0
  obtain ⟨rfl, rfl, rfl⟩ := trodAll_nil r1
  obtain rfl : args = #[v0, v1] := by cases args; simp_all
  obtain ⟨rfl, rfl⟩ := trodVars_none hV
  have k0 := h0
  have lt0 : ∀ x ∈ p0, x.block < W.heap.size := by obtain ⟨m, hm⟩ := k0; exact DataW.trod_lt m _ _ _ hm
  obtain ⟨oa0, oc0, O0, rfl, w0, f0⟩ := open_object (hval 0 24 v0 rfl rfl) h0
  have k1 := h1
  have lt1 : ∀ x ∈ p1, x.block < W.heap.size := by obtain ⟨m, hm⟩ := k1; exact DataW.trod_lt m _ _ _ hm
  obtain ⟨oa1, oc1, O1, rfl, w1, f1⟩ := open_object (hval 1 24 v1 rfl rfl) h1
  clear hA0 hval0
  refine (objParts_walk oa0 oc0 O0 oa1 oc1 O1 W (szs_of_laid hL) w0 f0 w1 f1).mono fun e W' ⟨he, bel⟩ => ?_
  subst he
  exact ⟨_, rfl, _, _, _, [], _, [], hW', trodAll_mk1 (shut_bool Tryd.underlying4 _), (trodAll_cons_mk (Below.trod laidOut (by kernel_rfl) (of_decide_eq_true (by kernel_rfl)) k0 bel lt0) (trodAll_cons_mk (Below.trod laidOut (by kernel_rfl) (of_decide_eq_true (by kernel_rfl)) k1 bel lt1) trodAll_mk0)), rfl, bel.frame _, fun h => by cases h⟩

theorem over : Rows.ObjPartsSaid :=
  OpenClaim.holds_of_wide 6 Tryd.f6 rfl rfl rfl rfl rfl rfl rfl ⟨rfl, rfl, rfl, rfl, rfl⟩ rfl rfl rfl rfl rfl (by kernel_rfl) Tryd.func6 (by kernel_rfl)
    (of_decide_eq_true (by kernel_rfl)) (by unfold Func.isWrapper; first | (rw [if_pos (by decide +kernel)]; kernel_rfl) | (rw [if_neg (by decide +kernel)]; exact ⟨rfl, rfl⟩))
    (fun os started H enc _ => lifted os started H enc)

/-- The statement. -/
theorem proved : Rows.ObjPartsCardSaid :=
  Claim7.holds_tied_plain_at .later [] [.data] true _ false
    over (fun _ h => by cases h) (by kernel_rfl) (fun _ h => by cases h) objParts_row_tie rfl ⟨rfl, rfl⟩ (by kernel_rfl) rfl
    (fun f fn hf hfn => by
      obtain rfl : f = 6 := Option.some.inj ((show Tryd.prog.funcNamed "charterhouse/charterhouselaw14.ObjParts" = some 6 by kernel_rfl).symm.trans hf) |>.symm
      obtain rfl : fn = Tryd.f6 := (Option.some.inj (Tryd.func6.symm.trans hfn)).symm
      exact ⟨by kernel_rfl, fun j t ht => by
        rw [Tryd.params6] at ht
        have hm : t ∈ [24, 24] := by simpa using Array.mem_of_getElem? ht
        have hall : ([24, 24].all fun u => !Tryd.prog.wantsStandIn u) = true := by kernel_rfl
        exact (show Tryd.prog.wantsStandIn t = false by simpa using List.all_eq_true.1 hall t hm)⟩)
    (by kernel_rfl)
end Go.Proofs.YtennhempdnpobaaDoor.objParts
