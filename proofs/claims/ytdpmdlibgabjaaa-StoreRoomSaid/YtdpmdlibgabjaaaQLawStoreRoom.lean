/-
  StoreRoomSaid: for any store, birth and bytes (where they are great, or the store may not be, the law itself answers what its example answers) a block is laid just where there is room, in the lowest free block; a second one has another. No condition.
-/
import Derived.Test.YtdpmdlibgabjaaaRows
import Derived.BigQuiet
import Derived.Test.YtdpmdlibgabjaaaPkSP6
namespace Go.Proofs.Ytdpmdlibgabjaaa
open Go.RowKit Go.Shelf
set_option maxRecDepth 100000

theorem p0_zero (W : World) : (Op.equalIn 10000 32 (.agg #[.int .i64 0, .int .u32 0, .int .u32 0, .int .u32 0, .int .u32 0]) (.agg #[.int .i64 0, .int .u32 0, .int .u32 0, .int .u32 0, .int .u32 0])).run Try.prog W = .ok true W := by
  have := eqPt_zero 0 0 0 0 0 W
  rw [(eqP_iff _ _).2 rfl] at this
  exact this
theorem num_cell {w : World} {B g n c : Nat} {l : List Nat} (h : w.ownsRow B 3 1 (.slice (some ⟨g, 0, none⟩) n c) n (valsN l)) (i : Nat) (hi : i < n) : w.cell? ⟨g, i, none⟩ = some (.int .i64 ((l.getD i 0 : Nat) : Int)) := by
  have hl : l.length = n := by have := h.1; simpa [valsN] using this
  rw [own_cell h i hi, valsN, List.getD_eq_getElem?_getD, List.getElem?_map, List.getElem?_eq_getElem (by omega), List.getD_eq_getElem?_getD, List.getElem?_eq_getElem (by omega)]
  rfl
theorem num_at {w : World} {B n : Nat} {v : Value} {l : List Nat} (h : w.ownsRow B 3 1 v n (valsN l)) (hn : 0 < n) : ∃ g c, v = .slice (some ⟨g, 0, none⟩) n c := by
  obtain ⟨g, c, e, _⟩ := nsl_of_own h hn
  exact ⟨g, c, e⟩
set_option maxHeartbeats 32000000 in
theorem storeRoom_at (x : SAt) (S : StL) (birth : Nat) (A : Option Addr) (ca : Nat) (a : List UInt8) (B : Option Addr) (cb : Nat) (b : List UInt8) (w : World) (h : Str w w.heap.size x S) (hnear : Near S.1) (hwf : WfS S) (hbi : birth < 4294967296) (hA : Bsl w w.heap.size A a.length ca a) (hB : Bsl w w.heap.size B b.length cb b) :
    Calls Try.prog 6 #[stV x S, .int .u32 birth, .slice A a.length ca, .slice B b.length cb] w fun e w' => e = .returned (.bool true) ∧ Below w.heap.size w w' := by
  have hmx : Try.prog.follows Departure.mixedOrders = true := by kernel_rfl
  have h1 := h.lasts (Nat.le_refl _)
  have la9 := hA.len_le
  have lb9 := hB.len_le
  have la0 : (0 : Int) ≤ a.length := by omega
  have lb0 : (0 : Int) ≤ b.length := by omega
  have bi0 : (0 : Int) ≤ birth := by omega
  have bi9 : (birth : Int) ≤ 4294967295 := by omega
  obtain ⟨L, hL⟩ : ∃ L, w.heap.size = L := ⟨_, rfl⟩
  rw [hL] at h1
  obtain ⟨w0, hw0⟩ : ∃ w0, w.alloc (.cells (stC x S) 30) = w0 := ⟨_, rfl⟩
  have b0 : Below w.heap.size w w0 := by rw [← hw0]; exact (Below.refl _ w).alloc (Nat.le_refl _) _
  have HX := Lib.hid (show Blk w0 w.heap.size 30 (stC x S) by rw [← hw0]; exact Blk.new w _ _)
  have HT := Lib.hid (h1.bel b0)
  have HLW := Lib.hid (show L ≤ w0.heap.size by rw [← hL]; exact b0.size)
  have HB := Lib.hid b0
  have HN := Lib.hid hnear
  have HWF := Lib.hid hwf
  have HBI := Lib.hid hbi
  have HAA := Lib.hid (hA.step b0)
  have HBB := Lib.hid (hB.step b0)
  obtain ⟨g, hg⟩ : ∃ g, w.heap.size = g := ⟨_, rfl⟩
  rw [hg] at HX
  simp only [stC] at hw0
  clear h h1 hL b0 hnear hwf hbi hA hB
  go_enter Try.func6, Try.ntmps6
  go_wp2_with fail
  try rw [hw0]
  try rw [hg]
  clear hw0 hg
  refine (stAlive_any w0).mono ?_
  rintro e w1 ⟨rfl, b1⟩
  replace HX := Lib.hid (HX.out.below b1 HX.out.lt)
  replace HT := Lib.hid (HT.out.bel b1)
  replace HAA := Lib.hid (HAA.out.step b1)
  replace HBB := Lib.hid (HBB.out.step b1)
  replace HB := Lib.hid (HB.out.trans (b1.mono HB.out.size))
  replace HLW := Lib.hid (Nat.le_trans HLW.out b1.size)
  clear b1
  have d0 := bx0 HX.out
  have d1 := bx1 HX.out
  have d2 := bx2 HX.out
  have d3 := bx3 HX.out
  have d4 := bx4 HX.out
  have HG := Lib.hid (rtGreat_any L x S w1 HT.out HN.out)
  go_wp2_with fail
  clear d0 d1 d2 d3 d4
  refine HG.out.mono ?_
  rintro e w2 ⟨gr, rfl, hsm, b2⟩
  replace HX := Lib.hid (HX.out.below b2 HX.out.lt)
  replace HT := Lib.hid (HT.out.bel b2)
  replace HAA := Lib.hid (HAA.out.step b2)
  replace HBB := Lib.hid (HBB.out.step b2)
  replace HB := Lib.hid (HB.out.trans (b2.mono HB.out.size))
  replace HLW := Lib.hid (Nat.le_trans HLW.out b2.size)
  clear b2 HG
  cases gr with
  | true =>
    go_wp2_with fail
    go_ret
    exact ⟨rfl, HB.out⟩
  | false =>
    have HOK := Lib.hid (show OkS S from ⟨small_fits (hsm rfl).1, by have := (hsm rfl).2; omega, HWF.out⟩)
    clear hsm
    by_cases h1 : (10000 : Int) < a.length
    · go_wp2_with fail
      go_ret
      exact ⟨rfl, HB.out⟩
    · by_cases h2 : (10000 : Int) < b.length
      · go_wp2_with fail
        go_ret
        exact ⟨rfl, HB.out⟩
      · by_cases hm : MayS S
        · have HC := Lib.hid (stCheck_any L x S w2 HT.out HOK.out HLW.out 0 ⟨fun _ => rfl, fun k => absurd hm k⟩)
          have HM := Lib.hid hm
          have d0 := bx0 HX.out
          have d1 := bx1 HX.out
          have d2 := bx2 HX.out
          have d3 := bx3 HX.out
          have d4 := bx4 HX.out
          clear hm
          go_wp2_with fail
          clear d0 d1 d2 d3 d4
          refine HC.out.mono ?_
          rintro e w3 ⟨rfl, b3⟩
          replace HX := Lib.hid (HX.out.below b3 HX.out.lt)
          replace HT := Lib.hid (HT.out.bel b3)
          replace HAA := Lib.hid (HAA.out.step b3)
          replace HBB := Lib.hid (HBB.out.step b3)
          replace HB := Lib.hid (HB.out.trans (b3.mono HB.out.size))
          replace HLW := Lib.hid (Nat.le_trans HLW.out b3.size)
          clear b3 HC
          have d2 := bx2 HX.out
          have HF := Lib.hid (spFree_ok x.a S.2.1.length x.c S.2.1 w3 HT.out.now.2 HM.out.2.1)
          go_wp2_with fail
          clear d2
          refine HF.out.mono ?_
          rintro e w4 ⟨v, rfl, hv, b4⟩
          replace HX := Lib.hid (HX.out.below b4 HX.out.lt)
          replace HT := Lib.hid (HT.out.bel b4)
          replace HAA := Lib.hid (HAA.out.step b4)
          replace HBB := Lib.hid (HBB.out.step b4)
          replace HB := Lib.hid (HB.out.trans (b4.mono HB.out.size))
          replace HLW := Lib.hid (Nat.le_trans HLW.out b4.size)
          clear b4 HF
          have HY := Lib.hid (stLay_any L x S birth A ca a w4 HT.out HAA.out HOK.out HLW.out HBI.out)
          rcases rawO_cases S birth 0 0 a with ⟨eg, heg, hne, hno⟩ | ⟨k, r, _, hbr, hal, hk, hz, hw4, hfr, heg⟩
          · rw [heg] at HY
            obtain ⟨vl, cl, rfl⟩ := ownN_slice hv
            have HNO := Lib.hid (hno HM.out)
            have d0 := bx0 HX.out
            have d1 := bx1 HX.out
            have d2 := bx2 HX.out
            have d3 := bx3 HX.out
            have d4 := bx4 HX.out
            clear heg hno hv
            go_wp2_with fail
            clear d0 d1 d2 d3 d4
            refine HY.out.mono ?_
            rintro e w5 ⟨y, rfl, _, _, b5⟩
            replace HX := Lib.hid (HX.out.below b5 HX.out.lt)
            replace HT := Lib.hid (HT.out.bel b5)
            replace HAA := Lib.hid (HAA.out.step b5)
            replace HBB := Lib.hid (HBB.out.step b5)
            replace HB := Lib.hid (HB.out.trans (b5.mono HB.out.size))
            replace HLW := Lib.hid (Nat.le_trans HLW.out b5.size)
            clear b5 HY
            obtain ⟨w6, hw6, b6, z6, xT, xP⟩ := two_al w5 #[.slice y.d.ba 0 y.d.bc, .slice y.d.wa 0 y.d.wc, .slice y.a 0 y.c, .int .u32 0, .int .u32 0] #[.int .i64 0, .int .u32 0, .int .u32 0, .int .u32 0, .int .u32 0] 30 32
            replace HX := Lib.hid (HX.out.below b6 HX.out.lt)
            replace HT := Lib.hid (HT.out.bel b6)
            replace HAA := Lib.hid (HAA.out.step b6)
            replace HBB := Lib.hid (HBB.out.step b6)
            replace HB := Lib.hid (HB.out.trans (b6.mono HB.out.size))
            replace HLW := Lib.hid (Nat.le_trans HLW.out b6.size)
            have e1 : ((eg : Int) == 0) = false := by simp; omega
            have e2 : ((eg : Int) != 0) = true := by simp; omega
            have q0 := bx0 xP
            have q1 := bx1 xP
            have q2 := bx2 xP
            have q3 := bx3 xP
            have q4 := bx4 xP
            have m2 := bx2 xT
            have d0 := bx0 HX.out
            have d1 := bx1 HX.out
            have d2 := bx2 HX.out
            have d3 := bx3 HX.out
            have d4 := bx4 HX.out
            have hpz := p0_zero
            clear b6 z6 xT xP hne
            rw [← hw6] at q0 q1 q2 q3 q4 m2 d0 d1 d2 d3 d4
            have HW6 := Lib.hid hw6
            clear hw6
            obtain ⟨bz, hbz⟩ : ∃ z : Int, (birth : Int) = z := ⟨_, rfl⟩
            rw [hbz] at bi0 bi9 ⊢
            have HBZ := Lib.hid hbz
            clear hbz
            have HFE : Hid ((freeTo S.2.1 256).length = 0 ∨ (freeTo S.2.1 256).length ≠ 0) := Lib.hid (by omega)
            have fi0 : (0 : Int) ≤ (freeTo S.2.1 256).length := by omega
            have wi0 : (0 : Int) ≤ S.1.2.length := by omega
            rcases HFE.out with hf0 | hf0
            · have f1 : ¬ (0 : Int) < (freeTo S.2.1 256).length := by omega
              have f1' : decide ((0 : Int) < (freeTo S.2.1 256).length) = false := decide_eq_false f1
              clear hf0 fi0
              go_wp2_with fail
              go_ret
              exact ⟨rfl, by have := HB.out; rw [← HW6.out] at this; exact this⟩
            · have f1 : (0 : Int) < (freeTo S.2.1 256).length := by omega
              by_cases hw : 4096 ≤ S.1.2.length
              · have f2 : ¬ (S.1.2.length : Int) < 4096 := by omega
                have f2' : decide ((S.1.2.length : Int) < 4096) = false := decide_eq_false f2
                clear hw
                go_wp2_with fail
                go_ret
                exact ⟨rfl, by have := HB.out; rw [← HW6.out] at this; exact this⟩
              · have f2 : (S.1.2.length : Int) < 4096 := by omega
                by_cases hb1 : bz < 1
                · have f3 : ¬ (1 : Int) ≤ bz := by omega
                  have f3' : decide ((1 : Int) ≤ bz) = false := decide_eq_false f3
                  clear hb1
                  go_wp2_with fail
                  go_ret
                  exact ⟨rfl, by have := HB.out; rw [← HW6.out] at this; exact this⟩
                · have f3 : (1 : Int) ≤ bz := by omega
                  by_cases hb2 : 16777216 ≤ bz
                  · have f4' : decide (bz < 16777216) = false := decide_eq_false (by omega)
                    clear hb2 hb1 hw hf0
                    go_wp2_with fail
                    go_ret
                    exact ⟨rfl, by have := HB.out; rw [← HW6.out] at this; exact this⟩
                  · have f4 : bz < 16777216 := by omega
                    by_cases hal : a.length = 256
                    · exfalso
                      have := HBZ.out
                      rcases HNO.out ⟨by omega, by omega⟩ hal with h | h
                      · rw [h] at hf0; simp at hf0
                      · omega
                    · have f5 : ((a.length : Int) == 256) = false := by simp; omega
                      clear hb2 hb1 hw hf0 hal
                      go_wp2_with fail
                      go_ret
                      exact ⟨rfl, by have := HB.out; rw [← HW6.out] at this; exact this⟩
          · rw [heg] at HY
            rw [hfr] at hv
            obtain ⟨nl, hnl⟩ : ∃ nl, (k :: r).length = nl := ⟨_, rfl⟩
            rw [hnl] at hv
            have hn0 : 0 < nl := by rw [← hnl]; simp
            obtain ⟨vg, vc, rfl⟩ := num_at hv hn0
            have HV := Lib.hid hv
            have HFR := Lib.hid hfr
            have HNL := Lib.hid hnl
            have HK2 := Lib.hid hk
            have HBR := Lib.hid hbr
            have HTM := Lib.hid (putAt_may HM.out hk hal hw4)
            have HPW := Lib.hid (wf_putP (k := k) (birth := birth) (iv := 0) (tag := 0) hk.2 hbr.2 (by omega) (by omega) a)
            have HPM := Lib.hid (ptr_may hk hbr 0 0 (sumOf a))
            have HSE := Lib.hid (seenO_put S (k := k) hbr.1 0 0 a)
            have HFN := Lib.hid (free_next HM.out.2.1.1 hfr)
            have HAL := Lib.hid hal
            have f1 : (0 : Int) < nl := by omega
            have f2 : (S.1.2.length : Int) < 4096 := by omega
            have f5 : ((a.length : Int) == 256) = true := by simp [hal]
            have HBQ := Lib.hid hbr
            obtain ⟨T, hT⟩ : ∃ T, putAt S k a = T := ⟨_, rfl⟩
            have HFN' : Hid (freeTo T.2.1 256 = r) := Lib.hid (by rw [← hT]; exact HFN.out)
            rw [hT] at HY HTM HSE
            clear hT HFN hfr hnl hn0 heg hv hk hz hw4 hal hbr
            have d0 := bx0 HX.out
            have d1 := bx1 HX.out
            have d2 := bx2 HX.out
            have d3 := bx3 HX.out
            have d4 := bx4 HX.out
            go_wp2_with fail
            clear d0 d1 d2 d3 d4
            refine HY.out.mono ?_
            rintro e w5 ⟨y, rfl, hy, _, b5⟩
            replace HX := Lib.hid (HX.out.below b5 HX.out.lt)
            replace HT := Lib.hid (HT.out.bel b5)
            replace HAA := Lib.hid (HAA.out.step b5)
            replace HBB := Lib.hid (HBB.out.step b5)
            replace HB := Lib.hid (HB.out.trans (b5.mono HB.out.size))
            replace HV := Lib.hid (own_below HV.out b5)
            replace HLW := Lib.hid (Nat.le_trans HLW.out b5.size)
            have HYT := Lib.hid hy
            clear b5 HY hy
            obtain ⟨w6, hw6, b6, z6, xT, xP⟩ := two_al w5 (stC y T) #[.int .i64 (k : Int), .int .u32 (birth : Int), .int .u32 0, .int .u32 0, .int .u32 (sumOf a : Int)] 30 32
            replace HX := Lib.hid (HX.out.below b6 HX.out.lt)
            replace HT := Lib.hid (HT.out.bel b6)
            replace HAA := Lib.hid (HAA.out.step b6)
            replace HBB := Lib.hid (HBB.out.step b6)
            replace HB := Lib.hid (HB.out.trans (b6.mono HB.out.size))
            replace HV := Lib.hid (own_below HV.out b6)
            replace HYT := Lib.hid (HYT.out.bel b6)
            replace HLW := Lib.hid (Nat.le_trans HLW.out b6.size)
            have H5 := Lib.hid xT
            have H6 := Lib.hid xP
            obtain ⟨g5, hg5⟩ : ∃ g5, w5.heap.size = g5 := ⟨_, rfl⟩
            obtain ⟨g6, hg6⟩ : ∃ g6, g5 + 1 = g6 := ⟨_, rfl⟩
            have d0 := bx0 HX.out
            have d1 := bx1 HX.out
            have d2 := bx2 HX.out
            have d3 := bx3 HX.out
            have d4 := bx4 HX.out
            have m0 := bx0 H5.out
            have m1 := bx1 H5.out
            have m2 := bx2 H5.out
            have m3 := bx3 H5.out
            have m4 := bx4 H5.out
            simp only [stC] at hw6
            rw [← hw6] at d0 d1 d2 d3 d4 m0 m1 m2 m3 m4
            have HW6 := Lib.hid hw6
            have HG5 := Lib.hid (And.intro hg5 hg6)
            clear b6 z6 xT xP hw6 hg5 hg6
            obtain ⟨bz, hbz⟩ : ∃ z : Int, (birth : Int) = z := ⟨_, rfl⟩
            have f3 : (1 : Int) ≤ bz := by have := HBQ.out; omega
            have f4 : bz < 16777216 := by have := HBQ.out; omega
            rw [hbz] at bi0 bi9 ⊢
            have HBZ := Lib.hid hbz
            clear hbz
            go_wp2_with fail
            rw [HW6.out]
            rw [HG5.out.1] at H5 H6
            rw [HG5.out.2] at H6
            try rw [HG5.out.1]
            try rw [HG5.out.2]
            clear d0 d1 d2 d3 d4 m0 m1 m2 m3 m4 f1 f2 f3 f4 f5 HW6 HG5
            have HY := Lib.hid (stLay_any 0 y T birth B cb b w6 HYT.out HBB.out HTM.out.ok (Nat.zero_le _) HBI.out)
            rw [HBZ.out] at HY
            rcases rawO_cases T birth 0 0 b with ⟨eg, heg, hne, hno⟩ | ⟨k2, r2, _, hbr, hbl, hk, hz, hw4, hfr, heg⟩
            · rw [heg] at HY
              clear heg hno
              refine HY.out.mono ?_
              rintro e w7 ⟨z, rfl, _, _, b7⟩
              replace HX := Lib.hid (HX.out.below b7 HX.out.lt)
              replace HT := Lib.hid (HT.out.bel b7)
              replace HAA := Lib.hid (HAA.out.step b7)
              replace HBB := Lib.hid (HBB.out.step b7)
              replace HB := Lib.hid (HB.out.trans (b7.mono HB.out.size))
              replace HV := Lib.hid (own_below HV.out b7)
              replace HYT := Lib.hid (HYT.out.bel b7)
              replace H5 := Lib.hid (H5.out.below b7 H5.out.lt)
              replace H6 := Lib.hid (H6.out.below b7 H6.out.lt)
              replace HLW := Lib.hid (Nat.le_trans HLW.out b7.size)
              clear b7 HY
              obtain ⟨w8, hw8, b8, z8, _, _⟩ := two_al w7 #[.slice z.d.ba 0 z.d.bc, .slice z.d.wa 0 z.d.wc, .slice z.a 0 z.c, .int .u32 0, .int .u32 0] #[.int .i64 0, .int .u32 0, .int .u32 0, .int .u32 0, .int .u32 0] 30 32
              replace HX := Lib.hid (HX.out.below b8 HX.out.lt)
              replace HT := Lib.hid (HT.out.bel b8)
              replace HAA := Lib.hid (HAA.out.step b8)
              replace HBB := Lib.hid (HBB.out.step b8)
              replace HB := Lib.hid (HB.out.trans (b8.mono HB.out.size))
              replace HV := Lib.hid (own_below HV.out b8)
              replace HYT := Lib.hid (HYT.out.bel b8)
              replace H5 := Lib.hid (H5.out.below b8 H5.out.lt)
              replace H6 := Lib.hid (H6.out.below b8 H6.out.lt)
              replace HLW := Lib.hid (Nat.le_trans HLW.out b8.size)
              have e2 : ((eg : Int) != 0) = true := by simp; omega
              have HW8 := Lib.hid hw8
              have HNZ : Hid (0 < nl) := Lib.hid (by rw [← HNL.out]; simp)
              clear b8 z8 hne hw8
              go_wp2_with fail
              rw [HW8.out]
              have q0 := bx0 H6.out
              have v0 := num_cell HV.out 0 HNZ.out
              rw [show (k :: r).getD 0 0 = k from rfl] at v0
              have i1 : (0 : Int) < nl := by have := HNZ.out; omega
              have e3 : ((k : Int) == k) = true := by simp
              clear e2
              go_quiet (fail)
              go_wp2_with fail
              go_ret
              exact ⟨rfl, below_drewN HB.out _⟩
            · rw [heg] at HY
              have HNE := Lib.hid (show k ≠ k2 by
                have h1 := freeTo_nodup S.2.1 256
                rw [HFR.out] at h1
                have h2 := HFN'.out
                rw [hfr] at h2
                rw [← h2] at h1
                simp at h1
                exact h1.1.1)
              have HRR := Lib.hid (show r = k2 :: r2 by rw [← HFN'.out, hfr])
              have HUM := Lib.hid (putAt_may HTM.out hk hbl hw4)
              have HQW := Lib.hid (wf_putP (k := k2) (birth := birth) (iv := 0) (tag := 0) hk.2 hbr.2 (by omega) (by omega) b)
              have HL1 : Hid (lookO (putAt T k2 b) ((k : Int), birth, 0, 0, sumOf a) = (a, 0)) := Lib.hid (by
                rw [lookO_may HUM.out HPM.out, seenO_far T HPM.out (by have := HNE.out; show (k : Int) ≠ k2; omega)]
                exact HSE.out)
              have HL2 : Hid (lookO (putAt T k2 b) ((k2 : Int), birth, 0, 0, sumOf b) = (b, 0)) := Lib.hid (by
                rw [lookO_may HUM.out (ptr_may hk hbr 0 0 (sumOf b))]
                exact seenO_put T hbr.1 0 0 b)
              obtain ⟨U, hU⟩ : ∃ U, putAt T k2 b = U := ⟨_, rfl⟩
              rw [hU] at HY HUM HL1 HL2
              clear hU heg hbr hbl hk hz hw4 hfr
              refine HY.out.mono ?_
              rintro e w7 ⟨z, rfl, hz7, _, b7⟩
              replace HX := Lib.hid (HX.out.below b7 HX.out.lt)
              replace HT := Lib.hid (HT.out.bel b7)
              replace HAA := Lib.hid (HAA.out.step b7)
              replace HBB := Lib.hid (HBB.out.step b7)
              replace HB := Lib.hid (HB.out.trans (b7.mono HB.out.size))
              replace HV := Lib.hid (own_below HV.out b7)
              replace HYT := Lib.hid (HYT.out.bel b7)
              replace H5 := Lib.hid (H5.out.below b7 H5.out.lt)
              replace H6 := Lib.hid (H6.out.below b7 H6.out.lt)
              replace HLW := Lib.hid (Nat.le_trans HLW.out b7.size)
              have HZT := Lib.hid hz7
              clear b7 HY hz7
              obtain ⟨w8, hw8, b8, z8, xT, xP⟩ := two_al w7 (stC z U) #[.int .i64 (k2 : Int), .int .u32 (birth : Int), .int .u32 0, .int .u32 0, .int .u32 (sumOf b : Int)] 30 32
              replace HX := Lib.hid (HX.out.below b8 HX.out.lt)
              replace HT := Lib.hid (HT.out.bel b8)
              replace HAA := Lib.hid (HAA.out.step b8)
              replace HBB := Lib.hid (HBB.out.step b8)
              replace HB := Lib.hid (HB.out.trans (b8.mono HB.out.size))
              replace HV := Lib.hid (own_below HV.out b8)
              replace HYT := Lib.hid (HYT.out.bel b8)
              replace H5 := Lib.hid (H5.out.below b8 H5.out.lt)
              replace H6 := Lib.hid (H6.out.below b8 H6.out.lt)
              replace HZT := Lib.hid (HZT.out.bel b8)
              replace HLW := Lib.hid (Nat.le_trans HLW.out b8.size)
              have H7 := Lib.hid xT
              have H8 := Lib.hid xP
              have m0 := bx0 H7.out
              have m1 := bx1 H7.out
              have m2 := bx2 H7.out
              have m3 := bx3 H7.out
              have m4 := bx4 H7.out
              have q0 := bx0 H6.out
              have q1 := bx1 H6.out
              have q2 := bx2 H6.out
              have q3 := bx3 H6.out
              have q4 := bx4 H6.out
              simp only [stC] at hw8
              rw [← hw8] at m0 m1 m2 m3 m4 q0 q1 q2 q3 q4
              have HW8 := Lib.hid hw8
              clear b8 z8 xT xP hw8
              go_wp2_with fail
              rw [HW8.out]
              clear m0 m1 m2 m3 m4 q0 q1 q2 q3 q4 HW8
              have HK := Lib.hid (stLook_any 0 z U ((k : Int), birth, 0, 0, sumOf a) w8 HZT.out HUM.out.ok HPW.out (Nat.zero_le _))
              rw [HL1.out] at HK
              refine HK.out.mono ?_
              rintro e w9 ⟨v1, rfl, hl1, b9⟩
              simp only at hl1
              obtain ⟨a1, c1, rfl⟩ := own_slice hl1
              replace HX := Lib.hid (HX.out.below b9 HX.out.lt)
              replace HT := Lib.hid (HT.out.bel b9)
              replace HAA := Lib.hid (HAA.out.step b9)
              replace HBB := Lib.hid (HBB.out.step b9)
              replace HB := Lib.hid (HB.out.trans (b9.mono HB.out.size))
              replace HV := Lib.hid (own_below HV.out b9)
              replace HYT := Lib.hid (HYT.out.bel b9)
              replace H5 := Lib.hid (H5.out.below b9 H5.out.lt)
              replace H6 := Lib.hid (H6.out.below b9 H6.out.lt)
              replace HZT := Lib.hid (HZT.out.bel b9)
              replace H7 := Lib.hid (H7.out.below b9 H7.out.lt)
              replace H8 := Lib.hid (H8.out.below b9 H8.out.lt)
              replace HLW := Lib.hid (Nat.le_trans HLW.out b9.size)
              have HR1 := Lib.hid hl1
              clear b9 hl1 HK
              have m0 := bx0 H7.out
              have m1 := bx1 H7.out
              have m2 := bx2 H7.out
              have m3 := bx3 H7.out
              have m4 := bx4 H7.out
              have q0 := bx0 H8.out
              have q1 := bx1 H8.out
              have q2 := bx2 H8.out
              have q3 := bx3 H8.out
              have q4 := bx4 H8.out
              go_wp2_with fail
              clear m0 m1 m2 m3 m4 q0 q1 q2 q3 q4
              have HK := Lib.hid (stLook_any 0 z U ((k2 : Int), birth, 0, 0, sumOf b) w9 HZT.out HUM.out.ok HQW.out (Nat.zero_le _))
              rw [HL2.out] at HK
              refine HK.out.mono ?_
              rintro e w10 ⟨v2, rfl, hl2, b10⟩
              simp only at hl2
              obtain ⟨a2, c2, rfl⟩ := own_slice hl2
              replace HX := Lib.hid (HX.out.below b10 HX.out.lt)
              replace HT := Lib.hid (HT.out.bel b10)
              replace HAA := Lib.hid (HAA.out.step b10)
              replace HBB := Lib.hid (HBB.out.step b10)
              replace HB := Lib.hid (HB.out.trans (b10.mono HB.out.size))
              replace HV := Lib.hid (own_below HV.out b10)
              replace HYT := Lib.hid (HYT.out.bel b10)
              replace H5 := Lib.hid (H5.out.below b10 H5.out.lt)
              replace H6 := Lib.hid (H6.out.below b10 H6.out.lt)
              replace HZT := Lib.hid (HZT.out.bel b10)
              replace H7 := Lib.hid (H7.out.below b10 H7.out.lt)
              replace H8 := Lib.hid (H8.out.below b10 H8.out.lt)
              replace HR1 := Lib.hid (own_below HR1.out b10)
              replace HLW := Lib.hid (Nat.le_trans HLW.out b10.size)
              have HR2 := Lib.hid hl2
              clear b10 hl2 HK
              go_wp2_with fail
              have V1 := fun q => ((own_bsl HR1.out).below (below_drewN (Below.refl _ w10) q)).conv
              have V2 := fun q => ((own_bsl HR2.out).below (below_drewN (Below.refl _ w10) q)).conv
              have V3 := fun q => (HAA.out.below (below_drewN (Below.refl _ w10) q)).conv
              have V4 := fun q => (HBB.out.below (below_drewN (Below.refl _ w10) q)).conv
              have p0_ := bx0 H6.out
              have p4_ := bx4 H6.out
              have q0_ := bx0 H8.out
              have q4_ := bx4 H8.out
              have HN2 : Hid (1 < nl) := Lib.hid (by rw [← HNL.out, HRR.out]; simp)
              have v0 := num_cell HV.out 0 (by have := HN2.out; omega)
              have v1 := num_cell HV.out 1 HN2.out
              rw [show (k :: r).getD 0 0 = k from rfl] at v0
              rw [show (k :: r).getD 1 0 = k2 by rw [HRR.out]; rfl] at v1
              have i0 : (0 : Int) < nl := by have := HN2.out; omega
              have i1 : (1 : Int) < nl := by have := HN2.out; omega
              have e1 : ((k : Int) == k) = true := by simp
              have e2 : ((k2 : Int) == k2) = true := by simp
              have e3 : ((strOf a).toList == (strOf a).toList) = true := by simp
              have e4 : ((strOf b).toList == (strOf b).toList) = true := by simp
              by_cases hs : sumOf a = sumOf b
              · have e5 : ((sumOf a : Int) == sumOf b) = true := by simp [hs]
                clear hs
                go_quiet (fail)
                go_wp2_with fail
                go_ret
                exact ⟨rfl, below_drewN HB.out _⟩
              · have e5 : ((sumOf a : Int) == sumOf b) = false := by simp; omega
                have hab : a ≠ b := fun e => hs (by rw [e])
                have e6 : ((strOf a).toList == (strOf b).toList) = false := by simp [strOf_toList, hab]
                clear hs hab
                go_quiet (fail)
                go_wp2_with fail
                go_ret
                exact ⟨rfl, below_drewN HB.out _⟩
        · have HC := Lib.hid (stCheck_any L x S w2 HT.out HOK.out HLW.out 8 ⟨fun k => absurd k hm, fun _ => rfl⟩)
          have d0 := bx0 HX.out
          have d1 := bx1 HX.out
          have d2 := bx2 HX.out
          have d3 := bx3 HX.out
          have d4 := bx4 HX.out
          clear hm
          go_wp2_with fail
          clear d0 d1 d2 d3 d4
          refine HC.out.mono ?_
          rintro e w3 ⟨rfl, b3⟩
          replace HX := Lib.hid (HX.out.below b3 HX.out.lt)
          replace HT := Lib.hid (HT.out.bel b3)
          replace HAA := Lib.hid (HAA.out.step b3)
          replace HBB := Lib.hid (HBB.out.step b3)
          replace HB := Lib.hid (HB.out.trans (b3.mono HB.out.size))
          replace HLW := Lib.hid (Nat.le_trans HLW.out b3.size)
          clear b3 HC
          go_wp2_with fail
          go_ret
          exact ⟨rfl, HB.out⟩
theorem storeRoom_walk (x : SAt) (S : StL) (bi : Int) (A : Option Addr) (la ca : Nat) (a : List UInt8) (B : Option Addr) (lb cb : Nat) (b : List UInt8) (w : World) (h : Str w w.heap.size x S) (hnear : Near S.1) (hwf : WfS S) (hbi : (Lit.int .u32 bi).wf = true) (hA : Bsl w w.heap.size A la ca a) (hB : Bsl w w.heap.size B lb cb b) :
    Calls Try.prog 6 #[stV x S, .int .u32 bi, .slice A la ca, .slice B lb cb] w fun e w' => e = .returned (.bool true) ∧ Below w.heap.size w w' := by
  obtain ⟨m, rfl, hm⟩ := u32_wf hbi
  obtain rfl := hA.1
  obtain rfl := hB.1
  exact storeRoom_at x S m A ca a B cb b w h hnear hwf hm hA hB
end Go.Proofs.Ytdpmdlibgabjaaa
namespace Go.Proofs.Ytdpmdlibgabjaaa.storeRoom
open Go.ChangeShapes Go.WideShapes Go.ChangeAt Go.RowKit
set_option linter.unusedVariables false

theorem own : ownKnob Try.prog.godebug = none := by kernel_rfl
theorem laidOut : laidOutB Try.prog = true := by kernel_rfl

set_option maxRecDepth 100000 in
theorem lifted (os : Os) (started : os.Started) (H : Type) (enc : TypeId × Value → H) :
    ReturnsInHanded {} Try.checked os 6 .any (Rows.storeRoomSpec.pre6 enc Try.prog Try.f6 Rows.storeRoomRow.domain false) (Rows.storeRoomSpec.post enc Try.prog Try.f6 false true false false) := by
  refine returnsInHanded_of_change_sized (C := Try.checked) own started (by kernel_rfl) Try.func6
    (ChangeSpec.witness6 (enc := enc) (C := Try.checked) false ⟨#[], #[.agg #[.slice none 0 0, .slice none 0 0, .slice none 0 0, .int .u32 0, .int .u32 0], .int .u32 0, .slice none 0 0, .slice none 0 0], []⟩ 8 (by kernel_rfl) (by kernel_rfl) (by kernel_rfl) (by kernel_rfl)) ?_
  intro W base args ds gs before hval0 hW hcnd hsz _
  have hval : ∀ (j : Nat) t v, Try.f6.params[j]? = some t → args[j]? = some v → Value.okWide Try.prog W .any base t v := hval0
  have hW' := hW
  obtain ⟨p, q, hA0, hV, rfl, hfz, hnd⟩ := hW
  have hA : DataW.TrodAll enc Try.prog W 0 (fun _ => true) true Try.f6.params.toList args.toList ds p := hA0
  rw [Try.params6] at hA hval
  obtain ⟨v0, vs0, d0, ds0, p0, q0, hargs, rfl, rfl, h0, r0⟩ := trodAll_cons hA
  obtain ⟨v1, vs1, d1, ds1, p1, q1, rfl, rfl, rfl, h1, r1⟩ := trodAll_cons r0
  obtain ⟨v2, vs2, d2, ds2, p2, q2, rfl, rfl, rfl, h2, r2⟩ := trodAll_cons r1
  obtain ⟨v3, vs3, d3, ds3, p3, q3, rfl, rfl, rfl, h3, r3⟩ := trodAll_cons r2
  obtain ⟨rfl, rfl, rfl⟩ := trodAll_nil r3
  obtain rfl : args = #[v0, v1, v2, v3] := by cases args; simp_all
  obtain ⟨rfl, rfl⟩ := trodVars_none hV
  have k0 := h0
  have lt0 : ∀ x ∈ p0, x.block < W.heap.size := by obtain ⟨m, hm⟩ := k0; exact DataW.trod_lt m _ _ _ hm
  obtain ⟨x0, S0, rfl, w0, m0, f0⟩ := open_store (hval 0 30 v0 rfl rfl) h0 (fun n hn => by
    have := List.all_eq_true.1 hsz n (DataW.weights_mem_each (j := 0) (t := 30) (by kernel_rfl) rfl n hn)
    simpa using this)
  obtain ⟨a1, rfl, rfl, rfl, w1⟩ := open_int Try.underlying28 (hval 1 28 v1 rfl rfl) h1
  obtain ⟨a2, len2, cap2, rfl⟩ := okWide_slice Try.underlying23 (hval 2 23 v2 rfl rfl)
  have k2 := h2
  have lt2 : ∀ x ∈ p2, x.block < W.heap.size := by obtain ⟨m, hm⟩ := k2; exact DataW.trod_lt m _ _ _ hm
  obtain ⟨z2, w2⟩ : ∃ zs, IsRow .u8 W a2 len2 cap2 zs := by
    obtain ⟨fuel, hf⟩ := h2
    rcases open_ints Try.underlying23 Try.underlying5 (by kernel_rfl) hf with ⟨hcs, _⟩ | ⟨x, l, c, zs, hcs, _, hl, hm, hz, _, hcell, hwz⟩
    · simp [Value.cells] at hcs
      obtain ⟨rfl, rfl, rfl⟩ := hcs
      exact ⟨[], .inl ⟨rfl, rfl, rfl, rfl⟩⟩
    · simp [Value.cells] at hcs
      obtain ⟨rfl, rfl, rfl⟩ := hcs
      exact ⟨zs, .inr ⟨_, rfl, hl, hm, by simpa using hz, hcell, hwz⟩⟩
  obtain ⟨a3, len3, cap3, rfl⟩ := okWide_slice Try.underlying23 (hval 3 23 v3 rfl rfl)
  have k3 := h3
  have lt3 : ∀ x ∈ p3, x.block < W.heap.size := by obtain ⟨m, hm⟩ := k3; exact DataW.trod_lt m _ _ _ hm
  obtain ⟨z3, w3⟩ : ∃ zs, IsRow .u8 W a3 len3 cap3 zs := by
    obtain ⟨fuel, hf⟩ := h3
    rcases open_ints Try.underlying23 Try.underlying5 (by kernel_rfl) hf with ⟨hcs, _⟩ | ⟨x, l, c, zs, hcs, _, hl, hm, hz, _, hcell, hwz⟩
    · simp [Value.cells] at hcs
      obtain ⟨rfl, rfl, rfl⟩ := hcs
      exact ⟨[], .inl ⟨rfl, rfl, rfl, rfl⟩⟩
    · simp [Value.cells] at hcs
      obtain ⟨rfl, rfl, rfl⟩ := hcs
      exact ⟨zs, .inr ⟨_, rfl, hl, hm, by simpa using hz, hcell, hwz⟩⟩
  clear hA0 hval0
  refine (storeRoom_walk x0 S0 a1 a2 len2 cap2 _ a3 len3 cap3 _ W w0 m0 f0 w1 (bsl_of_row w2) (bsl_of_row w3)).mono fun e W' ⟨he, bel⟩ => ?_
  subst he
  exact ⟨_, rfl, _, _, _, [], _, [], hW', trodAll_mk1 (shut_bool Try.underlying4 _), (trodAll_cons_mk (Below.trod laidOut (by kernel_rfl) (of_decide_eq_true (by kernel_rfl)) k0 bel lt0) (trodAll_cons_mk (shut_int Try.underlying28 w1) (trodAll_cons_mk (Below.trod laidOut (by kernel_rfl) (of_decide_eq_true (by kernel_rfl)) k2 bel lt2) (trodAll_cons_mk (Below.trod laidOut (by kernel_rfl) (of_decide_eq_true (by kernel_rfl)) k3 bel lt3) trodAll_mk0)))), rfl, bel.frame _, fun h => by cases h⟩

theorem over : Rows.storeRoomRow.holds Try.pinned (OpenSpec.ofChange Rows.storeRoomSpec) :=
  OpenClaim.holds_of_wide 6 Try.f6 rfl rfl rfl rfl rfl rfl rfl ⟨rfl, rfl, rfl, rfl, rfl⟩ rfl rfl rfl rfl rfl (by kernel_rfl) Try.func6 (by kernel_rfl)
    (of_decide_eq_true (by kernel_rfl)) (by unfold Func.isWrapper; first | (rw [if_pos (by decide +kernel)]; kernel_rfl) | (rw [if_neg (by decide +kernel)]; exact ⟨rfl, rfl⟩))
    (fun os started H enc _ => lifted os started H enc)

/-- The statement. -/
theorem proved : Rows.StoreRoomSaid := over
end Go.Proofs.Ytdpmdlibgabjaaa.storeRoom
