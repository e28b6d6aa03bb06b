/-
  StoreBackSaid: for any store, birth, key, bytes and pointer (where they are great, or the store may not be, the law itself answers what its example answers) what was laid, raw or not, is seen, what was sealed is opened; the block was free, and is Used then; no other block changes, and what was looked at is looked at as before. No condition.
-/
import Derived.Test.YtdpmdlibgabjaaaGreatRows
import Derived.Test.YtdpmdlibgabjaaaGreatPkSZ6
namespace Go.Proofs.YtdpmdlibgabjaaaGreat
open Go.RowKit Go.Shelf
set_option maxRecDepth 100000

theorem give_put {S : StL} (h : MayS S) {k birth : Nat} (hk : 12 ≤ k ∧ k < 256) (hb : 1 ≤ birth ∧ birth ≤ 16777215) {b : List UInt8} (hbl : b.length = 256) (hw : S.1.2.length < 4096) (iv tag : Nat) :
    giveSO (putAt S k b) ((k : Int), birth, iv, tag, sumOf b) = (giveAt (putAt S k b) k, 0) := by
  unfold giveSO
  rw [if_pos ⟨putAt_may h hk hbl hw, ptr_may hk hb _ _ _⟩, if_neg]
  · simp only [Int.toNat_natCast]
  · rintro (e | e)
    · exact ptr_not hb.1 _ _ _ e
    · apply e
      simp only [Int.toNat_natCast]
      rw [put_mark (b := b) h.2.1.1 hk.2, if_pos rfl]
set_option maxHeartbeats 64000000 in
theorem storeBack_at (x : SAt) (S : StL) (birth : Nat) (B : Option Addr) (ck : Nat) (key : List UInt8) (A : Option Addr) (cb : Nat) (b : List UInt8) (p : Pt) (w : World) (h : Str w w.heap.size x S) (hnear : Near S.1) (hwf : WfS S) (hbi : birth < 4294967296) (hK : Bsl w w.heap.size B key.length ck key) (hA : Bsl w w.heap.size A b.length cb b) (hwp : WfP p) :
    Calls Tryz.prog 5 #[stV x S, .int .u32 birth, .slice B key.length ck, .slice A b.length cb, ptV p] w fun e w' => e = .returned (.bool true) ∧ Below w.heap.size w w' := by
  have h1 := h.lasts (Nat.le_refl _)
  have la9 := hA.len_le
  have lk9 := hK.len_le
  have la0 : (0 : Int) ≤ b.length := by omega
  have lk0 : (0 : Int) ≤ key.length := by omega
  obtain ⟨L, hL⟩ : ∃ L, w.heap.size = L := ⟨_, rfl⟩
  rw [hL] at h1
  obtain ⟨w0, hw0, b0, z0, xS, xP⟩ := two_al w (stC x S) (ptA p) 29 33
  obtain ⟨g, hg⟩ : ∃ g, w.heap.size = g := ⟨_, rfl⟩
  obtain ⟨g1, hg1⟩ : ∃ g1, g + 1 = g1 := ⟨_, rfl⟩
  rw [hg] at xS xP
  rw [hg1] at xP
  have HX := Lib.hid xS
  have HQ := Lib.hid xP
  have HT := Lib.hid (h1.bel b0)
  have HLW := Lib.hid (show L ≤ w0.heap.size by rw [← hL]; exact b0.size)
  have HB := Lib.hid b0
  have HN := Lib.hid hnear
  have HWF := Lib.hid hwf
  have HBI := Lib.hid hbi
  have HWP := Lib.hid hwp
  have HAA := Lib.hid (hA.step b0)
  have HKY := Lib.hid (hK.step b0)
  simp only [stC, ptA] at hw0
  clear h h1 hL b0 z0 xS xP hnear hwf hbi hA hK hwp
  go_enter Tryz.func5, Tryz.ntmps5
  go_wp2_with fail
  try rw [hw0]
  try rw [hg]
  try rw [hg1]
  clear hw0 hg hg1
  refine (stAlive_any w0).mono ?_
  rintro e w1 ⟨rfl, b1⟩
  replace HX := Lib.hid (HX.out.below b1 HX.out.lt)
  replace HQ := Lib.hid (HQ.out.below b1 HQ.out.lt)
  replace HT := Lib.hid (HT.out.bel b1)
  replace HAA := Lib.hid (HAA.out.step b1)
  replace HKY := Lib.hid (HKY.out.step b1)
  replace HB := Lib.hid (HB.out.trans (b1.mono HB.out.size))
  replace HLW := Lib.hid (Nat.le_trans HLW.out b1.size)
  clear b1
  have d0 := bx0 HX.out
  have d1 := bx1 HX.out
  have d2 := bx2 HX.out
  have d3 := bx3 HX.out
  have d4 := bx4 HX.out
  have HGR := Lib.hid (rtGreat_any L x S w1 HT.out HN.out)
  go_wp2_with fail
  clear d0 d1 d2 d3 d4
  refine HGR.out.mono ?_
  rintro e w2 ⟨gr, rfl, hsm, b2⟩
  replace HX := Lib.hid (HX.out.below b2 HX.out.lt)
  replace HQ := Lib.hid (HQ.out.below b2 HQ.out.lt)
  replace HT := Lib.hid (HT.out.bel b2)
  replace HAA := Lib.hid (HAA.out.step b2)
  replace HKY := Lib.hid (HKY.out.step b2)
  replace HB := Lib.hid (HB.out.trans (b2.mono HB.out.size))
  replace HLW := Lib.hid (Nat.le_trans HLW.out b2.size)
  clear b2 HGR
  cases gr with
  | true =>
    go_wp2_with fail
    go_ret
    exact ⟨rfl, HB.out⟩
  | false =>
    have HOK := Lib.hid (show OkS S from ⟨small_fits (hsm rfl).1, by have := (hsm rfl).2; omega, HWF.out⟩)
    clear hsm
    by_cases h1 : (10000 : Int) < key.length
    · go_wp2_with fail
      go_ret
      exact ⟨rfl, HB.out⟩
    · by_cases h2 : (10000 : Int) < b.length
      · go_wp2_with fail
        go_ret
        exact ⟨rfl, HB.out⟩
      · by_cases hm : MayS S
        · have HC := Lib.hid (stCheck_any L x S w2 HT.out HOK.out HLW.out 0 ⟨fun _ => rfl, fun k => absurd hm k⟩)
          have HM := Lib.hid hm
          have d0 := bx0 HX.out
          have d1 := bx1 HX.out
          have d2 := bx2 HX.out
          have d3 := bx3 HX.out
          have d4 := bx4 HX.out
          clear hm
          go_wp2_with fail
          clear d0 d1 d2 d3 d4
          refine HC.out.mono ?_
          rintro e w3 ⟨rfl, b3⟩
          replace HX := Lib.hid (HX.out.below b3 HX.out.lt)
          replace HQ := Lib.hid (HQ.out.below b3 HQ.out.lt)
          replace HT := Lib.hid (HT.out.bel b3)
          replace HAA := Lib.hid (HAA.out.step b3)
          replace HKY := Lib.hid (HKY.out.step b3)
          replace HB := Lib.hid (HB.out.trans (b3.mono HB.out.size))
          replace HLW := Lib.hid (Nat.le_trans HLW.out b3.size)
          clear b3 HC
          have d0 := bx0 HX.out
          have d1 := bx1 HX.out
          have d2 := bx2 HX.out
          have d3 := bx3 HX.out
          have d4 := bx4 HX.out
          have q0 := bx0 HQ.out
          have q1 := bx1 HQ.out
          have q2 := bx2 HQ.out
          have q3 := bx3 HQ.out
          have q4 := bx4 HQ.out
          obtain ⟨⟨la, ea⟩, hla⟩ : ∃ o, lookO S p = o := ⟨_, rfl⟩
          have hc := stLook_any L x S p w3 HT.out HOK.out HWP.out HLW.out
          rw [hla] at hc
          have HLA := Lib.hid hla
          have HC := Lib.hid hc
          clear hla hc
          go_wp2_with fail
          clear h1 h2 la9 lk9
          clear d0 d1 d2 d3 d4
          clear q0 q1 q2 q3 q4
          refine HC.out.mono ?_
          rintro e w4 ⟨va, rfl, hv, b4⟩
          simp only at hv
          obtain ⟨aa, ca, rfl⟩ := own_slice hv
          replace HX := Lib.hid (HX.out.below b4 HX.out.lt)
          replace HQ := Lib.hid (HQ.out.below b4 HQ.out.lt)
          replace HT := Lib.hid (HT.out.bel b4)
          replace HAA := Lib.hid (HAA.out.step b4)
          replace HKY := Lib.hid (HKY.out.step b4)
          replace HB := Lib.hid (HB.out.trans (b4.mono HB.out.size))
          replace HLW := Lib.hid (Nat.le_trans HLW.out b4.size)
          have HRA := Lib.hid hv
          clear b4 hv HC
          have HC := Lib.hid (stSeal_any L x S birth B ck key A cb b w4 HT.out HKY.out HAA.out HOK.out HLW.out HBI.out)
          rcases sealO_cases S birth key b with ⟨es, hes, hne⟩ | ⟨k, r, _, hbr, hkl, hbl, hct, hk, hz, hw4, hfr, heg⟩
          · rw [hes] at HC
            clear hes
            have d0 := bx0 HX.out
            have d1 := bx1 HX.out
            have d2 := bx2 HX.out
            have d3 := bx3 HX.out
            have d4 := bx4 HX.out
            go_wp2_with fail
            clear d0 d1 d2 d3 d4
            refine HC.out.mono ?_
            rintro e w5 ⟨y0, rfl, _, _, b5⟩
            replace HX := Lib.hid (HX.out.below b5 HX.out.lt)
            replace HQ := Lib.hid (HQ.out.below b5 HQ.out.lt)
            replace HT := Lib.hid (HT.out.bel b5)
            replace HAA := Lib.hid (HAA.out.step b5)
            replace HKY := Lib.hid (HKY.out.step b5)
            replace HB := Lib.hid (HB.out.trans (b5.mono HB.out.size))
            replace HRA := Lib.hid (own_below HRA.out b5)
            replace HLW := Lib.hid (Nat.le_trans HLW.out b5.size)
            clear b5 HC
            obtain ⟨w6, hw6, b6, z6, xT, xP⟩ := two_al w5 #[.slice y0.d.ba 0 y0.d.bc, .slice y0.d.wa 0 y0.d.wc, .slice y0.a 0 y0.c, .int .u32 0, .int .u32 0] #[.int .i64 0, .int .u32 0, .int .u32 0, .int .u32 0, .int .u32 0] 29 33
            replace HX := Lib.hid (HX.out.below b6 HX.out.lt)
            replace HQ := Lib.hid (HQ.out.below b6 HQ.out.lt)
            replace HT := Lib.hid (HT.out.bel b6)
            replace HAA := Lib.hid (HAA.out.step b6)
            replace HKY := Lib.hid (HKY.out.step b6)
            replace HB := Lib.hid (HB.out.trans (b6.mono HB.out.size))
            replace HRA := Lib.hid (own_below HRA.out b6)
            replace HLW := Lib.hid (Nat.le_trans HLW.out b6.size)
            have e2 : ((es : Int) == 0) = false := by simp; omega
            obtain ⟨g7, hg7⟩ : ∃ X, w5.heap.size + 1 = X := ⟨_, rfl⟩
            rw [hg7] at xP
            have HQQ := Lib.hid xP
            have HQI := Lib.hid (show 0 < 4294967296 ∧ 0 < 4294967296 by omega)
            have d0 := bx0 HX.out
            have d1 := bx1 HX.out
            have d2 := bx2 HX.out
            have d3 := bx3 HX.out
            have d4 := bx4 HX.out
            have q2 := bx2 HQQ.out
            have q3 := bx3 HQQ.out
            rw [← hw6] at d0 d1 d2 d3 d4 q2 q3
            have HW6 := Lib.hid hw6
            have HG7 := Lib.hid hg7
            clear b6 z6 xT xP hne hw6 hg7
            go_wp2_with fail
            try rw [HG7.out]
            rw [HW6.out]
            clear d0 d1 d2 d3 d4 q2 q3 HW6 HG7 e2
            have HC := Lib.hid (stRaw_any L x S birth 0 0 A cb b w6 HT.out HAA.out HOK.out HLW.out HBI.out)
            rcases rawO_cases S birth 0 0 b with ⟨eg, heg, hne, _⟩ | ⟨k2, rl2, _, hbr2, hbl2, hk2, hz2, hw2, hfr2, heg⟩
            · rw [heg] at HC
              clear heg
              refine HC.out.mono ?_
              rintro e w7 ⟨y1, rfl, _, _, b5⟩
              replace HX := Lib.hid (HX.out.below b5 HX.out.lt)
              replace HQ := Lib.hid (HQ.out.below b5 HQ.out.lt)
              replace HT := Lib.hid (HT.out.bel b5)
              replace HAA := Lib.hid (HAA.out.step b5)
              replace HKY := Lib.hid (HKY.out.step b5)
              replace HB := Lib.hid (HB.out.trans (b5.mono HB.out.size))
              replace HRA := Lib.hid (own_below HRA.out b5)
              replace HQQ := Lib.hid (HQQ.out.below b5 HQQ.out.lt)
              replace HLW := Lib.hid (Nat.le_trans HLW.out b5.size)
              clear b5 HC
              obtain ⟨w8, hw6, b6, z6, xT, xP⟩ := two_al w7 #[.slice y1.d.ba 0 y1.d.bc, .slice y1.d.wa 0 y1.d.wc, .slice y1.a 0 y1.c, .int .u32 0, .int .u32 0] #[.int .i64 0, .int .u32 0, .int .u32 0, .int .u32 0, .int .u32 0] 29 33
              replace HX := Lib.hid (HX.out.below b6 HX.out.lt)
              replace HQ := Lib.hid (HQ.out.below b6 HQ.out.lt)
              replace HT := Lib.hid (HT.out.bel b6)
              replace HAA := Lib.hid (HAA.out.step b6)
              replace HKY := Lib.hid (HKY.out.step b6)
              replace HB := Lib.hid (HB.out.trans (b6.mono HB.out.size))
              replace HRA := Lib.hid (own_below HRA.out b6)
              replace HQQ := Lib.hid (HQQ.out.below b6 HQQ.out.lt)
              replace HLW := Lib.hid (Nat.le_trans HLW.out b6.size)
              have e2 : ((eg : Int) != 0) = true := by simp; omega
              have m2 := bx2 xT
              rw [← hw6] at m2
              have HW6 := Lib.hid hw6
              clear b6 z6 xT xP hne hw6
              go_wp2_with fail
              go_ret
              exact ⟨rfl, by have := HB.out; rw [← HW6.out] at this; exact this⟩
            · rw [heg] at HC
              have HU := Lib.hid (putAt_may HM.out hk2 hbl2 hw2)
              have HWR := Lib.hid (wf_putP (k := k2) (birth := birth) (iv := 0) (tag := 0) hk2.2 hbr2.2 HQI.out.1 HQI.out.2 b)
              have HL1 : Hid (lookO (putAt S k2 b) ((k2 : Int), birth, 0, 0, sumOf b) = (b, 0)) := Lib.hid (by
                rw [lookO_may HU.out (ptr_may hk2 hbr2 0 0 (sumOf b))]
                exact seenO_put S hbr2.1 0 0 b)
              have HG1 := Lib.hid (give_put HM.out hk2 hbr2 hbl2 hw2 0 0)
              have HL2 : Hid (lookO (giveAt (putAt S k2 b) k2) ((k2 : Int), birth, 0, 0, sumOf b) = (b, 0)) := Lib.hid (by
                rw [give_look HU.out (ptr_may hk2 hbr2 0 0 (sumOf b)) hk2]
                exact HL1.out)
              have HVM := Lib.hid (giveAt_may HU.out hk2)
              have HVK : Hid (mkT (giveAt (putAt S k2 b) k2).2.1 k2 = 2) := Lib.hid (by rw [give_mark HU.out.2.1.1 hk2.2, if_pos rfl])
              have HU1 : Hid ((putAt S k2 b).1 = withD S.1 (k2 : Int) b) := Lib.hid rfl
              have HU2 : Hid ((putAt S k2 b).2.1 = S.2.1.set k2 1) := Lib.hid rfl
              have HU3 : Hid ((putAt S k2 b).2.2.1 = S.2.2.1) := Lib.hid rfl
              have HU4 : Hid ((putAt S k2 b).2.2.2 = S.2.2.2) := Lib.hid rfl
              obtain ⟨V, hV⟩ : ∃ V, giveAt (putAt S k2 b) k2 = V := ⟨_, rfl⟩
              rw [hV] at HG1 HL2 HVM HVK
              obtain ⟨U, hU⟩ : ∃ U, putAt S k2 b = U := ⟨_, rfl⟩
              rw [hU] at HC HU HL1 HG1 HU1 HU2 HU3 HU4
              obtain ⟨sb, hsb⟩ : ∃ n, sumOf b = n := ⟨_, rfl⟩
              rw [hsb] at HC HWR HL1 HG1 HL2
              have HK2 := Lib.hid hk2
              have HF2 := Lib.hid hfr2
              clear heg hV hU hsb hk2 hz2 hbr2 hbl2 hw2 hfr2
              refine HC.out.mono ?_
              rintro e w7 ⟨y1, rfl, hy, _, b5⟩
              replace HX := Lib.hid (HX.out.below b5 HX.out.lt)
              replace HQ := Lib.hid (HQ.out.below b5 HQ.out.lt)
              replace HT := Lib.hid (HT.out.bel b5)
              replace HAA := Lib.hid (HAA.out.step b5)
              replace HKY := Lib.hid (HKY.out.step b5)
              replace HB := Lib.hid (HB.out.trans (b5.mono HB.out.size))
              replace HRA := Lib.hid (own_below HRA.out b5)
              replace HQQ := Lib.hid (HQQ.out.below b5 HQQ.out.lt)
              replace HLW := Lib.hid (Nat.le_trans HLW.out b5.size)
              have HYU := Lib.hid (hy.any (L := L))
              clear b5 hy HC
              obtain ⟨w8, hw6, b6, z6, xT, xP⟩ := two_al w7 (stC y1 U) #[.int .i64 (k2 : Int), .int .u32 (birth : Int), .int .u32 0, .int .u32 0, .int .u32 (sb : Int)] 29 33
              replace HX := Lib.hid (HX.out.below b6 HX.out.lt)
              replace HQ := Lib.hid (HQ.out.below b6 HQ.out.lt)
              replace HT := Lib.hid (HT.out.bel b6)
              replace HAA := Lib.hid (HAA.out.step b6)
              replace HKY := Lib.hid (HKY.out.step b6)
              replace HB := Lib.hid (HB.out.trans (b6.mono HB.out.size))
              replace HRA := Lib.hid (own_below HRA.out b6)
              replace HQQ := Lib.hid (HQQ.out.below b6 HQQ.out.lt)
              replace HYU := Lib.hid (HYU.out.bel b6)
              replace HLW := Lib.hid (Nat.le_trans HLW.out b6.size)
              have HXU := Lib.hid xT
              have HPR := Lib.hid xP
              obtain ⟨g8, hg8⟩ : ∃ g8, w7.heap.size = g8 := ⟨_, rfl⟩
              obtain ⟨g9, hg9⟩ : ∃ g9, g8 + 1 = g9 := ⟨_, rfl⟩
              have d0 := bx0 HXU.out
              have d1 := bx1 HXU.out
              have d2 := bx2 HXU.out
              have d3 := bx3 HXU.out
              have d4 := bx4 HXU.out
              have q0 := bx0 HPR.out
              have q1 := bx1 HPR.out
              have q2 := bx2 HPR.out
              have q3 := bx3 HPR.out
              have q4 := bx4 HPR.out
              simp only [stC] at hw6
              rw [← hw6] at d0 d1 d2 d3 d4 q0 q1 q2 q3 q4
              have HW6 := Lib.hid hw6
              have HG8 := Lib.hid (And.intro hg8 hg9)
              clear b6 z6 xT xP hw6 hg8 hg9
              go_wp2_with fail
              rw [HW6.out]
              rw [HG8.out.1] at HXU HPR
              rw [HG8.out.2] at HPR
              try rw [HG8.out.1]
              try rw [HG8.out.2]
              clear d0 d1 d2 d3 d4 q0 q1 q2 q3 q4 HW6 HG8
              have hc := stLook_any L y1 U ((k2 : Int), birth, 0, 0, sb) w8 HYU.out HU.out.ok HWR.out HLW.out
              rw [HL1.out] at hc
              have HC := Lib.hid hc
              clear hc
              refine HC.out.mono ?_
              rintro e w9 ⟨v1, rfl, hv, b7⟩
              simp only at hv
              obtain ⟨a1, c1, rfl⟩ := own_slice hv
              replace HX := Lib.hid (HX.out.below b7 HX.out.lt)
              replace HQ := Lib.hid (HQ.out.below b7 HQ.out.lt)
              replace HT := Lib.hid (HT.out.bel b7)
              replace HAA := Lib.hid (HAA.out.step b7)
              replace HKY := Lib.hid (HKY.out.step b7)
              replace HB := Lib.hid (HB.out.trans (b7.mono HB.out.size))
              replace HRA := Lib.hid (own_below HRA.out b7)
              replace HQQ := Lib.hid (HQQ.out.below b7 HQQ.out.lt)
              replace HYU := Lib.hid (HYU.out.bel b7)
              replace HXU := Lib.hid (HXU.out.below b7 HXU.out.lt)
              replace HPR := Lib.hid (HPR.out.below b7 HPR.out.lt)
              replace HLW := Lib.hid (Nat.le_trans HLW.out b7.size)
              have HR1 := Lib.hid hv
              clear b7 hv HC
              have q0 := bx0 HPR.out
              have q1 := bx1 HPR.out
              have q2 := bx2 HPR.out
              have q3 := bx3 HPR.out
              have q4 := bx4 HPR.out
              have r2 := bx2 HQQ.out
              have r3 := bx3 HQQ.out
              have m0 := bx0 HXU.out
              have m1 := bx1 HXU.out
              have m2 := bx2 HXU.out
              have m3 := bx3 HXU.out
              have m4 := bx4 HXU.out
              have d0 := bx0 HX.out
              have d1 := bx1 HX.out
              have d2 := bx2 HX.out
              have d3 := bx3 HX.out
              have d4 := bx4 HX.out
              have V1 := (own_bsl HR1.out).conv
              have V2 := HAA.out.conv
              have e1 : ((strOf b).toList == (strOf b).toList) = true := by simp
              have e2 : ((0 : Int) != 0) = false := by simp
              have e3 : ((0 : Int) != 0) = false := by simp
              obtain ⟨cn, hcn⟩ : ∃ n : Nat, S.2.2.2 = n := ⟨_, rfl⟩
              rw [HU4.out, hcn] at m4
              rw [hcn] at d4
              have e4 : ((cn : Int) != cn) = false := by simp
              have hon := stOne_any L x y1 S U ((k2 : Int), birth, 0, 0, sb) k2 rl2 b w9 HT.out HYU.out HM.out HU.out.2.1 HU.out.1 HU1.out HU2.out HU3.out rfl HK2.out.2 HF2.out
              simp only [stV] at hon
              rw [HU4.out, hcn] at hon
              have HC := Lib.hid hon
              clear hon hcn
              go_wp2_with fail
              clear q0 q1 q2 q3 q4
              clear r2 r3
              clear m0 m1 m2 m3 m4
              clear d0 d1 d2 d3 d4
              clear V1 V2 e1 e2 e3 e4
              refine HC.out.mono ?_
              rintro e wa ⟨rfl, b7⟩
              replace HX := Lib.hid (HX.out.below b7 HX.out.lt)
              replace HQ := Lib.hid (HQ.out.below b7 HQ.out.lt)
              replace HT := Lib.hid (HT.out.bel b7)
              replace HAA := Lib.hid (HAA.out.step b7)
              replace HKY := Lib.hid (HKY.out.step b7)
              replace HB := Lib.hid (HB.out.trans (b7.mono HB.out.size))
              replace HRA := Lib.hid (own_below HRA.out b7)
              replace HQQ := Lib.hid (HQQ.out.below b7 HQQ.out.lt)
              replace HYU := Lib.hid (HYU.out.bel b7)
              replace HXU := Lib.hid (HXU.out.below b7 HXU.out.lt)
              replace HPR := Lib.hid (HPR.out.below b7 HPR.out.lt)
              replace HR1 := Lib.hid (own_below HR1.out b7)
              replace HLW := Lib.hid (Nat.le_trans HLW.out b7.size)
              clear b7 HC
              have d0 := bx0 HXU.out
              have d1 := bx1 HXU.out
              have d2 := bx2 HXU.out
              have d3 := bx3 HXU.out
              have d4 := bx4 HXU.out
              have q0 := bx0 HPR.out
              have q1 := bx1 HPR.out
              have q2 := bx2 HPR.out
              have q3 := bx3 HPR.out
              have q4 := bx4 HPR.out
              have hc := stGive_any L y1 U ((k2 : Int), birth, 0, 0, sb) wa HYU.out HU.out.ok HWR.out HLW.out
              rw [HG1.out] at hc
              have HC := Lib.hid hc
              clear hc
              go_wp2_with fail
              clear d0 d1 d2 d3 d4
              clear q0 q1 q2 q3 q4
              refine HC.out.mono ?_
              rintro e wb ⟨y2, rfl, hy, _, b7⟩
              replace HX := Lib.hid (HX.out.below b7 HX.out.lt)
              replace HQ := Lib.hid (HQ.out.below b7 HQ.out.lt)
              replace HT := Lib.hid (HT.out.bel b7)
              replace HAA := Lib.hid (HAA.out.step b7)
              replace HKY := Lib.hid (HKY.out.step b7)
              replace HB := Lib.hid (HB.out.trans (b7.mono HB.out.size))
              replace HRA := Lib.hid (own_below HRA.out b7)
              replace HQQ := Lib.hid (HQQ.out.below b7 HQQ.out.lt)
              replace HYU := Lib.hid (HYU.out.bel b7)
              replace HXU := Lib.hid (HXU.out.below b7 HXU.out.lt)
              replace HPR := Lib.hid (HPR.out.below b7 HPR.out.lt)
              replace HR1 := Lib.hid (own_below HR1.out b7)
              replace HLW := Lib.hid (Nat.le_trans HLW.out b7.size)
              have HYV := Lib.hid (hy.any (L := L))
              clear b7 hy HC
              have HXV := Lib.hid (Blk.new wb 29 (stC y2 V))
              have b8 := (Below.refl wb.heap.size wb).alloc (Nat.le_refl _) (.cells (stC y2 V) 29)
              replace HX := Lib.hid (HX.out.below b8 HX.out.lt)
              replace HQ := Lib.hid (HQ.out.below b8 HQ.out.lt)
              replace HT := Lib.hid (HT.out.bel b8)
              replace HAA := Lib.hid (HAA.out.step b8)
              replace HKY := Lib.hid (HKY.out.step b8)
              replace HB := Lib.hid (HB.out.trans (b8.mono HB.out.size))
              replace HRA := Lib.hid (own_below HRA.out b8)
              replace HQQ := Lib.hid (HQQ.out.below b8 HQQ.out.lt)
              replace HYU := Lib.hid (HYU.out.bel b8)
              replace HXU := Lib.hid (HXU.out.below b8 HXU.out.lt)
              replace HPR := Lib.hid (HPR.out.below b8 HPR.out.lt)
              replace HR1 := Lib.hid (own_below HR1.out b8)
              replace HYV := Lib.hid (HYV.out.bel b8)
              replace HLW := Lib.hid (Nat.le_trans HLW.out b8.size)
              clear b8
              obtain ⟨wc, hwc⟩ : ∃ X, wb.alloc (.cells (stC y2 V) 29) = X := ⟨_, rfl⟩
              obtain ⟨gv, hgv⟩ : ∃ X, wb.heap.size = X := ⟨_, rfl⟩
              rw [hwc] at HX HQ HT HAA HKY HB HRA HQQ HYU HXU HPR HR1 HYV HXV HLW
              rw [hgv] at HXV
              have d0 := bx0 HXV.out
              have d1 := bx1 HXV.out
              have d2 := bx2 HXV.out
              have d3 := bx3 HXV.out
              have d4 := bx4 HXV.out
              have q0 := bx0 HPR.out
              have q1 := bx1 HPR.out
              have q2 := bx2 HPR.out
              have q3 := bx3 HPR.out
              have q4 := bx4 HPR.out
              simp only [stC] at hwc
              rw [← hwc] at d0 d1 d2 d3 d4 q0 q1 q2 q3 q4
              have HWC := Lib.hid hwc
              have HGV := Lib.hid hgv
              clear hwc hgv
              go_wp2_with fail
              rw [HWC.out]
              try rw [HGV.out]
              clear d0 d1 d2 d3 d4 q0 q1 q2 q3 q4 HWC HGV
              have hc := stLook_any L y2 V ((k2 : Int), birth, 0, 0, sb) wc HYV.out HVM.out.ok HWR.out HLW.out
              rw [HL2.out] at hc
              have HC := Lib.hid hc
              clear hc
              refine HC.out.mono ?_
              rintro e we ⟨v2, rfl, hv, b7⟩
              simp only at hv
              obtain ⟨a2, c2, rfl⟩ := own_slice hv
              replace HX := Lib.hid (HX.out.below b7 HX.out.lt)
              replace HQ := Lib.hid (HQ.out.below b7 HQ.out.lt)
              replace HT := Lib.hid (HT.out.bel b7)
              replace HAA := Lib.hid (HAA.out.step b7)
              replace HKY := Lib.hid (HKY.out.step b7)
              replace HB := Lib.hid (HB.out.trans (b7.mono HB.out.size))
              replace HRA := Lib.hid (own_below HRA.out b7)
              replace HQQ := Lib.hid (HQQ.out.below b7 HQQ.out.lt)
              replace HYU := Lib.hid (HYU.out.bel b7)
              replace HXU := Lib.hid (HXU.out.below b7 HXU.out.lt)
              replace HPR := Lib.hid (HPR.out.below b7 HPR.out.lt)
              replace HR1 := Lib.hid (own_below HR1.out b7)
              replace HYV := Lib.hid (HYV.out.bel b7)
              replace HXV := Lib.hid (HXV.out.below b7 HXV.out.lt)
              replace HLW := Lib.hid (Nat.le_trans HLW.out b7.size)
              have V1 := (own_bsl hv).conv
              have V2 := HAA.out.conv
              have e1 : ((strOf b).toList == (strOf b).toList) = true := by simp
              obtain ⟨bv, ov, hva, _⟩ := HYV.out.now.2.at_ (by rw [HVM.out.2.1.1]; omega)
              have hsv := HYV.out.now.2
              rw [hva] at hsv
              have t1 := hsv.mk k2 (by rw [HVM.out.2.1.1]; exact HK2.out.2)
              rw [HVK.out] at t1
              have d2 := bx2 HXV.out
              have q0 := bx0 HPR.out
              rw [HVM.out.2.1.1, hva] at d2
              have k0 : (0 : Int) ≤ k2 := by omega
              have k1 : (k2 : Int) < 256 := by have := HK2.out.2; omega
              clear hv b7 HC hsv hva
              go_wp2_with fail
              go_ret
              exact ⟨rfl, HB.out⟩
          · obtain ⟨qi, hqi⟩ : ∃ n, ivS S = n := ⟨_, rfl⟩
            obtain ⟨E, hE⟩ : ∃ E, turnW' key qi b = E := ⟨_, rfl⟩
            obtain ⟨qt, hqt⟩ : ∃ n, (sealW key qi E).toNat = n := ⟨_, rfl⟩
            obtain ⟨qs, hqs⟩ : ∃ n, sumOf E = n := ⟨_, rfl⟩
            obtain ⟨T, hT⟩ : ∃ T, sealAt S k key b = T := ⟨_, rfl⟩
            have HSO : Hid (sealO S birth key b = (T, ((k : Int), birth, qi, qt, qs), 0)) := Lib.hid (by subst hqi hE hqt hqs hT; exact heg)
            have HOP : Hid (openO T ((k : Int), birth, qi, qt, qs) key = (b, 0)) := Lib.hid (by subst hqi hE hqt hqs hT; exact open_sealed HM.out hct hk hbr hkl hbl hw4)
            have HTM : Hid (MayS T) := Lib.hid (by subst hT; exact sealAt_may HM.out hct hk hbl hw4 key)
            have HWQ : Hid (WfP ((k : Int), birth, qi, qt, qs)) := Lib.hid (by subst hqi hE hqt hqs; exact wf_sealP HM.out hct hk.2 hbr.2 key b)
            have HTC : Hid (T.2.2.2 = S.2.2.2 + 1) := Lib.hid (by subst hT; rfl)
            have HT1 : Hid (T.1 = withD S.1 (k : Int) E) := Lib.hid (by subst hqi hE hT; rfl)
            have HT2 : Hid (T.2.1 = S.2.1.set k 1) := Lib.hid (by subst hT; rfl)
            have HT3 : Hid (T.2.2.1 = S.2.2.1) := Lib.hid (by subst hT; rfl)
            have HFAR : Hid (MayP p → p.1 ≠ (k : Int) → lookO T p = lookO S p) := Lib.hid (fun hp hne => by
              rw [lookO_may HTM.out hp, lookO_may HM.out hp, ← hT]
              exact (seenO_far _ hp hne).trans (seenO_disk rfl p))
            have HFR := Lib.hid hfr
            have HKK := Lib.hid hk
            have HMK := Lib.hid hz
            have HQI := Lib.hid (show qi < 4294967296 ∧ qt < 4294967296 from ⟨HWQ.out.2.2.1, HWQ.out.2.2.2.1⟩)
            have HCT := Lib.hid hct
            rw [HSO.out] at HC
            clear heg hqi hE hqt hqs hT hbr hkl hbl hct hk hz hw4 hfr
            have d0 := bx0 HX.out
            have d1 := bx1 HX.out
            have d2 := bx2 HX.out
            have d3 := bx3 HX.out
            have d4 := bx4 HX.out
            go_wp2_with fail
            clear d0 d1 d2 d3 d4
            refine HC.out.mono ?_
            rintro e w5 ⟨y0, rfl, hy, _, b5⟩
            replace HX := Lib.hid (HX.out.below b5 HX.out.lt)
            replace HQ := Lib.hid (HQ.out.below b5 HQ.out.lt)
            replace HT := Lib.hid (HT.out.bel b5)
            replace HAA := Lib.hid (HAA.out.step b5)
            replace HKY := Lib.hid (HKY.out.step b5)
            replace HB := Lib.hid (HB.out.trans (b5.mono HB.out.size))
            replace HRA := Lib.hid (own_below HRA.out b5)
            replace HLW := Lib.hid (Nat.le_trans HLW.out b5.size)
            have HYT := Lib.hid (hy.any (L := L))
            clear b5 hy HC
            obtain ⟨w6, hw6, b6, z6, xT, xP⟩ := two_al w5 (stC y0 T) #[.int .i64 (k : Int), .int .u32 (birth : Int), .int .u32 (qi : Int), .int .u32 (qt : Int), .int .u32 (qs : Int)] 29 33
            replace HX := Lib.hid (HX.out.below b6 HX.out.lt)
            replace HQ := Lib.hid (HQ.out.below b6 HQ.out.lt)
            replace HT := Lib.hid (HT.out.bel b6)
            replace HAA := Lib.hid (HAA.out.step b6)
            replace HKY := Lib.hid (HKY.out.step b6)
            replace HB := Lib.hid (HB.out.trans (b6.mono HB.out.size))
            replace HRA := Lib.hid (own_below HRA.out b6)
            replace HYT := Lib.hid (HYT.out.bel b6)
            replace HLW := Lib.hid (Nat.le_trans HLW.out b6.size)
            have HXT := Lib.hid xT
            have HQQ := Lib.hid xP
            obtain ⟨g8, hg8⟩ : ∃ g8, w5.heap.size = g8 := ⟨_, rfl⟩
            obtain ⟨g9, hg9⟩ : ∃ g9, g8 + 1 = g9 := ⟨_, rfl⟩
            have d0 := bx0 HXT.out
            have d1 := bx1 HXT.out
            have d2 := bx2 HXT.out
            have d3 := bx3 HXT.out
            have d4 := bx4 HXT.out
            have q0 := bx0 HQQ.out
            have q1 := bx1 HQQ.out
            have q2 := bx2 HQQ.out
            have q3 := bx3 HQQ.out
            have q4 := bx4 HQQ.out
            simp only [stC] at hw6
            rw [← hw6] at d0 d1 d2 d3 d4 q0 q1 q2 q3 q4
            have HW6 := Lib.hid hw6
            have HG8 := Lib.hid (And.intro hg8 hg9)
            have e2 : (((0 : Nat) : Int) == 0) = true := rfl
            clear b6 z6 xT xP hw6 hg8 hg9
            go_wp2_with fail
            rw [HW6.out]
            rw [HG8.out.1] at HXT HQQ
            rw [HG8.out.2] at HQQ
            try rw [HG8.out.1]
            try rw [HG8.out.2]
            clear d0 d1 d2 d3 d4 q0 q1 q2 q3 q4 HW6 HG8 e2
            have hc := stOpen_any L y0 T ((k : Int), birth, qi, qt, qs) B ck key w6 HYT.out HKY.out HTM.out.ok HWQ.out HLW.out
            rw [HOP.out] at hc
            have HC := Lib.hid hc
            clear hc
            refine HC.out.mono ?_
            rintro e w7 ⟨v1, rfl, hv, b7⟩
            simp only at hv
            obtain ⟨a1, c1, rfl⟩ := own_slice hv
            replace HX := Lib.hid (HX.out.below b7 HX.out.lt)
            replace HQ := Lib.hid (HQ.out.below b7 HQ.out.lt)
            replace HT := Lib.hid (HT.out.bel b7)
            replace HAA := Lib.hid (HAA.out.step b7)
            replace HKY := Lib.hid (HKY.out.step b7)
            replace HB := Lib.hid (HB.out.trans (b7.mono HB.out.size))
            replace HRA := Lib.hid (own_below HRA.out b7)
            replace HYT := Lib.hid (HYT.out.bel b7)
            replace HXT := Lib.hid (HXT.out.below b7 HXT.out.lt)
            replace HQQ := Lib.hid (HQQ.out.below b7 HQQ.out.lt)
            replace HLW := Lib.hid (Nat.le_trans HLW.out b7.size)
            have HRX := Lib.hid hv
            clear b7 hv HC
            have q0 := bx0 HQQ.out
            have q1 := bx1 HQQ.out
            have q2 := bx2 HQQ.out
            have q3 := bx3 HQQ.out
            have q4 := bx4 HQQ.out
            have m0 := bx0 HXT.out
            have m1 := bx1 HXT.out
            have m2 := bx2 HXT.out
            have m3 := bx3 HXT.out
            have m4 := bx4 HXT.out
            have d0 := bx0 HX.out
            have d1 := bx1 HX.out
            have d2 := bx2 HX.out
            have d3 := bx3 HX.out
            have d4 := bx4 HX.out
            have V1 := (own_bsl HRX.out).conv
            have V2 := HAA.out.conv
            have e1 : ((strOf b).toList == (strOf b).toList) = true := by simp
            have e2 : ((birth : Int) != birth) = false := by simp
            obtain ⟨cn, hcn⟩ : ∃ n : Nat, S.2.2.2 = n := ⟨_, rfl⟩
            have hcl := HCT.out
            rw [hcn] at hcl
            rw [HTC.out, hcn] at m4
            rw [hcn] at d4
            have e3 : IntKind.u32.wrap ((cn : Int) + 1) = ((cn + 1 : Nat) : Int) := by rw [IntWalk.u32_in _ (by omega)]; omega
            have e4 : (((cn + 1 : Nat) : Int) != ((cn + 1 : Nat) : Int)) = false := by simp
            have hon := stOne_any L x y0 S T ((k : Int), birth, qi, qt, qs) k r E w7 HT.out HYT.out HM.out HTM.out.2.1 HTM.out.1 HT1.out HT2.out HT3.out rfl HKK.out.2 HFR.out
            simp only [stV] at hon
            rw [HTC.out, hcn] at hon
            obtain ⟨cm, hcm⟩ : ∃ n : Nat, cn + 1 = n := ⟨_, rfl⟩
            rw [hcm] at m4 e3 e4 hon
            have HC := Lib.hid hon
            clear hon hcn hcl hcm
            go_wp2_with fail
            clear q0 q1 q2 q3 q4
            clear m0 m1 m2 m3 m4
            clear d0 d1 d2 d3 d4
            clear V1 V2 e1 e2 e3 e4
            refine HC.out.mono ?_
            rintro e w8 ⟨rfl, b7⟩
            replace HX := Lib.hid (HX.out.below b7 HX.out.lt)
            replace HQ := Lib.hid (HQ.out.below b7 HQ.out.lt)
            replace HT := Lib.hid (HT.out.bel b7)
            replace HAA := Lib.hid (HAA.out.step b7)
            replace HKY := Lib.hid (HKY.out.step b7)
            replace HB := Lib.hid (HB.out.trans (b7.mono HB.out.size))
            replace HRA := Lib.hid (own_below HRA.out b7)
            replace HYT := Lib.hid (HYT.out.bel b7)
            replace HXT := Lib.hid (HXT.out.below b7 HXT.out.lt)
            replace HQQ := Lib.hid (HQQ.out.below b7 HQQ.out.lt)
            replace HRX := Lib.hid (own_below HRX.out b7)
            replace HLW := Lib.hid (Nat.le_trans HLW.out b7.size)
            clear b7 HC
            have d0 := bx0 HXT.out
            have d1 := bx1 HXT.out
            have d2 := bx2 HXT.out
            have d3 := bx3 HXT.out
            have d4 := bx4 HXT.out
            have q0 := bx0 HQ.out
            have q1 := bx1 HQ.out
            have q2 := bx2 HQ.out
            have q3 := bx3 HQ.out
            have q4 := bx4 HQ.out
            obtain ⟨⟨ln, en⟩, hln⟩ : ∃ o, lookO T p = o := ⟨_, rfl⟩
            have hc := stLook_any L y0 T p w8 HYT.out HTM.out.ok HWP.out HLW.out
            rw [hln] at hc
            have HLN := Lib.hid hln
            have HC := Lib.hid hc
            clear hc hln
            go_wp2_with fail
            clear d0 d1 d2 d3 d4
            clear q0 q1 q2 q3 q4
            refine HC.out.mono ?_
            rintro e w9 ⟨vn, rfl, hv, b7⟩
            simp only at hv
            obtain ⟨an, cnn, rfl⟩ := own_slice hv
            replace HX := Lib.hid (HX.out.below b7 HX.out.lt)
            replace HQ := Lib.hid (HQ.out.below b7 HQ.out.lt)
            replace HT := Lib.hid (HT.out.bel b7)
            replace HAA := Lib.hid (HAA.out.step b7)
            replace HKY := Lib.hid (HKY.out.step b7)
            replace HB := Lib.hid (HB.out.trans (b7.mono HB.out.size))
            replace HRA := Lib.hid (own_below HRA.out b7)
            replace HYT := Lib.hid (HYT.out.bel b7)
            replace HXT := Lib.hid (HXT.out.below b7 HXT.out.lt)
            replace HQQ := Lib.hid (HQQ.out.below b7 HQQ.out.lt)
            replace HRX := Lib.hid (own_below HRX.out b7)
            replace HLW := Lib.hid (Nat.le_trans HLW.out b7.size)
            have HRN := Lib.hid hv
            clear b7 hv HC
            by_cases he0 : ea = 0
            · subst he0
              obtain ⟨_, hpm, hpz, _⟩ := lookO_ok HLA.out
              obtain ⟨j, hj, j12, j256⟩ := mayP_at hpm hpz
              obtain ⟨bs, os, hxa, _⟩ := HT.out.now.2.at_ (by rw [HM.out.2.1.1]; omega)
              have hsp := HT.out.now.2
              rw [hxa] at hsp
              have t1 := hsp.mk j (by rw [HM.out.2.1.1]; exact j256)
              have d0 := bx0 HX.out
              have d1 := bx1 HX.out
              have d2 := bx2 HX.out
              have d3 := bx3 HX.out
              have d4 := bx4 HX.out
              have q0 := bx0 HQ.out
              have r2 := bx2 HQQ.out
              have r3 := bx3 HQQ.out
              have c2 := d2
              rw [HM.out.2.1.1, hxa] at c2
              have HXA := Lib.hid hxa
              clear d2 hxa
              rw [hj] at q0
              have k0 : (0 : Int) ≤ j := by omega
              have k1 : (j : Int) < 256 := by omega
              have e0 : (((0 : Nat) : Int) == 0) = true := rfl
              obtain ⟨m, hm⟩ : ∃ m : Nat, mkT S.2.1 j = m := ⟨_, rfl⟩
              rw [hm] at t1
              by_cases hm0 : m = 0
              · subst hm0
                have e1 : (((0 : Nat) : Int) != 0) = false := rfl
                clear hm hsp hpm hpz hj
                go_wp2_with fail
                clear t1 q0 k0 k1 e0 e1 c2
                clear d0 d1 d3 d4
                clear r2 r3
                have hc := stRaw_any L x S birth qi qt A cb b w9 HT.out HAA.out HOK.out HLW.out HBI.out
                simp only [stV] at hc
                rw [HM.out.2.1.1, HXA.out] at hc
                have HC := Lib.hid hc
                clear hc
                rcases rawO_cases S birth qi qt b with ⟨eg, heg, hne, _⟩ | ⟨k2, rl2, _, hbr2, hbl2, hk2, hz2, hw2, hfr2, heg⟩
                · rw [heg] at HC
                  clear heg
                  refine HC.out.mono ?_
                  rintro e w10 ⟨y1, rfl, _, _, b5⟩
                  replace HX := Lib.hid (HX.out.below b5 HX.out.lt)
                  replace HQ := Lib.hid (HQ.out.below b5 HQ.out.lt)
                  replace HT := Lib.hid (HT.out.bel b5)
                  replace HAA := Lib.hid (HAA.out.step b5)
                  replace HKY := Lib.hid (HKY.out.step b5)
                  replace HB := Lib.hid (HB.out.trans (b5.mono HB.out.size))
                  replace HRA := Lib.hid (own_below HRA.out b5)
                  replace HYT := Lib.hid (HYT.out.bel b5)
                  replace HXT := Lib.hid (HXT.out.below b5 HXT.out.lt)
                  replace HQQ := Lib.hid (HQQ.out.below b5 HQQ.out.lt)
                  replace HRX := Lib.hid (own_below HRX.out b5)
                  replace HRN := Lib.hid (own_below HRN.out b5)
                  replace HLW := Lib.hid (Nat.le_trans HLW.out b5.size)
                  clear b5 HC
                  obtain ⟨w11, hw6, b6, z6, xT, xP⟩ := two_al w10 #[.slice y1.d.ba 0 y1.d.bc, .slice y1.d.wa 0 y1.d.wc, .slice y1.a 0 y1.c, .int .u32 0, .int .u32 0] #[.int .i64 0, .int .u32 0, .int .u32 0, .int .u32 0, .int .u32 0] 29 33
                  replace HX := Lib.hid (HX.out.below b6 HX.out.lt)
                  replace HQ := Lib.hid (HQ.out.below b6 HQ.out.lt)
                  replace HT := Lib.hid (HT.out.bel b6)
                  replace HAA := Lib.hid (HAA.out.step b6)
                  replace HKY := Lib.hid (HKY.out.step b6)
                  replace HB := Lib.hid (HB.out.trans (b6.mono HB.out.size))
                  replace HRA := Lib.hid (own_below HRA.out b6)
                  replace HYT := Lib.hid (HYT.out.bel b6)
                  replace HXT := Lib.hid (HXT.out.below b6 HXT.out.lt)
                  replace HQQ := Lib.hid (HQQ.out.below b6 HQQ.out.lt)
                  replace HRX := Lib.hid (own_below HRX.out b6)
                  replace HRN := Lib.hid (own_below HRN.out b6)
                  replace HLW := Lib.hid (Nat.le_trans HLW.out b6.size)
                  have e2 : ((eg : Int) != 0) = true := by simp; omega
                  have m2 := bx2 xT
                  rw [← hw6] at m2
                  have HW6 := Lib.hid hw6
                  clear b6 z6 xT xP hne hw6
                  go_wp2_with fail
                  go_ret
                  exact ⟨rfl, by have := HB.out; rw [← HW6.out] at this; exact this⟩
                · rw [heg] at HC
                  have HU := Lib.hid (putAt_may HM.out hk2 hbl2 hw2)
                  have HWR := Lib.hid (wf_putP (k := k2) (birth := birth) (iv := qi) (tag := qt) hk2.2 hbr2.2 HQI.out.1 HQI.out.2 b)
                  have HL1 : Hid (lookO (putAt S k2 b) ((k2 : Int), birth, qi, qt, sumOf b) = (b, 0)) := Lib.hid (by
                    rw [lookO_may HU.out (ptr_may hk2 hbr2 qi qt (sumOf b))]
                    exact seenO_put S hbr2.1 qi qt b)
                  have HG1 := Lib.hid (give_put HM.out hk2 hbr2 hbl2 hw2 qi qt)
                  have HL2 : Hid (lookO (giveAt (putAt S k2 b) k2) ((k2 : Int), birth, qi, qt, sumOf b) = (b, 0)) := Lib.hid (by
                    rw [give_look HU.out (ptr_may hk2 hbr2 qi qt (sumOf b)) hk2]
                    exact HL1.out)
                  have HVM := Lib.hid (giveAt_may HU.out hk2)
                  have HVK : Hid (mkT (giveAt (putAt S k2 b) k2).2.1 k2 = 2) := Lib.hid (by rw [give_mark HU.out.2.1.1 hk2.2, if_pos rfl])
                  have HU1 : Hid ((putAt S k2 b).1 = withD S.1 (k2 : Int) b) := Lib.hid rfl
                  have HU2 : Hid ((putAt S k2 b).2.1 = S.2.1.set k2 1) := Lib.hid rfl
                  have HU3 : Hid ((putAt S k2 b).2.2.1 = S.2.2.1) := Lib.hid rfl
                  have HU4 : Hid ((putAt S k2 b).2.2.2 = S.2.2.2) := Lib.hid rfl
                  obtain ⟨V, hV⟩ : ∃ V, giveAt (putAt S k2 b) k2 = V := ⟨_, rfl⟩
                  rw [hV] at HG1 HL2 HVM HVK
                  obtain ⟨U, hU⟩ : ∃ U, putAt S k2 b = U := ⟨_, rfl⟩
                  rw [hU] at HC HU HL1 HG1 HU1 HU2 HU3 HU4
                  obtain ⟨sb, hsb⟩ : ∃ n, sumOf b = n := ⟨_, rfl⟩
                  rw [hsb] at HC HWR HL1 HG1 HL2
                  have HK2 := Lib.hid hk2
                  have HF2 := Lib.hid hfr2
                  clear heg hV hU hsb hk2 hz2 hbr2 hbl2 hw2 hfr2
                  refine HC.out.mono ?_
                  rintro e w10 ⟨y1, rfl, hy, _, b5⟩
                  replace HX := Lib.hid (HX.out.below b5 HX.out.lt)
                  replace HQ := Lib.hid (HQ.out.below b5 HQ.out.lt)
                  replace HT := Lib.hid (HT.out.bel b5)
                  replace HAA := Lib.hid (HAA.out.step b5)
                  replace HKY := Lib.hid (HKY.out.step b5)
                  replace HB := Lib.hid (HB.out.trans (b5.mono HB.out.size))
                  replace HRA := Lib.hid (own_below HRA.out b5)
                  replace HYT := Lib.hid (HYT.out.bel b5)
                  replace HXT := Lib.hid (HXT.out.below b5 HXT.out.lt)
                  replace HQQ := Lib.hid (HQQ.out.below b5 HQQ.out.lt)
                  replace HRX := Lib.hid (own_below HRX.out b5)
                  replace HRN := Lib.hid (own_below HRN.out b5)
                  replace HLW := Lib.hid (Nat.le_trans HLW.out b5.size)
                  have HYU := Lib.hid (hy.any (L := L))
                  clear b5 hy HC
                  obtain ⟨w11, hw6, b6, z6, xT, xP⟩ := two_al w10 (stC y1 U) #[.int .i64 (k2 : Int), .int .u32 (birth : Int), .int .u32 (qi : Int), .int .u32 (qt : Int), .int .u32 (sb : Int)] 29 33
                  replace HX := Lib.hid (HX.out.below b6 HX.out.lt)
                  replace HQ := Lib.hid (HQ.out.below b6 HQ.out.lt)
                  replace HT := Lib.hid (HT.out.bel b6)
                  replace HAA := Lib.hid (HAA.out.step b6)
                  replace HKY := Lib.hid (HKY.out.step b6)
                  replace HB := Lib.hid (HB.out.trans (b6.mono HB.out.size))
                  replace HRA := Lib.hid (own_below HRA.out b6)
                  replace HYT := Lib.hid (HYT.out.bel b6)
                  replace HXT := Lib.hid (HXT.out.below b6 HXT.out.lt)
                  replace HQQ := Lib.hid (HQQ.out.below b6 HQQ.out.lt)
                  replace HRX := Lib.hid (own_below HRX.out b6)
                  replace HRN := Lib.hid (own_below HRN.out b6)
                  replace HYU := Lib.hid (HYU.out.bel b6)
                  replace HLW := Lib.hid (Nat.le_trans HLW.out b6.size)
                  have HXU := Lib.hid xT
                  have HPR := Lib.hid xP
                  obtain ⟨g8, hg8⟩ : ∃ g8, w10.heap.size = g8 := ⟨_, rfl⟩
                  obtain ⟨g9, hg9⟩ : ∃ g9, g8 + 1 = g9 := ⟨_, rfl⟩
                  have d0 := bx0 HXU.out
                  have d1 := bx1 HXU.out
                  have d2 := bx2 HXU.out
                  have d3 := bx3 HXU.out
                  have d4 := bx4 HXU.out
                  have q0 := bx0 HPR.out
                  have q1 := bx1 HPR.out
                  have q2 := bx2 HPR.out
                  have q3 := bx3 HPR.out
                  have q4 := bx4 HPR.out
                  simp only [stC] at hw6
                  rw [← hw6] at d0 d1 d2 d3 d4 q0 q1 q2 q3 q4
                  have HW6 := Lib.hid hw6
                  have HG8 := Lib.hid (And.intro hg8 hg9)
                  clear b6 z6 xT xP hw6 hg8 hg9
                  go_wp2_with fail
                  rw [HW6.out]
                  rw [HG8.out.1] at HXU HPR
                  rw [HG8.out.2] at HPR
                  try rw [HG8.out.1]
                  try rw [HG8.out.2]
                  clear d0 d1 d2 d3 d4 q0 q1 q2 q3 q4 HW6 HG8
                  have hc := stLook_any L y1 U ((k2 : Int), birth, qi, qt, sb) w11 HYU.out HU.out.ok HWR.out HLW.out
                  rw [HL1.out] at hc
                  have HC := Lib.hid hc
                  clear hc
                  refine HC.out.mono ?_
                  rintro e w12 ⟨v1, rfl, hv, b7⟩
                  simp only at hv
                  obtain ⟨a1, c1, rfl⟩ := own_slice hv
                  replace HX := Lib.hid (HX.out.below b7 HX.out.lt)
                  replace HQ := Lib.hid (HQ.out.below b7 HQ.out.lt)
                  replace HT := Lib.hid (HT.out.bel b7)
                  replace HAA := Lib.hid (HAA.out.step b7)
                  replace HKY := Lib.hid (HKY.out.step b7)
                  replace HB := Lib.hid (HB.out.trans (b7.mono HB.out.size))
                  replace HRA := Lib.hid (own_below HRA.out b7)
                  replace HYT := Lib.hid (HYT.out.bel b7)
                  replace HXT := Lib.hid (HXT.out.below b7 HXT.out.lt)
                  replace HQQ := Lib.hid (HQQ.out.below b7 HQQ.out.lt)
                  replace HRX := Lib.hid (own_below HRX.out b7)
                  replace HRN := Lib.hid (own_below HRN.out b7)
                  replace HYU := Lib.hid (HYU.out.bel b7)
                  replace HXU := Lib.hid (HXU.out.below b7 HXU.out.lt)
                  replace HPR := Lib.hid (HPR.out.below b7 HPR.out.lt)
                  replace HLW := Lib.hid (Nat.le_trans HLW.out b7.size)
                  have HR1 := Lib.hid hv
                  clear b7 hv HC
                  have q0 := bx0 HPR.out
                  have q1 := bx1 HPR.out
                  have q2 := bx2 HPR.out
                  have q3 := bx3 HPR.out
                  have q4 := bx4 HPR.out
                  have r2 := bx2 HQQ.out
                  have r3 := bx3 HQQ.out
                  have m0 := bx0 HXU.out
                  have m1 := bx1 HXU.out
                  have m2 := bx2 HXU.out
                  have m3 := bx3 HXU.out
                  have m4 := bx4 HXU.out
                  have d0 := bx0 HX.out
                  have d1 := bx1 HX.out
                  have d2 := bx2 HX.out
                  have d3 := bx3 HX.out
                  have d4 := bx4 HX.out
                  have V1 := (own_bsl HR1.out).conv
                  have V2 := HAA.out.conv
                  have e1 : ((strOf b).toList == (strOf b).toList) = true := by simp
                  have e2 : ((qi : Int) != qi) = false := by simp
                  have e3 : ((qt : Int) != qt) = false := by simp
                  obtain ⟨cn, hcn⟩ : ∃ n : Nat, S.2.2.2 = n := ⟨_, rfl⟩
                  rw [HU4.out, hcn] at m4
                  rw [hcn] at d4
                  have e4 : ((cn : Int) != cn) = false := by simp
                  have hon := stOne_any L x y1 S U ((k2 : Int), birth, qi, qt, sb) k2 rl2 b w12 HT.out HYU.out HM.out HU.out.2.1 HU.out.1 HU1.out HU2.out HU3.out rfl HK2.out.2 HF2.out
                  simp only [stV] at hon
                  rw [HU4.out, hcn] at hon
                  have HC := Lib.hid hon
                  clear hon hcn
                  go_wp2_with fail
                  clear q0 q1 q2 q3 q4
                  clear r2 r3
                  clear m0 m1 m2 m3 m4
                  clear d0 d1 d2 d3 d4
                  clear V1 V2 e1 e2 e3 e4
                  refine HC.out.mono ?_
                  rintro e wa ⟨rfl, b7⟩
                  replace HX := Lib.hid (HX.out.below b7 HX.out.lt)
                  replace HQ := Lib.hid (HQ.out.below b7 HQ.out.lt)
                  replace HT := Lib.hid (HT.out.bel b7)
                  replace HAA := Lib.hid (HAA.out.step b7)
                  replace HKY := Lib.hid (HKY.out.step b7)
                  replace HB := Lib.hid (HB.out.trans (b7.mono HB.out.size))
                  replace HRA := Lib.hid (own_below HRA.out b7)
                  replace HYT := Lib.hid (HYT.out.bel b7)
                  replace HXT := Lib.hid (HXT.out.below b7 HXT.out.lt)
                  replace HQQ := Lib.hid (HQQ.out.below b7 HQQ.out.lt)
                  replace HRX := Lib.hid (own_below HRX.out b7)
                  replace HRN := Lib.hid (own_below HRN.out b7)
                  replace HYU := Lib.hid (HYU.out.bel b7)
                  replace HXU := Lib.hid (HXU.out.below b7 HXU.out.lt)
                  replace HPR := Lib.hid (HPR.out.below b7 HPR.out.lt)
                  replace HR1 := Lib.hid (own_below HR1.out b7)
                  replace HLW := Lib.hid (Nat.le_trans HLW.out b7.size)
                  clear b7 HC
                  have d0 := bx0 HXU.out
                  have d1 := bx1 HXU.out
                  have d2 := bx2 HXU.out
                  have d3 := bx3 HXU.out
                  have d4 := bx4 HXU.out
                  have q0 := bx0 HPR.out
                  have q1 := bx1 HPR.out
                  have q2 := bx2 HPR.out
                  have q3 := bx3 HPR.out
                  have q4 := bx4 HPR.out
                  have hc := stGive_any L y1 U ((k2 : Int), birth, qi, qt, sb) wa HYU.out HU.out.ok HWR.out HLW.out
                  rw [HG1.out] at hc
                  have HC := Lib.hid hc
                  clear hc
                  go_wp2_with fail
                  clear d0 d1 d2 d3 d4
                  clear q0 q1 q2 q3 q4
                  refine HC.out.mono ?_
                  rintro e wb ⟨y2, rfl, hy, _, b7⟩
                  replace HX := Lib.hid (HX.out.below b7 HX.out.lt)
                  replace HQ := Lib.hid (HQ.out.below b7 HQ.out.lt)
                  replace HT := Lib.hid (HT.out.bel b7)
                  replace HAA := Lib.hid (HAA.out.step b7)
                  replace HKY := Lib.hid (HKY.out.step b7)
                  replace HB := Lib.hid (HB.out.trans (b7.mono HB.out.size))
                  replace HRA := Lib.hid (own_below HRA.out b7)
                  replace HYT := Lib.hid (HYT.out.bel b7)
                  replace HXT := Lib.hid (HXT.out.below b7 HXT.out.lt)
                  replace HQQ := Lib.hid (HQQ.out.below b7 HQQ.out.lt)
                  replace HRX := Lib.hid (own_below HRX.out b7)
                  replace HRN := Lib.hid (own_below HRN.out b7)
                  replace HYU := Lib.hid (HYU.out.bel b7)
                  replace HXU := Lib.hid (HXU.out.below b7 HXU.out.lt)
                  replace HPR := Lib.hid (HPR.out.below b7 HPR.out.lt)
                  replace HR1 := Lib.hid (own_below HR1.out b7)
                  replace HLW := Lib.hid (Nat.le_trans HLW.out b7.size)
                  have HYV := Lib.hid (hy.any (L := L))
                  clear b7 hy HC
                  have HXV := Lib.hid (Blk.new wb 29 (stC y2 V))
                  have b8 := (Below.refl wb.heap.size wb).alloc (Nat.le_refl _) (.cells (stC y2 V) 29)
                  replace HX := Lib.hid (HX.out.below b8 HX.out.lt)
                  replace HQ := Lib.hid (HQ.out.below b8 HQ.out.lt)
                  replace HT := Lib.hid (HT.out.bel b8)
                  replace HAA := Lib.hid (HAA.out.step b8)
                  replace HKY := Lib.hid (HKY.out.step b8)
                  replace HB := Lib.hid (HB.out.trans (b8.mono HB.out.size))
                  replace HRA := Lib.hid (own_below HRA.out b8)
                  replace HYT := Lib.hid (HYT.out.bel b8)
                  replace HXT := Lib.hid (HXT.out.below b8 HXT.out.lt)
                  replace HQQ := Lib.hid (HQQ.out.below b8 HQQ.out.lt)
                  replace HRX := Lib.hid (own_below HRX.out b8)
                  replace HRN := Lib.hid (own_below HRN.out b8)
                  replace HYU := Lib.hid (HYU.out.bel b8)
                  replace HXU := Lib.hid (HXU.out.below b8 HXU.out.lt)
                  replace HPR := Lib.hid (HPR.out.below b8 HPR.out.lt)
                  replace HR1 := Lib.hid (own_below HR1.out b8)
                  replace HYV := Lib.hid (HYV.out.bel b8)
                  replace HLW := Lib.hid (Nat.le_trans HLW.out b8.size)
                  clear b8
                  obtain ⟨wc, hwc⟩ : ∃ X, wb.alloc (.cells (stC y2 V) 29) = X := ⟨_, rfl⟩
                  obtain ⟨gv, hgv⟩ : ∃ X, wb.heap.size = X := ⟨_, rfl⟩
                  rw [hwc] at HX HQ HT HAA HKY HB HRA HYT HXT HQQ HRX HRN HYU HXU HPR HR1 HYV HXV HLW
                  rw [hgv] at HXV
                  have d0 := bx0 HXV.out
                  have d1 := bx1 HXV.out
                  have d2 := bx2 HXV.out
                  have d3 := bx3 HXV.out
                  have d4 := bx4 HXV.out
                  have q0 := bx0 HPR.out
                  have q1 := bx1 HPR.out
                  have q2 := bx2 HPR.out
                  have q3 := bx3 HPR.out
                  have q4 := bx4 HPR.out
                  simp only [stC] at hwc
                  rw [← hwc] at d0 d1 d2 d3 d4 q0 q1 q2 q3 q4
                  have HWC := Lib.hid hwc
                  have HGV := Lib.hid hgv
                  clear hwc hgv
                  go_wp2_with fail
                  rw [HWC.out]
                  try rw [HGV.out]
                  clear d0 d1 d2 d3 d4 q0 q1 q2 q3 q4 HWC HGV
                  have hc := stLook_any L y2 V ((k2 : Int), birth, qi, qt, sb) wc HYV.out HVM.out.ok HWR.out HLW.out
                  rw [HL2.out] at hc
                  have HC := Lib.hid hc
                  clear hc
                  refine HC.out.mono ?_
                  rintro e we ⟨v2, rfl, hv, b7⟩
                  simp only at hv
                  obtain ⟨a2, c2, rfl⟩ := own_slice hv
                  replace HX := Lib.hid (HX.out.below b7 HX.out.lt)
                  replace HQ := Lib.hid (HQ.out.below b7 HQ.out.lt)
                  replace HT := Lib.hid (HT.out.bel b7)
                  replace HAA := Lib.hid (HAA.out.step b7)
                  replace HKY := Lib.hid (HKY.out.step b7)
                  replace HB := Lib.hid (HB.out.trans (b7.mono HB.out.size))
                  replace HRA := Lib.hid (own_below HRA.out b7)
                  replace HYT := Lib.hid (HYT.out.bel b7)
                  replace HXT := Lib.hid (HXT.out.below b7 HXT.out.lt)
                  replace HQQ := Lib.hid (HQQ.out.below b7 HQQ.out.lt)
                  replace HRX := Lib.hid (own_below HRX.out b7)
                  replace HRN := Lib.hid (own_below HRN.out b7)
                  replace HYU := Lib.hid (HYU.out.bel b7)
                  replace HXU := Lib.hid (HXU.out.below b7 HXU.out.lt)
                  replace HPR := Lib.hid (HPR.out.below b7 HPR.out.lt)
                  replace HR1 := Lib.hid (own_below HR1.out b7)
                  replace HYV := Lib.hid (HYV.out.bel b7)
                  replace HXV := Lib.hid (HXV.out.below b7 HXV.out.lt)
                  replace HLW := Lib.hid (Nat.le_trans HLW.out b7.size)
                  have V1 := (own_bsl hv).conv
                  have V2 := HAA.out.conv
                  have e1 : ((strOf b).toList == (strOf b).toList) = true := by simp
                  obtain ⟨bv, ov, hva, _⟩ := HYV.out.now.2.at_ (by rw [HVM.out.2.1.1]; omega)
                  have hsv := HYV.out.now.2
                  rw [hva] at hsv
                  have t1 := hsv.mk k2 (by rw [HVM.out.2.1.1]; exact HK2.out.2)
                  rw [HVK.out] at t1
                  have d2 := bx2 HXV.out
                  have q0 := bx0 HPR.out
                  rw [HVM.out.2.1.1, hva] at d2
                  have k0 : (0 : Int) ≤ k2 := by omega
                  have k1 : (k2 : Int) < 256 := by have := HK2.out.2; omega
                  clear hv b7 HC hsv hva
                  go_wp2_with fail
                  go_ret
                  exact ⟨rfl, HB.out⟩
              · have e1 : ((m : Int) != 0) = true := by simp; omega
                have hjk : p.1 ≠ (k : Int) := fun e => hm0 (by
                  have := HMK.out
                  have ej : j = k := by omega
                  rw [← ej, hm] at this
                  exact this)
                have hfr := HFAR.out hpm hjk
                rw [HLN.out, HLA.out] at hfr
                obtain ⟨rfl, rfl⟩ : ln = la ∧ en = 0 := by injection hfr with e1 e2; exact ⟨e1, e2⟩
                have V1 := (own_bsl HRN.out).conv
                have V2 := (own_bsl HRA.out).conv
                have e2 : ((strOf ln).toList == (strOf ln).toList) = true := by simp
                have e3 : (((0 : Nat) : Int) != 0) = false := rfl
                clear hm hm0 hsp hpm hpz hj hjk hfr
                go_wp2_with fail
                clear t1 q0 k0 k1 e0 e1 e2 e3 c2 V1 V2
                clear d0 d1 d3 d4
                clear r2 r3
                have hc := stRaw_any L x S birth qi qt A cb b w9 HT.out HAA.out HOK.out HLW.out HBI.out
                simp only [stV] at hc
                rw [HM.out.2.1.1, HXA.out] at hc
                have HC := Lib.hid hc
                clear hc
                rcases rawO_cases S birth qi qt b with ⟨eg, heg, hne, _⟩ | ⟨k2, rl2, _, hbr2, hbl2, hk2, hz2, hw2, hfr2, heg⟩
                · rw [heg] at HC
                  clear heg
                  refine HC.out.mono ?_
                  rintro e w10 ⟨y1, rfl, _, _, b5⟩
                  replace HX := Lib.hid (HX.out.below b5 HX.out.lt)
                  replace HQ := Lib.hid (HQ.out.below b5 HQ.out.lt)
                  replace HT := Lib.hid (HT.out.bel b5)
                  replace HAA := Lib.hid (HAA.out.step b5)
                  replace HKY := Lib.hid (HKY.out.step b5)
                  replace HB := Lib.hid (HB.out.trans (b5.mono HB.out.size))
                  replace HRA := Lib.hid (own_below HRA.out b5)
                  replace HYT := Lib.hid (HYT.out.bel b5)
                  replace HXT := Lib.hid (HXT.out.below b5 HXT.out.lt)
                  replace HQQ := Lib.hid (HQQ.out.below b5 HQQ.out.lt)
                  replace HRX := Lib.hid (own_below HRX.out b5)
                  replace HRN := Lib.hid (own_below HRN.out b5)
                  replace HLW := Lib.hid (Nat.le_trans HLW.out b5.size)
                  clear b5 HC
                  obtain ⟨w11, hw6, b6, z6, xT, xP⟩ := two_al w10 #[.slice y1.d.ba 0 y1.d.bc, .slice y1.d.wa 0 y1.d.wc, .slice y1.a 0 y1.c, .int .u32 0, .int .u32 0] #[.int .i64 0, .int .u32 0, .int .u32 0, .int .u32 0, .int .u32 0] 29 33
                  replace HX := Lib.hid (HX.out.below b6 HX.out.lt)
                  replace HQ := Lib.hid (HQ.out.below b6 HQ.out.lt)
                  replace HT := Lib.hid (HT.out.bel b6)
                  replace HAA := Lib.hid (HAA.out.step b6)
                  replace HKY := Lib.hid (HKY.out.step b6)
                  replace HB := Lib.hid (HB.out.trans (b6.mono HB.out.size))
                  replace HRA := Lib.hid (own_below HRA.out b6)
                  replace HYT := Lib.hid (HYT.out.bel b6)
                  replace HXT := Lib.hid (HXT.out.below b6 HXT.out.lt)
                  replace HQQ := Lib.hid (HQQ.out.below b6 HQQ.out.lt)
                  replace HRX := Lib.hid (own_below HRX.out b6)
                  replace HRN := Lib.hid (own_below HRN.out b6)
                  replace HLW := Lib.hid (Nat.le_trans HLW.out b6.size)
                  have e2 : ((eg : Int) != 0) = true := by simp; omega
                  have m2 := bx2 xT
                  rw [← hw6] at m2
                  have HW6 := Lib.hid hw6
                  clear b6 z6 xT xP hne hw6
                  go_wp2_with fail
                  go_ret
                  exact ⟨rfl, by have := HB.out; rw [← HW6.out] at this; exact this⟩
                · rw [heg] at HC
                  have HU := Lib.hid (putAt_may HM.out hk2 hbl2 hw2)
                  have HWR := Lib.hid (wf_putP (k := k2) (birth := birth) (iv := qi) (tag := qt) hk2.2 hbr2.2 HQI.out.1 HQI.out.2 b)
                  have HL1 : Hid (lookO (putAt S k2 b) ((k2 : Int), birth, qi, qt, sumOf b) = (b, 0)) := Lib.hid (by
                    rw [lookO_may HU.out (ptr_may hk2 hbr2 qi qt (sumOf b))]
                    exact seenO_put S hbr2.1 qi qt b)
                  have HG1 := Lib.hid (give_put HM.out hk2 hbr2 hbl2 hw2 qi qt)
                  have HL2 : Hid (lookO (giveAt (putAt S k2 b) k2) ((k2 : Int), birth, qi, qt, sumOf b) = (b, 0)) := Lib.hid (by
                    rw [give_look HU.out (ptr_may hk2 hbr2 qi qt (sumOf b)) hk2]
                    exact HL1.out)
                  have HVM := Lib.hid (giveAt_may HU.out hk2)
                  have HVK : Hid (mkT (giveAt (putAt S k2 b) k2).2.1 k2 = 2) := Lib.hid (by rw [give_mark HU.out.2.1.1 hk2.2, if_pos rfl])
                  have HU1 : Hid ((putAt S k2 b).1 = withD S.1 (k2 : Int) b) := Lib.hid rfl
                  have HU2 : Hid ((putAt S k2 b).2.1 = S.2.1.set k2 1) := Lib.hid rfl
                  have HU3 : Hid ((putAt S k2 b).2.2.1 = S.2.2.1) := Lib.hid rfl
                  have HU4 : Hid ((putAt S k2 b).2.2.2 = S.2.2.2) := Lib.hid rfl
                  obtain ⟨V, hV⟩ : ∃ V, giveAt (putAt S k2 b) k2 = V := ⟨_, rfl⟩
                  rw [hV] at HG1 HL2 HVM HVK
                  obtain ⟨U, hU⟩ : ∃ U, putAt S k2 b = U := ⟨_, rfl⟩
                  rw [hU] at HC HU HL1 HG1 HU1 HU2 HU3 HU4
                  obtain ⟨sb, hsb⟩ : ∃ n, sumOf b = n := ⟨_, rfl⟩
                  rw [hsb] at HC HWR HL1 HG1 HL2
                  have HK2 := Lib.hid hk2
                  have HF2 := Lib.hid hfr2
                  clear heg hV hU hsb hk2 hz2 hbr2 hbl2 hw2 hfr2
                  refine HC.out.mono ?_
                  rintro e w10 ⟨y1, rfl, hy, _, b5⟩
                  replace HX := Lib.hid (HX.out.below b5 HX.out.lt)
                  replace HQ := Lib.hid (HQ.out.below b5 HQ.out.lt)
                  replace HT := Lib.hid (HT.out.bel b5)
                  replace HAA := Lib.hid (HAA.out.step b5)
                  replace HKY := Lib.hid (HKY.out.step b5)
                  replace HB := Lib.hid (HB.out.trans (b5.mono HB.out.size))
                  replace HRA := Lib.hid (own_below HRA.out b5)
                  replace HYT := Lib.hid (HYT.out.bel b5)
                  replace HXT := Lib.hid (HXT.out.below b5 HXT.out.lt)
                  replace HQQ := Lib.hid (HQQ.out.below b5 HQQ.out.lt)
                  replace HRX := Lib.hid (own_below HRX.out b5)
                  replace HRN := Lib.hid (own_below HRN.out b5)
                  replace HLW := Lib.hid (Nat.le_trans HLW.out b5.size)
                  have HYU := Lib.hid (hy.any (L := L))
                  clear b5 hy HC
                  obtain ⟨w11, hw6, b6, z6, xT, xP⟩ := two_al w10 (stC y1 U) #[.int .i64 (k2 : Int), .int .u32 (birth : Int), .int .u32 (qi : Int), .int .u32 (qt : Int), .int .u32 (sb : Int)] 29 33
                  replace HX := Lib.hid (HX.out.below b6 HX.out.lt)
                  replace HQ := Lib.hid (HQ.out.below b6 HQ.out.lt)
                  replace HT := Lib.hid (HT.out.bel b6)
                  replace HAA := Lib.hid (HAA.out.step b6)
                  replace HKY := Lib.hid (HKY.out.step b6)
                  replace HB := Lib.hid (HB.out.trans (b6.mono HB.out.size))
                  replace HRA := Lib.hid (own_below HRA.out b6)
                  replace HYT := Lib.hid (HYT.out.bel b6)
                  replace HXT := Lib.hid (HXT.out.below b6 HXT.out.lt)
                  replace HQQ := Lib.hid (HQQ.out.below b6 HQQ.out.lt)
                  replace HRX := Lib.hid (own_below HRX.out b6)
                  replace HRN := Lib.hid (own_below HRN.out b6)
                  replace HYU := Lib.hid (HYU.out.bel b6)
                  replace HLW := Lib.hid (Nat.le_trans HLW.out b6.size)
                  have HXU := Lib.hid xT
                  have HPR := Lib.hid xP
                  obtain ⟨g8, hg8⟩ : ∃ g8, w10.heap.size = g8 := ⟨_, rfl⟩
                  obtain ⟨g9, hg9⟩ : ∃ g9, g8 + 1 = g9 := ⟨_, rfl⟩
                  have d0 := bx0 HXU.out
                  have d1 := bx1 HXU.out
                  have d2 := bx2 HXU.out
                  have d3 := bx3 HXU.out
                  have d4 := bx4 HXU.out
                  have q0 := bx0 HPR.out
                  have q1 := bx1 HPR.out
                  have q2 := bx2 HPR.out
                  have q3 := bx3 HPR.out
                  have q4 := bx4 HPR.out
                  simp only [stC] at hw6
                  rw [← hw6] at d0 d1 d2 d3 d4 q0 q1 q2 q3 q4
                  have HW6 := Lib.hid hw6
                  have HG8 := Lib.hid (And.intro hg8 hg9)
                  clear b6 z6 xT xP hw6 hg8 hg9
                  go_wp2_with fail
                  rw [HW6.out]
                  rw [HG8.out.1] at HXU HPR
                  rw [HG8.out.2] at HPR
                  try rw [HG8.out.1]
                  try rw [HG8.out.2]
                  clear d0 d1 d2 d3 d4 q0 q1 q2 q3 q4 HW6 HG8
                  have hc := stLook_any L y1 U ((k2 : Int), birth, qi, qt, sb) w11 HYU.out HU.out.ok HWR.out HLW.out
                  rw [HL1.out] at hc
                  have HC := Lib.hid hc
                  clear hc
                  refine HC.out.mono ?_
                  rintro e w12 ⟨v1, rfl, hv, b7⟩
                  simp only at hv
                  obtain ⟨a1, c1, rfl⟩ := own_slice hv
                  replace HX := Lib.hid (HX.out.below b7 HX.out.lt)
                  replace HQ := Lib.hid (HQ.out.below b7 HQ.out.lt)
                  replace HT := Lib.hid (HT.out.bel b7)
                  replace HAA := Lib.hid (HAA.out.step b7)
                  replace HKY := Lib.hid (HKY.out.step b7)
                  replace HB := Lib.hid (HB.out.trans (b7.mono HB.out.size))
                  replace HRA := Lib.hid (own_below HRA.out b7)
                  replace HYT := Lib.hid (HYT.out.bel b7)
                  replace HXT := Lib.hid (HXT.out.below b7 HXT.out.lt)
                  replace HQQ := Lib.hid (HQQ.out.below b7 HQQ.out.lt)
                  replace HRX := Lib.hid (own_below HRX.out b7)
                  replace HRN := Lib.hid (own_below HRN.out b7)
                  replace HYU := Lib.hid (HYU.out.bel b7)
                  replace HXU := Lib.hid (HXU.out.below b7 HXU.out.lt)
                  replace HPR := Lib.hid (HPR.out.below b7 HPR.out.lt)
                  replace HLW := Lib.hid (Nat.le_trans HLW.out b7.size)
                  have HR1 := Lib.hid hv
                  clear b7 hv HC
                  have q0 := bx0 HPR.out
                  have q1 := bx1 HPR.out
                  have q2 := bx2 HPR.out
                  have q3 := bx3 HPR.out
                  have q4 := bx4 HPR.out
                  have r2 := bx2 HQQ.out
                  have r3 := bx3 HQQ.out
                  have m0 := bx0 HXU.out
                  have m1 := bx1 HXU.out
                  have m2 := bx2 HXU.out
                  have m3 := bx3 HXU.out
                  have m4 := bx4 HXU.out
                  have d0 := bx0 HX.out
                  have d1 := bx1 HX.out
                  have d2 := bx2 HX.out
                  have d3 := bx3 HX.out
                  have d4 := bx4 HX.out
                  have V1 := (own_bsl HR1.out).conv
                  have V2 := HAA.out.conv
                  have e1 : ((strOf b).toList == (strOf b).toList) = true := by simp
                  have e2 : ((qi : Int) != qi) = false := by simp
                  have e3 : ((qt : Int) != qt) = false := by simp
                  obtain ⟨cn, hcn⟩ : ∃ n : Nat, S.2.2.2 = n := ⟨_, rfl⟩
                  rw [HU4.out, hcn] at m4
                  rw [hcn] at d4
                  have e4 : ((cn : Int) != cn) = false := by simp
                  have hon := stOne_any L x y1 S U ((k2 : Int), birth, qi, qt, sb) k2 rl2 b w12 HT.out HYU.out HM.out HU.out.2.1 HU.out.1 HU1.out HU2.out HU3.out rfl HK2.out.2 HF2.out
                  simp only [stV] at hon
                  rw [HU4.out, hcn] at hon
                  have HC := Lib.hid hon
                  clear hon hcn
                  go_wp2_with fail
                  clear q0 q1 q2 q3 q4
                  clear r2 r3
                  clear m0 m1 m2 m3 m4
                  clear d0 d1 d2 d3 d4
                  clear V1 V2 e1 e2 e3 e4
                  refine HC.out.mono ?_
                  rintro e wa ⟨rfl, b7⟩
                  replace HX := Lib.hid (HX.out.below b7 HX.out.lt)
                  replace HQ := Lib.hid (HQ.out.below b7 HQ.out.lt)
                  replace HT := Lib.hid (HT.out.bel b7)
                  replace HAA := Lib.hid (HAA.out.step b7)
                  replace HKY := Lib.hid (HKY.out.step b7)
                  replace HB := Lib.hid (HB.out.trans (b7.mono HB.out.size))
                  replace HRA := Lib.hid (own_below HRA.out b7)
                  replace HYT := Lib.hid (HYT.out.bel b7)
                  replace HXT := Lib.hid (HXT.out.below b7 HXT.out.lt)
                  replace HQQ := Lib.hid (HQQ.out.below b7 HQQ.out.lt)
                  replace HRX := Lib.hid (own_below HRX.out b7)
                  replace HRN := Lib.hid (own_below HRN.out b7)
                  replace HYU := Lib.hid (HYU.out.bel b7)
                  replace HXU := Lib.hid (HXU.out.below b7 HXU.out.lt)
                  replace HPR := Lib.hid (HPR.out.below b7 HPR.out.lt)
                  replace HR1 := Lib.hid (own_below HR1.out b7)
                  replace HLW := Lib.hid (Nat.le_trans HLW.out b7.size)
                  clear b7 HC
                  have d0 := bx0 HXU.out
                  have d1 := bx1 HXU.out
                  have d2 := bx2 HXU.out
                  have d3 := bx3 HXU.out
                  have d4 := bx4 HXU.out
                  have q0 := bx0 HPR.out
                  have q1 := bx1 HPR.out
                  have q2 := bx2 HPR.out
                  have q3 := bx3 HPR.out
                  have q4 := bx4 HPR.out
                  have hc := stGive_any L y1 U ((k2 : Int), birth, qi, qt, sb) wa HYU.out HU.out.ok HWR.out HLW.out
                  rw [HG1.out] at hc
                  have HC := Lib.hid hc
                  clear hc
                  go_wp2_with fail
                  clear d0 d1 d2 d3 d4
                  clear q0 q1 q2 q3 q4
                  refine HC.out.mono ?_
                  rintro e wb ⟨y2, rfl, hy, _, b7⟩
                  replace HX := Lib.hid (HX.out.below b7 HX.out.lt)
                  replace HQ := Lib.hid (HQ.out.below b7 HQ.out.lt)
                  replace HT := Lib.hid (HT.out.bel b7)
                  replace HAA := Lib.hid (HAA.out.step b7)
                  replace HKY := Lib.hid (HKY.out.step b7)
                  replace HB := Lib.hid (HB.out.trans (b7.mono HB.out.size))
                  replace HRA := Lib.hid (own_below HRA.out b7)
                  replace HYT := Lib.hid (HYT.out.bel b7)
                  replace HXT := Lib.hid (HXT.out.below b7 HXT.out.lt)
                  replace HQQ := Lib.hid (HQQ.out.below b7 HQQ.out.lt)
                  replace HRX := Lib.hid (own_below HRX.out b7)
                  replace HRN := Lib.hid (own_below HRN.out b7)
                  replace HYU := Lib.hid (HYU.out.bel b7)
                  replace HXU := Lib.hid (HXU.out.below b7 HXU.out.lt)
                  replace HPR := Lib.hid (HPR.out.below b7 HPR.out.lt)
                  replace HR1 := Lib.hid (own_below HR1.out b7)
                  replace HLW := Lib.hid (Nat.le_trans HLW.out b7.size)
                  have HYV := Lib.hid (hy.any (L := L))
                  clear b7 hy HC
                  have HXV := Lib.hid (Blk.new wb 29 (stC y2 V))
                  have b8 := (Below.refl wb.heap.size wb).alloc (Nat.le_refl _) (.cells (stC y2 V) 29)
                  replace HX := Lib.hid (HX.out.below b8 HX.out.lt)
                  replace HQ := Lib.hid (HQ.out.below b8 HQ.out.lt)
                  replace HT := Lib.hid (HT.out.bel b8)
                  replace HAA := Lib.hid (HAA.out.step b8)
                  replace HKY := Lib.hid (HKY.out.step b8)
                  replace HB := Lib.hid (HB.out.trans (b8.mono HB.out.size))
                  replace HRA := Lib.hid (own_below HRA.out b8)
                  replace HYT := Lib.hid (HYT.out.bel b8)
                  replace HXT := Lib.hid (HXT.out.below b8 HXT.out.lt)
                  replace HQQ := Lib.hid (HQQ.out.below b8 HQQ.out.lt)
                  replace HRX := Lib.hid (own_below HRX.out b8)
                  replace HRN := Lib.hid (own_below HRN.out b8)
                  replace HYU := Lib.hid (HYU.out.bel b8)
                  replace HXU := Lib.hid (HXU.out.below b8 HXU.out.lt)
                  replace HPR := Lib.hid (HPR.out.below b8 HPR.out.lt)
                  replace HR1 := Lib.hid (own_below HR1.out b8)
                  replace HYV := Lib.hid (HYV.out.bel b8)
                  replace HLW := Lib.hid (Nat.le_trans HLW.out b8.size)
                  clear b8
                  obtain ⟨wc, hwc⟩ : ∃ X, wb.alloc (.cells (stC y2 V) 29) = X := ⟨_, rfl⟩
                  obtain ⟨gv, hgv⟩ : ∃ X, wb.heap.size = X := ⟨_, rfl⟩
                  rw [hwc] at HX HQ HT HAA HKY HB HRA HYT HXT HQQ HRX HRN HYU HXU HPR HR1 HYV HXV HLW
                  rw [hgv] at HXV
                  have d0 := bx0 HXV.out
                  have d1 := bx1 HXV.out
                  have d2 := bx2 HXV.out
                  have d3 := bx3 HXV.out
                  have d4 := bx4 HXV.out
                  have q0 := bx0 HPR.out
                  have q1 := bx1 HPR.out
                  have q2 := bx2 HPR.out
                  have q3 := bx3 HPR.out
                  have q4 := bx4 HPR.out
                  simp only [stC] at hwc
                  rw [← hwc] at d0 d1 d2 d3 d4 q0 q1 q2 q3 q4
                  have HWC := Lib.hid hwc
                  have HGV := Lib.hid hgv
                  clear hwc hgv
                  go_wp2_with fail
                  rw [HWC.out]
                  try rw [HGV.out]
                  clear d0 d1 d2 d3 d4 q0 q1 q2 q3 q4 HWC HGV
                  have hc := stLook_any L y2 V ((k2 : Int), birth, qi, qt, sb) wc HYV.out HVM.out.ok HWR.out HLW.out
                  rw [HL2.out] at hc
                  have HC := Lib.hid hc
                  clear hc
                  refine HC.out.mono ?_
                  rintro e we ⟨v2, rfl, hv, b7⟩
                  simp only at hv
                  obtain ⟨a2, c2, rfl⟩ := own_slice hv
                  replace HX := Lib.hid (HX.out.below b7 HX.out.lt)
                  replace HQ := Lib.hid (HQ.out.below b7 HQ.out.lt)
                  replace HT := Lib.hid (HT.out.bel b7)
                  replace HAA := Lib.hid (HAA.out.step b7)
                  replace HKY := Lib.hid (HKY.out.step b7)
                  replace HB := Lib.hid (HB.out.trans (b7.mono HB.out.size))
                  replace HRA := Lib.hid (own_below HRA.out b7)
                  replace HYT := Lib.hid (HYT.out.bel b7)
                  replace HXT := Lib.hid (HXT.out.below b7 HXT.out.lt)
                  replace HQQ := Lib.hid (HQQ.out.below b7 HQQ.out.lt)
                  replace HRX := Lib.hid (own_below HRX.out b7)
                  replace HRN := Lib.hid (own_below HRN.out b7)
                  replace HYU := Lib.hid (HYU.out.bel b7)
                  replace HXU := Lib.hid (HXU.out.below b7 HXU.out.lt)
                  replace HPR := Lib.hid (HPR.out.below b7 HPR.out.lt)
                  replace HR1 := Lib.hid (own_below HR1.out b7)
                  replace HYV := Lib.hid (HYV.out.bel b7)
                  replace HXV := Lib.hid (HXV.out.below b7 HXV.out.lt)
                  replace HLW := Lib.hid (Nat.le_trans HLW.out b7.size)
                  have V1 := (own_bsl hv).conv
                  have V2 := HAA.out.conv
                  have e1 : ((strOf b).toList == (strOf b).toList) = true := by simp
                  obtain ⟨bv, ov, hva, _⟩ := HYV.out.now.2.at_ (by rw [HVM.out.2.1.1]; omega)
                  have hsv := HYV.out.now.2
                  rw [hva] at hsv
                  have t1 := hsv.mk k2 (by rw [HVM.out.2.1.1]; exact HK2.out.2)
                  rw [HVK.out] at t1
                  have d2 := bx2 HXV.out
                  have q0 := bx0 HPR.out
                  rw [HVM.out.2.1.1, hva] at d2
                  have k0 : (0 : Int) ≤ k2 := by omega
                  have k1 : (k2 : Int) < 256 := by have := HK2.out.2; omega
                  clear hv b7 HC hsv hva
                  go_wp2_with fail
                  go_ret
                  exact ⟨rfl, HB.out⟩
            · have e0 : ((ea : Int) == 0) = false := by simp; omega
              clear he0
              have d0 := bx0 HX.out
              have d1 := bx1 HX.out
              have d2 := bx2 HX.out
              have d3 := bx3 HX.out
              have d4 := bx4 HX.out
              have r2 := bx2 HQQ.out
              have r3 := bx3 HQQ.out
              go_wp2_with fail
              clear e0
              clear d0 d1 d2 d3 d4
              clear r2 r3
              have HC := Lib.hid (stRaw_any L x S birth qi qt A cb b w9 HT.out HAA.out HOK.out HLW.out HBI.out)
              rcases rawO_cases S birth qi qt b with ⟨eg, heg, hne, _⟩ | ⟨k2, rl2, _, hbr2, hbl2, hk2, hz2, hw2, hfr2, heg⟩
              · rw [heg] at HC
                clear heg
                refine HC.out.mono ?_
                rintro e w10 ⟨y1, rfl, _, _, b5⟩
                replace HX := Lib.hid (HX.out.below b5 HX.out.lt)
                replace HQ := Lib.hid (HQ.out.below b5 HQ.out.lt)
                replace HT := Lib.hid (HT.out.bel b5)
                replace HAA := Lib.hid (HAA.out.step b5)
                replace HKY := Lib.hid (HKY.out.step b5)
                replace HB := Lib.hid (HB.out.trans (b5.mono HB.out.size))
                replace HRA := Lib.hid (own_below HRA.out b5)
                replace HYT := Lib.hid (HYT.out.bel b5)
                replace HXT := Lib.hid (HXT.out.below b5 HXT.out.lt)
                replace HQQ := Lib.hid (HQQ.out.below b5 HQQ.out.lt)
                replace HRX := Lib.hid (own_below HRX.out b5)
                replace HRN := Lib.hid (own_below HRN.out b5)
                replace HLW := Lib.hid (Nat.le_trans HLW.out b5.size)
                clear b5 HC
                obtain ⟨w11, hw6, b6, z6, xT, xP⟩ := two_al w10 #[.slice y1.d.ba 0 y1.d.bc, .slice y1.d.wa 0 y1.d.wc, .slice y1.a 0 y1.c, .int .u32 0, .int .u32 0] #[.int .i64 0, .int .u32 0, .int .u32 0, .int .u32 0, .int .u32 0] 29 33
                replace HX := Lib.hid (HX.out.below b6 HX.out.lt)
                replace HQ := Lib.hid (HQ.out.below b6 HQ.out.lt)
                replace HT := Lib.hid (HT.out.bel b6)
                replace HAA := Lib.hid (HAA.out.step b6)
                replace HKY := Lib.hid (HKY.out.step b6)
                replace HB := Lib.hid (HB.out.trans (b6.mono HB.out.size))
                replace HRA := Lib.hid (own_below HRA.out b6)
                replace HYT := Lib.hid (HYT.out.bel b6)
                replace HXT := Lib.hid (HXT.out.below b6 HXT.out.lt)
                replace HQQ := Lib.hid (HQQ.out.below b6 HQQ.out.lt)
                replace HRX := Lib.hid (own_below HRX.out b6)
                replace HRN := Lib.hid (own_below HRN.out b6)
                replace HLW := Lib.hid (Nat.le_trans HLW.out b6.size)
                have e2 : ((eg : Int) != 0) = true := by simp; omega
                have m2 := bx2 xT
                rw [← hw6] at m2
                have HW6 := Lib.hid hw6
                clear b6 z6 xT xP hne hw6
                go_wp2_with fail
                go_ret
                exact ⟨rfl, by have := HB.out; rw [← HW6.out] at this; exact this⟩
              · rw [heg] at HC
                have HU := Lib.hid (putAt_may HM.out hk2 hbl2 hw2)
                have HWR := Lib.hid (wf_putP (k := k2) (birth := birth) (iv := qi) (tag := qt) hk2.2 hbr2.2 HQI.out.1 HQI.out.2 b)
                have HL1 : Hid (lookO (putAt S k2 b) ((k2 : Int), birth, qi, qt, sumOf b) = (b, 0)) := Lib.hid (by
                  rw [lookO_may HU.out (ptr_may hk2 hbr2 qi qt (sumOf b))]
                  exact seenO_put S hbr2.1 qi qt b)
                have HG1 := Lib.hid (give_put HM.out hk2 hbr2 hbl2 hw2 qi qt)
                have HL2 : Hid (lookO (giveAt (putAt S k2 b) k2) ((k2 : Int), birth, qi, qt, sumOf b) = (b, 0)) := Lib.hid (by
                  rw [give_look HU.out (ptr_may hk2 hbr2 qi qt (sumOf b)) hk2]
                  exact HL1.out)
                have HVM := Lib.hid (giveAt_may HU.out hk2)
                have HVK : Hid (mkT (giveAt (putAt S k2 b) k2).2.1 k2 = 2) := Lib.hid (by rw [give_mark HU.out.2.1.1 hk2.2, if_pos rfl])
                have HU1 : Hid ((putAt S k2 b).1 = withD S.1 (k2 : Int) b) := Lib.hid rfl
                have HU2 : Hid ((putAt S k2 b).2.1 = S.2.1.set k2 1) := Lib.hid rfl
                have HU3 : Hid ((putAt S k2 b).2.2.1 = S.2.2.1) := Lib.hid rfl
                have HU4 : Hid ((putAt S k2 b).2.2.2 = S.2.2.2) := Lib.hid rfl
                obtain ⟨V, hV⟩ : ∃ V, giveAt (putAt S k2 b) k2 = V := ⟨_, rfl⟩
                rw [hV] at HG1 HL2 HVM HVK
                obtain ⟨U, hU⟩ : ∃ U, putAt S k2 b = U := ⟨_, rfl⟩
                rw [hU] at HC HU HL1 HG1 HU1 HU2 HU3 HU4
                obtain ⟨sb, hsb⟩ : ∃ n, sumOf b = n := ⟨_, rfl⟩
                rw [hsb] at HC HWR HL1 HG1 HL2
                have HK2 := Lib.hid hk2
                have HF2 := Lib.hid hfr2
                clear heg hV hU hsb hk2 hz2 hbr2 hbl2 hw2 hfr2
                refine HC.out.mono ?_
                rintro e w10 ⟨y1, rfl, hy, _, b5⟩
                replace HX := Lib.hid (HX.out.below b5 HX.out.lt)
                replace HQ := Lib.hid (HQ.out.below b5 HQ.out.lt)
                replace HT := Lib.hid (HT.out.bel b5)
                replace HAA := Lib.hid (HAA.out.step b5)
                replace HKY := Lib.hid (HKY.out.step b5)
                replace HB := Lib.hid (HB.out.trans (b5.mono HB.out.size))
                replace HRA := Lib.hid (own_below HRA.out b5)
                replace HYT := Lib.hid (HYT.out.bel b5)
                replace HXT := Lib.hid (HXT.out.below b5 HXT.out.lt)
                replace HQQ := Lib.hid (HQQ.out.below b5 HQQ.out.lt)
                replace HRX := Lib.hid (own_below HRX.out b5)
                replace HRN := Lib.hid (own_below HRN.out b5)
                replace HLW := Lib.hid (Nat.le_trans HLW.out b5.size)
                have HYU := Lib.hid (hy.any (L := L))
                clear b5 hy HC
                obtain ⟨w11, hw6, b6, z6, xT, xP⟩ := two_al w10 (stC y1 U) #[.int .i64 (k2 : Int), .int .u32 (birth : Int), .int .u32 (qi : Int), .int .u32 (qt : Int), .int .u32 (sb : Int)] 29 33
                replace HX := Lib.hid (HX.out.below b6 HX.out.lt)
                replace HQ := Lib.hid (HQ.out.below b6 HQ.out.lt)
                replace HT := Lib.hid (HT.out.bel b6)
                replace HAA := Lib.hid (HAA.out.step b6)
                replace HKY := Lib.hid (HKY.out.step b6)
                replace HB := Lib.hid (HB.out.trans (b6.mono HB.out.size))
                replace HRA := Lib.hid (own_below HRA.out b6)
                replace HYT := Lib.hid (HYT.out.bel b6)
                replace HXT := Lib.hid (HXT.out.below b6 HXT.out.lt)
                replace HQQ := Lib.hid (HQQ.out.below b6 HQQ.out.lt)
                replace HRX := Lib.hid (own_below HRX.out b6)
                replace HRN := Lib.hid (own_below HRN.out b6)
                replace HYU := Lib.hid (HYU.out.bel b6)
                replace HLW := Lib.hid (Nat.le_trans HLW.out b6.size)
                have HXU := Lib.hid xT
                have HPR := Lib.hid xP
                obtain ⟨g8, hg8⟩ : ∃ g8, w10.heap.size = g8 := ⟨_, rfl⟩
                obtain ⟨g9, hg9⟩ : ∃ g9, g8 + 1 = g9 := ⟨_, rfl⟩
                have d0 := bx0 HXU.out
                have d1 := bx1 HXU.out
                have d2 := bx2 HXU.out
                have d3 := bx3 HXU.out
                have d4 := bx4 HXU.out
                have q0 := bx0 HPR.out
                have q1 := bx1 HPR.out
                have q2 := bx2 HPR.out
                have q3 := bx3 HPR.out
                have q4 := bx4 HPR.out
                simp only [stC] at hw6
                rw [← hw6] at d0 d1 d2 d3 d4 q0 q1 q2 q3 q4
                have HW6 := Lib.hid hw6
                have HG8 := Lib.hid (And.intro hg8 hg9)
                clear b6 z6 xT xP hw6 hg8 hg9
                go_wp2_with fail
                rw [HW6.out]
                rw [HG8.out.1] at HXU HPR
                rw [HG8.out.2] at HPR
                try rw [HG8.out.1]
                try rw [HG8.out.2]
                clear d0 d1 d2 d3 d4 q0 q1 q2 q3 q4 HW6 HG8
                have hc := stLook_any L y1 U ((k2 : Int), birth, qi, qt, sb) w11 HYU.out HU.out.ok HWR.out HLW.out
                rw [HL1.out] at hc
                have HC := Lib.hid hc
                clear hc
                refine HC.out.mono ?_
                rintro e w12 ⟨v1, rfl, hv, b7⟩
                simp only at hv
                obtain ⟨a1, c1, rfl⟩ := own_slice hv
                replace HX := Lib.hid (HX.out.below b7 HX.out.lt)
                replace HQ := Lib.hid (HQ.out.below b7 HQ.out.lt)
                replace HT := Lib.hid (HT.out.bel b7)
                replace HAA := Lib.hid (HAA.out.step b7)
                replace HKY := Lib.hid (HKY.out.step b7)
                replace HB := Lib.hid (HB.out.trans (b7.mono HB.out.size))
                replace HRA := Lib.hid (own_below HRA.out b7)
                replace HYT := Lib.hid (HYT.out.bel b7)
                replace HXT := Lib.hid (HXT.out.below b7 HXT.out.lt)
                replace HQQ := Lib.hid (HQQ.out.below b7 HQQ.out.lt)
                replace HRX := Lib.hid (own_below HRX.out b7)
                replace HRN := Lib.hid (own_below HRN.out b7)
                replace HYU := Lib.hid (HYU.out.bel b7)
                replace HXU := Lib.hid (HXU.out.below b7 HXU.out.lt)
                replace HPR := Lib.hid (HPR.out.below b7 HPR.out.lt)
                replace HLW := Lib.hid (Nat.le_trans HLW.out b7.size)
                have HR1 := Lib.hid hv
                clear b7 hv HC
                have q0 := bx0 HPR.out
                have q1 := bx1 HPR.out
                have q2 := bx2 HPR.out
                have q3 := bx3 HPR.out
                have q4 := bx4 HPR.out
                have r2 := bx2 HQQ.out
                have r3 := bx3 HQQ.out
                have m0 := bx0 HXU.out
                have m1 := bx1 HXU.out
                have m2 := bx2 HXU.out
                have m3 := bx3 HXU.out
                have m4 := bx4 HXU.out
                have d0 := bx0 HX.out
                have d1 := bx1 HX.out
                have d2 := bx2 HX.out
                have d3 := bx3 HX.out
                have d4 := bx4 HX.out
                have V1 := (own_bsl HR1.out).conv
                have V2 := HAA.out.conv
                have e1 : ((strOf b).toList == (strOf b).toList) = true := by simp
                have e2 : ((qi : Int) != qi) = false := by simp
                have e3 : ((qt : Int) != qt) = false := by simp
                obtain ⟨cn, hcn⟩ : ∃ n : Nat, S.2.2.2 = n := ⟨_, rfl⟩
                rw [HU4.out, hcn] at m4
                rw [hcn] at d4
                have e4 : ((cn : Int) != cn) = false := by simp
                have hon := stOne_any L x y1 S U ((k2 : Int), birth, qi, qt, sb) k2 rl2 b w12 HT.out HYU.out HM.out HU.out.2.1 HU.out.1 HU1.out HU2.out HU3.out rfl HK2.out.2 HF2.out
                simp only [stV] at hon
                rw [HU4.out, hcn] at hon
                have HC := Lib.hid hon
                clear hon hcn
                go_wp2_with fail
                clear q0 q1 q2 q3 q4
                clear r2 r3
                clear m0 m1 m2 m3 m4
                clear d0 d1 d2 d3 d4
                clear V1 V2 e1 e2 e3 e4
                refine HC.out.mono ?_
                rintro e wa ⟨rfl, b7⟩
                replace HX := Lib.hid (HX.out.below b7 HX.out.lt)
                replace HQ := Lib.hid (HQ.out.below b7 HQ.out.lt)
                replace HT := Lib.hid (HT.out.bel b7)
                replace HAA := Lib.hid (HAA.out.step b7)
                replace HKY := Lib.hid (HKY.out.step b7)
                replace HB := Lib.hid (HB.out.trans (b7.mono HB.out.size))
                replace HRA := Lib.hid (own_below HRA.out b7)
                replace HYT := Lib.hid (HYT.out.bel b7)
                replace HXT := Lib.hid (HXT.out.below b7 HXT.out.lt)
                replace HQQ := Lib.hid (HQQ.out.below b7 HQQ.out.lt)
                replace HRX := Lib.hid (own_below HRX.out b7)
                replace HRN := Lib.hid (own_below HRN.out b7)
                replace HYU := Lib.hid (HYU.out.bel b7)
                replace HXU := Lib.hid (HXU.out.below b7 HXU.out.lt)
                replace HPR := Lib.hid (HPR.out.below b7 HPR.out.lt)
                replace HR1 := Lib.hid (own_below HR1.out b7)
                replace HLW := Lib.hid (Nat.le_trans HLW.out b7.size)
                clear b7 HC
                have d0 := bx0 HXU.out
                have d1 := bx1 HXU.out
                have d2 := bx2 HXU.out
                have d3 := bx3 HXU.out
                have d4 := bx4 HXU.out
                have q0 := bx0 HPR.out
                have q1 := bx1 HPR.out
                have q2 := bx2 HPR.out
                have q3 := bx3 HPR.out
                have q4 := bx4 HPR.out
                have hc := stGive_any L y1 U ((k2 : Int), birth, qi, qt, sb) wa HYU.out HU.out.ok HWR.out HLW.out
                rw [HG1.out] at hc
                have HC := Lib.hid hc
                clear hc
                go_wp2_with fail
                clear d0 d1 d2 d3 d4
                clear q0 q1 q2 q3 q4
                refine HC.out.mono ?_
                rintro e wb ⟨y2, rfl, hy, _, b7⟩
                replace HX := Lib.hid (HX.out.below b7 HX.out.lt)
                replace HQ := Lib.hid (HQ.out.below b7 HQ.out.lt)
                replace HT := Lib.hid (HT.out.bel b7)
                replace HAA := Lib.hid (HAA.out.step b7)
                replace HKY := Lib.hid (HKY.out.step b7)
                replace HB := Lib.hid (HB.out.trans (b7.mono HB.out.size))
                replace HRA := Lib.hid (own_below HRA.out b7)
                replace HYT := Lib.hid (HYT.out.bel b7)
                replace HXT := Lib.hid (HXT.out.below b7 HXT.out.lt)
                replace HQQ := Lib.hid (HQQ.out.below b7 HQQ.out.lt)
                replace HRX := Lib.hid (own_below HRX.out b7)
                replace HRN := Lib.hid (own_below HRN.out b7)
                replace HYU := Lib.hid (HYU.out.bel b7)
                replace HXU := Lib.hid (HXU.out.below b7 HXU.out.lt)
                replace HPR := Lib.hid (HPR.out.below b7 HPR.out.lt)
                replace HR1 := Lib.hid (own_below HR1.out b7)
                replace HLW := Lib.hid (Nat.le_trans HLW.out b7.size)
                have HYV := Lib.hid (hy.any (L := L))
                clear b7 hy HC
                have HXV := Lib.hid (Blk.new wb 29 (stC y2 V))
                have b8 := (Below.refl wb.heap.size wb).alloc (Nat.le_refl _) (.cells (stC y2 V) 29)
                replace HX := Lib.hid (HX.out.below b8 HX.out.lt)
                replace HQ := Lib.hid (HQ.out.below b8 HQ.out.lt)
                replace HT := Lib.hid (HT.out.bel b8)
                replace HAA := Lib.hid (HAA.out.step b8)
                replace HKY := Lib.hid (HKY.out.step b8)
                replace HB := Lib.hid (HB.out.trans (b8.mono HB.out.size))
                replace HRA := Lib.hid (own_below HRA.out b8)
                replace HYT := Lib.hid (HYT.out.bel b8)
                replace HXT := Lib.hid (HXT.out.below b8 HXT.out.lt)
                replace HQQ := Lib.hid (HQQ.out.below b8 HQQ.out.lt)
                replace HRX := Lib.hid (own_below HRX.out b8)
                replace HRN := Lib.hid (own_below HRN.out b8)
                replace HYU := Lib.hid (HYU.out.bel b8)
                replace HXU := Lib.hid (HXU.out.below b8 HXU.out.lt)
                replace HPR := Lib.hid (HPR.out.below b8 HPR.out.lt)
                replace HR1 := Lib.hid (own_below HR1.out b8)
                replace HYV := Lib.hid (HYV.out.bel b8)
                replace HLW := Lib.hid (Nat.le_trans HLW.out b8.size)
                clear b8
                obtain ⟨wc, hwc⟩ : ∃ X, wb.alloc (.cells (stC y2 V) 29) = X := ⟨_, rfl⟩
                obtain ⟨gv, hgv⟩ : ∃ X, wb.heap.size = X := ⟨_, rfl⟩
                rw [hwc] at HX HQ HT HAA HKY HB HRA HYT HXT HQQ HRX HRN HYU HXU HPR HR1 HYV HXV HLW
                rw [hgv] at HXV
                have d0 := bx0 HXV.out
                have d1 := bx1 HXV.out
                have d2 := bx2 HXV.out
                have d3 := bx3 HXV.out
                have d4 := bx4 HXV.out
                have q0 := bx0 HPR.out
                have q1 := bx1 HPR.out
                have q2 := bx2 HPR.out
                have q3 := bx3 HPR.out
                have q4 := bx4 HPR.out
                simp only [stC] at hwc
                rw [← hwc] at d0 d1 d2 d3 d4 q0 q1 q2 q3 q4
                have HWC := Lib.hid hwc
                have HGV := Lib.hid hgv
                clear hwc hgv
                go_wp2_with fail
                rw [HWC.out]
                try rw [HGV.out]
                clear d0 d1 d2 d3 d4 q0 q1 q2 q3 q4 HWC HGV
                have hc := stLook_any L y2 V ((k2 : Int), birth, qi, qt, sb) wc HYV.out HVM.out.ok HWR.out HLW.out
                rw [HL2.out] at hc
                have HC := Lib.hid hc
                clear hc
                refine HC.out.mono ?_
                rintro e we ⟨v2, rfl, hv, b7⟩
                simp only at hv
                obtain ⟨a2, c2, rfl⟩ := own_slice hv
                replace HX := Lib.hid (HX.out.below b7 HX.out.lt)
                replace HQ := Lib.hid (HQ.out.below b7 HQ.out.lt)
                replace HT := Lib.hid (HT.out.bel b7)
                replace HAA := Lib.hid (HAA.out.step b7)
                replace HKY := Lib.hid (HKY.out.step b7)
                replace HB := Lib.hid (HB.out.trans (b7.mono HB.out.size))
                replace HRA := Lib.hid (own_below HRA.out b7)
                replace HYT := Lib.hid (HYT.out.bel b7)
                replace HXT := Lib.hid (HXT.out.below b7 HXT.out.lt)
                replace HQQ := Lib.hid (HQQ.out.below b7 HQQ.out.lt)
                replace HRX := Lib.hid (own_below HRX.out b7)
                replace HRN := Lib.hid (own_below HRN.out b7)
                replace HYU := Lib.hid (HYU.out.bel b7)
                replace HXU := Lib.hid (HXU.out.below b7 HXU.out.lt)
                replace HPR := Lib.hid (HPR.out.below b7 HPR.out.lt)
                replace HR1 := Lib.hid (own_below HR1.out b7)
                replace HYV := Lib.hid (HYV.out.bel b7)
                replace HXV := Lib.hid (HXV.out.below b7 HXV.out.lt)
                replace HLW := Lib.hid (Nat.le_trans HLW.out b7.size)
                have V1 := (own_bsl hv).conv
                have V2 := HAA.out.conv
                have e1 : ((strOf b).toList == (strOf b).toList) = true := by simp
                obtain ⟨bv, ov, hva, _⟩ := HYV.out.now.2.at_ (by rw [HVM.out.2.1.1]; omega)
                have hsv := HYV.out.now.2
                rw [hva] at hsv
                have t1 := hsv.mk k2 (by rw [HVM.out.2.1.1]; exact HK2.out.2)
                rw [HVK.out] at t1
                have d2 := bx2 HXV.out
                have q0 := bx0 HPR.out
                rw [HVM.out.2.1.1, hva] at d2
                have k0 : (0 : Int) ≤ k2 := by omega
                have k1 : (k2 : Int) < 256 := by have := HK2.out.2; omega
                clear hv b7 HC hsv hva
                go_wp2_with fail
                go_ret
                exact ⟨rfl, HB.out⟩
        · have HC := Lib.hid (stCheck_any L x S w2 HT.out HOK.out HLW.out 8 ⟨fun k => absurd k hm, fun _ => rfl⟩)
          have d0 := bx0 HX.out
          have d1 := bx1 HX.out
          have d2 := bx2 HX.out
          have d3 := bx3 HX.out
          have d4 := bx4 HX.out
          clear hm
          go_wp2_with fail
          clear d0 d1 d2 d3 d4
          refine HC.out.mono ?_
          rintro e w3 ⟨rfl, b3⟩
          replace HX := Lib.hid (HX.out.below b3 HX.out.lt)
          replace HQ := Lib.hid (HQ.out.below b3 HQ.out.lt)
          replace HT := Lib.hid (HT.out.bel b3)
          replace HAA := Lib.hid (HAA.out.step b3)
          replace HKY := Lib.hid (HKY.out.step b3)
          replace HB := Lib.hid (HB.out.trans (b3.mono HB.out.size))
          replace HLW := Lib.hid (Nat.le_trans HLW.out b3.size)
          clear b3 HC
          go_wp2_with fail
          go_ret
          exact ⟨rfl, HB.out⟩
theorem storeBack_walk (x : SAt) (S : StL) (bi : Int) (B : Option Addr) (lk ck : Nat) (key : List UInt8) (A : Option Addr) (lb cb : Nat) (b : List UInt8) (p : Pt) (w : World) (h : Str w w.heap.size x S) (hnear : Near S.1) (hwf : WfS S) (hbi : (Lit.int .u32 bi).wf = true) (hK : Bsl w w.heap.size B lk ck key) (hA : Bsl w w.heap.size A lb cb b) (hwp : WfP p) :
    Calls Tryz.prog 5 #[stV x S, .int .u32 bi, .slice B lk ck, .slice A lb cb, ptV p] w fun e w' => e = .returned (.bool true) ∧ Below w.heap.size w w' := by
  obtain ⟨m, rfl, hm⟩ := u32_wf hbi
  obtain rfl := hK.1
  obtain rfl := hA.1
  exact storeBack_at x S m B ck key A cb b p w h hnear hwf hm hK hA hwp
end Go.Proofs.YtdpmdlibgabjaaaGreat
namespace Go.Proofs.YtdpmdlibgabjaaaGreat.storeBack
open Go.ChangeShapes Go.WideShapes Go.ChangeAt Go.RowKit
set_option linter.unusedVariables false

theorem own : ownKnob Tryz.prog.godebug = none := by kernel_rfl
theorem laidOut : laidOutB Tryz.prog = true := by kernel_rfl

set_option maxRecDepth 100000 in
theorem lifted (os : Os) (started : os.Started) (H : Type) (enc : TypeId × Value → H) :
    ReturnsInHanded {} Tryz.checked os 5 .any (Rows.storeBackSpec.pre6 enc Tryz.prog Tryz.f5 Rows.storeBackRow.domain false) (Rows.storeBackSpec.post enc Tryz.prog Tryz.f5 false true false false) := by
  refine returnsInHanded_of_change_sized (C := Tryz.checked) own started (by kernel_rfl) Tryz.func5
    (ChangeSpec.witness6 (enc := enc) (C := Tryz.checked) false ⟨#[], #[.agg #[.slice none 0 0, .slice none 0 0, .slice none 0 0, .int .u32 0, .int .u32 0], .int .u32 0, .slice none 0 0, .slice none 0 0, .agg #[.int .i64 0, .int .u32 0, .int .u32 0, .int .u32 0, .int .u32 0]], []⟩ 8 (by kernel_rfl) (by kernel_rfl) (by kernel_rfl) (by kernel_rfl)) ?_
  intro W base args ds gs before hval0 hW hcnd hsz _
  have hval : ∀ (j : Nat) t v, Tryz.f5.params[j]? = some t → args[j]? = some v → Value.okWide Tryz.prog W .any base t v := hval0
  have hW' := hW
  obtain ⟨p, q, hA0, hV, rfl, hfz, hnd⟩ := hW
  have hA : DataW.TrodAll enc Tryz.prog W 0 (fun _ => true) true Tryz.f5.params.toList args.toList ds p := hA0
  rw [Tryz.params5] at hA hval
  obtain ⟨v0, vs0, d0, ds0, p0, q0, hargs, rfl, rfl, h0, r0⟩ := trodAll_cons hA
  obtain ⟨v1, vs1, d1, ds1, p1, q1, rfl, rfl, rfl, h1, r1⟩ := trodAll_cons r0
  obtain ⟨v2, vs2, d2, ds2, p2, q2, rfl, rfl, rfl, h2, r2⟩ := trodAll_cons r1
  obtain ⟨v3, vs3, d3, ds3, p3, q3, rfl, rfl, rfl, h3, r3⟩ := trodAll_cons r2
  obtain ⟨v4, vs4, d4, ds4, p4, q4, rfl, rfl, rfl, h4, r4⟩ := trodAll_cons r3
  obtain ⟨rfl, rfl, rfl⟩ := trodAll_nil r4
  obtain rfl : args = #[v0, v1, v2, v3, v4] := by cases args; simp_all
  obtain ⟨rfl, rfl⟩ := trodVars_none hV
  have k0 := h0
  have lt0 : ∀ x ∈ p0, x.block < W.heap.size := by obtain ⟨m, hm⟩ := k0; exact DataW.trod_lt m _ _ _ hm
  obtain ⟨x0, S0, rfl, w0, m0, f0⟩ := open_store (hval 0 29 v0 rfl rfl) h0 (fun n hn => by
    have := List.all_eq_true.1 hsz n (DataW.weights_mem_each (j := 0) (t := 29) (by kernel_rfl) rfl n hn)
    simpa using this)
  obtain ⟨a1, rfl, rfl, rfl, w1⟩ := open_int Tryz.underlying27 (hval 1 27 v1 rfl rfl) h1
  obtain ⟨a2, len2, cap2, rfl⟩ := okWide_slice Tryz.underlying26 (hval 2 26 v2 rfl rfl)
  have k2 := h2
  have lt2 : ∀ x ∈ p2, x.block < W.heap.size := by obtain ⟨m, hm⟩ := k2; exact DataW.trod_lt m _ _ _ hm
  obtain ⟨z2, w2⟩ : ∃ zs, IsRow .u8 W a2 len2 cap2 zs := by
    obtain ⟨fuel, hf⟩ := h2
    rcases open_ints Tryz.underlying26 Tryz.underlying5 (by kernel_rfl) hf with ⟨hcs, _⟩ | ⟨x, l, c, zs, hcs, _, hl, hm, hz, _, hcell, hwz⟩
    · simp [Value.cells] at hcs
      obtain ⟨rfl, rfl, rfl⟩ := hcs
      exact ⟨[], .inl ⟨rfl, rfl, rfl, rfl⟩⟩
    · simp [Value.cells] at hcs
      obtain ⟨rfl, rfl, rfl⟩ := hcs
      exact ⟨zs, .inr ⟨_, rfl, hl, hm, by simpa using hz, hcell, hwz⟩⟩
  obtain ⟨a3, len3, cap3, rfl⟩ := okWide_slice Tryz.underlying26 (hval 3 26 v3 rfl rfl)
  have k3 := h3
  have lt3 : ∀ x ∈ p3, x.block < W.heap.size := by obtain ⟨m, hm⟩ := k3; exact DataW.trod_lt m _ _ _ hm
  obtain ⟨z3, w3⟩ : ∃ zs, IsRow .u8 W a3 len3 cap3 zs := by
    obtain ⟨fuel, hf⟩ := h3
    rcases open_ints Tryz.underlying26 Tryz.underlying5 (by kernel_rfl) hf with ⟨hcs, _⟩ | ⟨x, l, c, zs, hcs, _, hl, hm, hz, _, hcell, hwz⟩
    · simp [Value.cells] at hcs
      obtain ⟨rfl, rfl, rfl⟩ := hcs
      exact ⟨[], .inl ⟨rfl, rfl, rfl, rfl⟩⟩
    · simp [Value.cells] at hcs
      obtain ⟨rfl, rfl, rfl⟩ := hcs
      exact ⟨zs, .inr ⟨_, rfl, hl, hm, by simpa using hz, hcell, hwz⟩⟩
  have k4 := h4
  have lt4 : ∀ x ∈ p4, x.block < W.heap.size := by obtain ⟨m, hm⟩ := k4; exact DataW.trod_lt m _ _ _ hm
  obtain ⟨z4, rfl, w4⟩ := open_ptr (hval 4 33 v4 rfl rfl) h4
  clear hA0 hval0
  refine (storeBack_walk x0 S0 a1 a2 len2 cap2 _ a3 len3 cap3 _ z4 W w0 m0 f0 w1 (bsl_of_row w2) (bsl_of_row w3) w4).mono fun e W' ⟨he, bel⟩ => ?_
  subst he
  exact ⟨_, rfl, _, _, _, [], _, [], hW', trodAll_mk1 (shut_bool Tryz.underlying4 _), (trodAll_cons_mk (Below.trod laidOut (by kernel_rfl) (of_decide_eq_true (by kernel_rfl)) k0 bel lt0) (trodAll_cons_mk (shut_int Tryz.underlying27 w1) (trodAll_cons_mk (Below.trod laidOut (by kernel_rfl) (of_decide_eq_true (by kernel_rfl)) k2 bel lt2) (trodAll_cons_mk (Below.trod laidOut (by kernel_rfl) (of_decide_eq_true (by kernel_rfl)) k3 bel lt3) (trodAll_cons_mk (Below.trod laidOut (by kernel_rfl) (of_decide_eq_true (by kernel_rfl)) k4 bel lt4) trodAll_mk0))))), rfl, bel.frame _, fun h => by cases h⟩

theorem over : Rows.storeBackRow.holds Tryz.pinned (OpenSpec.ofChange Rows.storeBackSpec) :=
  OpenClaim.holds_of_wide 5 Tryz.f5 rfl rfl rfl rfl rfl rfl rfl ⟨rfl, rfl, rfl, rfl, rfl⟩ rfl rfl rfl rfl rfl (by kernel_rfl) Tryz.func5 (by kernel_rfl)
    (of_decide_eq_true (by kernel_rfl)) (by unfold Func.isWrapper; first | (rw [if_pos (by decide +kernel)]; kernel_rfl) | (rw [if_neg (by decide +kernel)]; exact ⟨rfl, rfl⟩))
    (fun os started H enc _ => lifted os started H enc)

/-- The statement. -/
theorem proved : Rows.StoreBackSaid := over
end Go.Proofs.YtdpmdlibgabjaaaGreat.storeBack
