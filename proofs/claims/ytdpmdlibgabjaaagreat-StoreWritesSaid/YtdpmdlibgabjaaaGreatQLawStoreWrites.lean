/-
  StoreWritesSaid: for any store, birth, key, bytes, number and tag (where they are great the law itself answers true) blocks are laid, sealed and laid raw as the document's own do it; what was handed in stays where what was answered is turned. No condition.
-/
import Derived.Test.YtdpmdlibgabjaaaGreatRows
import Derived.Test.YtdpmdlibgabjaaaGreatPkSZ6
namespace Go.Proofs.YtdpmdlibgabjaaaGreat
open Go.RowKit Go.Shelf
set_option maxRecDepth 100000

set_option maxHeartbeats 32000000 in
theorem storeWrites_at (x : SAt) (S : StL) (birth : Nat) (B : Option Addr) (ck : Nat) (key : List UInt8) (A : Option Addr) (cb : Nat) (b : List UInt8) (iv tag : Nat) (w : World) (h : Str w w.heap.size x S) (hnear : Near S.1) (hwf : WfS S) (hbi : birth < 4294967296) (hK : Bsl w w.heap.size B key.length ck key) (hA : Bsl w w.heap.size A b.length cb b) :
    Calls Tryz.prog 3 #[stV x S, .int .u32 birth, .slice B key.length ck, .slice A b.length cb, .int .u32 iv, .int .u32 tag] w fun e w' => e = .returned (.bool true) ∧ Below w.heap.size w w' := by
  have h1 := h.lasts (Nat.le_refl _)
  have HST := Lib.hid h
  have HA0 := Lib.hid hA
  have HK0 := Lib.hid hK
  have la9 := hA.len_le
  have lk9 := hK.len_le
  have la0 : (0 : Int) ≤ b.length := by omega
  have lk0 : (0 : Int) ≤ key.length := by omega
  obtain ⟨L, hL⟩ : ∃ L, w.heap.size = L := ⟨_, rfl⟩
  rw [hL] at h1
  obtain ⟨w0, hw0⟩ : ∃ w0, w.alloc (.cells (stC x S) 29) = w0 := ⟨_, rfl⟩
  have b0 : Below w.heap.size w w0 := by rw [← hw0]; exact (Below.refl _ w).alloc (Nat.le_refl _) _
  have HX := Lib.hid (show Blk w0 w.heap.size 29 (stC x S) by rw [← hw0]; exact Blk.new w _ _)
  have HT := Lib.hid (h1.bel b0)
  have HLW := Lib.hid (show L ≤ w0.heap.size by rw [← hL]; exact b0.size)
  have HB := Lib.hid b0
  have HN := Lib.hid hnear
  have HWF := Lib.hid hwf
  have HBI := Lib.hid hbi
  have HAA := Lib.hid (hA.step b0)
  have HKY := Lib.hid (hK.step b0)
  obtain ⟨g, hg⟩ : ∃ g, w.heap.size = g := ⟨_, rfl⟩
  rw [hg] at HX
  simp only [stC] at hw0
  clear h h1 hL b0 hnear hwf hbi hA hK
  have HD := fun W (k : StP L W x S) => rtGreat_any L x S W k HN.out
  have HGR := Lib.hid (HD w0 HT.out)
  clear HD
  have d0 := bx0 HX.out
  have d1 := bx1 HX.out
  have d2 := bx2 HX.out
  have d3 := bx3 HX.out
  have d4 := bx4 HX.out
  go_enter Tryz.func3, Tryz.ntmps3
  go_wp2_with fail
  try rw [hw0]
  try rw [hg]
  clear hw0 hg
  clear d0 d1 d2 d3 d4
  refine HGR.out.mono ?_
  rintro e w2 ⟨gr, rfl, hsm, b2⟩
  replace HX := Lib.hid (HX.out.below b2 HX.out.lt)
  replace HT := Lib.hid (HT.out.bel b2)
  replace HAA := Lib.hid (HAA.out.step b2)
  replace HKY := Lib.hid (HKY.out.step b2)
  replace HB := Lib.hid (HB.out.trans (b2.mono HB.out.size))
  replace HLW := Lib.hid (Nat.le_trans HLW.out b2.size)
  clear b2 HGR
  cases gr with
  | true =>
    go_wp2_with fail
    go_ret
    exact ⟨rfl, HB.out⟩
  | false =>
    have HOK := Lib.hid (show OkS S from ⟨small_fits (hsm rfl).1, by have := (hsm rfl).2; omega, HWF.out⟩)
    have HSM := Lib.hid (hsm rfl)
    clear hsm
    by_cases h1 : (10000 : Int) < key.length
    · go_wp2_with fail
      go_ret
      exact ⟨rfl, HB.out⟩
    · by_cases h2 : (10000 : Int) < b.length
      · go_wp2_with fail
        go_ret
        exact ⟨rfl, HB.out⟩
      · have HTW := Lib.hid (rtTwin_any L x S w2 HT.out HOK.out.1 (by have := HSM.out.2; omega) HLW.out)
        have HBL := Lib.hid (show b.length ≤ 10000 by omega)
        have HKL := Lib.hid (show key.length ≤ 10000 by omega)
        have d0 := bx0 HX.out
        have d1 := bx1 HX.out
        have d2 := bx2 HX.out
        have d3 := bx3 HX.out
        have d4 := bx4 HX.out
        go_wp2_with fail
        clear d0 d1 d2 d3 d4
        clear h1 h2
        refine HTW.out.mono ?_
        rintro e w3 ⟨y, rfl, hy, b3⟩
        replace HX := Lib.hid (HX.out.below b3 HX.out.lt)
        replace HT := Lib.hid (HT.out.bel b3)
        replace HAA := Lib.hid (HAA.out.step b3)
        replace HKY := Lib.hid (HKY.out.step b3)
        replace HB := Lib.hid (HB.out.trans (b3.mono HB.out.size))
        replace HLW := Lib.hid (Nat.le_trans HLW.out b3.size)
        have HY := Lib.hid hy
        clear b3 hy HTW
        have H5 := Lib.hid (Blk.new w3 29 (stC y S))
        have b4 := (Below.refl w3.heap.size w3).alloc (Nat.le_refl _) (.cells (stC y S) 29)
        replace HX := Lib.hid (HX.out.below b4 HX.out.lt)
        replace HT := Lib.hid (HT.out.bel b4)
        replace HAA := Lib.hid (HAA.out.step b4)
        replace HKY := Lib.hid (HKY.out.step b4)
        replace HB := Lib.hid (HB.out.trans (b4.mono HB.out.size))
        replace HY := Lib.hid (HY.out.bel b4)
        replace HLW := Lib.hid (Nat.le_trans HLW.out b4.size)
        clear b4
        have tok1 : True := trivial
        have tok2 : True := trivial
        go_wp2_with (first
          | (at_builtin
             have _t := tok1
             clear _t tok1
             obtain ⟨w4, hw4⟩ : ∃ X, w3.alloc (.cells (stC y S) 29) = X := ⟨_, rfl⟩
             obtain ⟨g5, hg5⟩ : ∃ X, w3.heap.size = X := ⟨_, rfl⟩
             rw [hw4] at HX HT HAA HKY HB HY H5 HLW
             rw [hg5] at H5
             simp only [stC] at hw4
             rw [hw4]
             try rw [hg5]
             have HO0 := Lib.hid (own_nil w4 w4.heap.size)
             have HRF := Lib.hid (Below.refl w4.heap.size w4)
             refine wpList_append_bsl rfl (.const (.slice none 0 0)) (.tmp 48) rfl w4.heap.size _ 0 _ rfl HO0.out _ A b.length cb b rfl HAA.out (by have := HBL.out; omega) HRF.out.size ?_
             intro v5 w5 ho5 hg6
             rw [Nat.zero_add, List.nil_append] at ho5
             have b5 := app_below HRF.out HO0.out hg6 HRF.out.size
             obtain ⟨am, cm, rfl⟩ := own_slice ho5
             replace HX := Lib.hid (HX.out.below b5 HX.out.lt)
             replace HT := Lib.hid (HT.out.bel b5)
             replace HAA := Lib.hid (HAA.out.step b5)
             replace HKY := Lib.hid (HKY.out.step b5)
             replace HB := Lib.hid (HB.out.trans (b5.mono HB.out.size))
             replace HY := Lib.hid (HY.out.bel b5)
             replace H5 := Lib.hid (H5.out.below b5 H5.out.lt)
             replace HLW := Lib.hid (Nat.le_trans HLW.out b5.size)
             have HM := Lib.hid (own_bsl ho5)
             clear b5 ho5 hg6 HO0 HRF hw4 hg5)
          | (at_builtin
             have _t := tok2
             clear _t tok2
             have HO0 := Lib.hid (own_nil w5 w5.heap.size)
             have HRF := Lib.hid (Below.refl w5.heap.size w5)
             refine wpList_append_bsl rfl (.const (.slice none 0 0)) (.tmp 50) rfl w5.heap.size _ 0 _ rfl HO0.out _ B key.length ck key rfl HKY.out (by have := HKL.out; omega) HRF.out.size ?_
             intro v6 w6 ho6 hg6
             rw [Nat.zero_add, List.nil_append] at ho6
             have b6 := app_below HRF.out HO0.out hg6 HRF.out.size
             obtain ⟨al, cl, rfl⟩ := own_slice ho6
             replace HX := Lib.hid (HX.out.below b6 HX.out.lt)
             replace HT := Lib.hid (HT.out.bel b6)
             replace HAA := Lib.hid (HAA.out.step b6)
             replace HKY := Lib.hid (HKY.out.step b6)
             replace HB := Lib.hid (HB.out.trans (b6.mono HB.out.size))
             replace HY := Lib.hid (HY.out.bel b6)
             replace H5 := Lib.hid (H5.out.below b6 H5.out.lt)
             replace HM := Lib.hid (HM.out.step b6)
             replace HLW := Lib.hid (Nat.le_trans HLW.out b6.size)
             have HLK := Lib.hid (own_bsl ho6)
             clear b6 ho6 hg6 HO0 HRF
             have m0 := bx0 H5.out
             have m1 := bx1 H5.out
             have m2 := bx2 H5.out
             have m3 := bx3 H5.out
             have m4 := bx4 H5.out))
        clear m0 m1 m2 m3 m4
        have HK := Lib.hid (Below.refl w6.heap.size w6)
        have HOWN := Lib.hid HY.out.now
        have HBK := Lib.hid HB.out.size
        have HM0 := Lib.hid HM.out
        have HL0 := Lib.hid HLK.out
        obtain ⟨⟨T1, ⟨p1a, p1b, p1i, p1t, p1s⟩, e1⟩, ho1⟩ : ∃ o, rawO S birth 0 0 b = o := ⟨_, rfl⟩
        have hs1 := raw_small S birth 0 0 b
        rw [ho1] at hs1
        have HO1 := Lib.hid ho1
        have HS1 := Lib.hid hs1
        clear ho1 hs1
        obtain ⟨⟨T2, ⟨p2a, p2b, p2i, p2t, p2s⟩, e2⟩, ho2⟩ : ∃ o, sealO S birth key b = o := ⟨_, rfl⟩
        have hs2 := seal_small S birth key b
        rw [ho2] at hs2
        have HO2 := Lib.hid ho2
        have HS2 := Lib.hid hs2
        clear ho2 hs2
        obtain ⟨⟨T3, ⟨p3a, p3b, p3i, p3t, p3s⟩, e3⟩, ho3⟩ : ∃ o, rawO S birth iv tag b = o := ⟨_, rfl⟩
        have hs3 := raw_small S birth iv tag b
        rw [ho3] at hs3
        have HO3 := Lib.hid ho3
        have HS3 := Lib.hid hs3
        clear ho3 hs3
        have hc := stLay_any 0 y S birth am cm b w6 HY.out HM.out HOK.out (Nat.zero_le _) HBI.out
        rw [HO1.out] at hc
        have HC := Lib.hid hc
        have HKZ := Lib.hid HK.out.size
        clear hc
        refine HC.out.mono ?_
        rintro e w7 ⟨y0, rfl, hy, hh, b7⟩
        replace HX := Lib.hid (HX.out.below b7 HX.out.lt)
        replace HT := Lib.hid (HT.out.bel b7)
        replace HAA := Lib.hid (HAA.out.step b7)
        replace HKY := Lib.hid (HKY.out.step b7)
        replace HB := Lib.hid (HB.out.trans (b7.mono HB.out.size))
        replace HY := Lib.hid (HY.out.bel b7)
        replace H5 := Lib.hid (H5.out.below b7 H5.out.lt)
        replace HM := Lib.hid (HM.out.step b7)
        replace HLK := Lib.hid (HLK.out.step b7)
        replace HK := Lib.hid (HK.out.trans (b7.mono HK.out.size))
        replace HLW := Lib.hid (Nat.le_trans HLW.out b7.size)
        have HY0 := Lib.hid (hy.any (L := L))
        have HH0 := Lib.hid (hh.lower HKZ.out)
        clear b7 HC hy hh
        obtain ⟨w8, hw8, b8, z8, xT, xP⟩ := two_al w7 (stC y0 T1) #[.int .i64 p1a, .int .u32 (p1b : Int), .int .u32 (p1i : Int), .int .u32 (p1t : Int), .int .u32 (p1s : Int)] 29 33
        replace HX := Lib.hid (HX.out.below b8 HX.out.lt)
        replace HT := Lib.hid (HT.out.bel b8)
        replace HAA := Lib.hid (HAA.out.step b8)
        replace HKY := Lib.hid (HKY.out.step b8)
        replace HB := Lib.hid (HB.out.trans (b8.mono HB.out.size))
        replace HY := Lib.hid (HY.out.bel b8)
        replace H5 := Lib.hid (H5.out.below b8 H5.out.lt)
        replace HM := Lib.hid (HM.out.step b8)
        replace HLK := Lib.hid (HLK.out.step b8)
        replace HK := Lib.hid (HK.out.trans (b8.mono HK.out.size))
        replace HY0 := Lib.hid (HY0.out.bel b8)
        replace HH0 := Lib.hid (HH0.out.keeps (Keeps.of_below (L := 0) b8))
        replace HLW := Lib.hid (Nat.le_trans HLW.out b8.size)
        have HX0 := Lib.hid xT
        have HP0 := Lib.hid xP
        obtain ⟨g8, hg8⟩ : ∃ g8, w7.heap.size = g8 := ⟨_, rfl⟩
        obtain ⟨g9, hg9⟩ : ∃ g9, g8 + 1 = g9 := ⟨_, rfl⟩
        have d0 := bx0 HX.out
        have d1 := bx1 HX.out
        have d2 := bx2 HX.out
        have d3 := bx3 HX.out
        have d4 := bx4 HX.out
        simp only [stC] at hw8
        rw [← hw8] at d0 d1 d2 d3 d4
        have HW8 := Lib.hid hw8
        have HG8 := Lib.hid (And.intro hg8 hg9)
        clear b8 z8 xT xP hw8 hg8 hg9
        go_wp2_with fail
        rw [HW8.out]
        rw [HG8.out.1] at HX0 HP0
        rw [HG8.out.2] at HP0
        try rw [HG8.out.1]
        try rw [HG8.out.2]
        clear d0 d1 d2 d3 d4 HW8 HG8
        have hc := rtLay_any L x S birth A cb b w8 HT.out HAA.out HLW.out HBI.out
        rw [HO1.out] at hc
        have HC := Lib.hid hc
        have HKZ := Lib.hid HK.out.size
        clear hc
        refine HC.out.mono ?_
        rintro e w9 ⟨y1, rfl, hy, b7⟩
        replace HX := Lib.hid (HX.out.below b7 HX.out.lt)
        replace HT := Lib.hid (HT.out.bel b7)
        replace HAA := Lib.hid (HAA.out.step b7)
        replace HKY := Lib.hid (HKY.out.step b7)
        replace HB := Lib.hid (HB.out.trans (b7.mono HB.out.size))
        replace HY := Lib.hid (HY.out.bel b7)
        replace H5 := Lib.hid (H5.out.below b7 H5.out.lt)
        replace HM := Lib.hid (HM.out.step b7)
        replace HLK := Lib.hid (HLK.out.step b7)
        replace HK := Lib.hid (HK.out.trans (b7.mono HK.out.size))
        replace HY0 := Lib.hid (HY0.out.bel b7)
        replace HX0 := Lib.hid (HX0.out.below b7 HX0.out.lt)
        replace HP0 := Lib.hid (HP0.out.below b7 HP0.out.lt)
        replace HH0 := Lib.hid (HH0.out.keeps (Keeps.of_below (L := 0) b7))
        replace HLW := Lib.hid (Nat.le_trans HLW.out b7.size)
        have HY1 := Lib.hid (hy)
        clear b7 HC hy
        obtain ⟨w10, hw8, b8, z8, xT, xP⟩ := two_al w9 (stC y1 T1) #[.int .i64 p1a, .int .u32 (p1b : Int), .int .u32 (p1i : Int), .int .u32 (p1t : Int), .int .u32 (p1s : Int)] 29 33
        replace HX := Lib.hid (HX.out.below b8 HX.out.lt)
        replace HT := Lib.hid (HT.out.bel b8)
        replace HAA := Lib.hid (HAA.out.step b8)
        replace HKY := Lib.hid (HKY.out.step b8)
        replace HB := Lib.hid (HB.out.trans (b8.mono HB.out.size))
        replace HY := Lib.hid (HY.out.bel b8)
        replace H5 := Lib.hid (H5.out.below b8 H5.out.lt)
        replace HM := Lib.hid (HM.out.step b8)
        replace HLK := Lib.hid (HLK.out.step b8)
        replace HK := Lib.hid (HK.out.trans (b8.mono HK.out.size))
        replace HY0 := Lib.hid (HY0.out.bel b8)
        replace HX0 := Lib.hid (HX0.out.below b8 HX0.out.lt)
        replace HP0 := Lib.hid (HP0.out.below b8 HP0.out.lt)
        replace HY1 := Lib.hid (HY1.out.bel b8)
        replace HH0 := Lib.hid (HH0.out.keeps (Keeps.of_below (L := 0) b8))
        replace HLW := Lib.hid (Nat.le_trans HLW.out b8.size)
        have HX1 := Lib.hid xT
        have HP1 := Lib.hid xP
        obtain ⟨g8, hg8⟩ : ∃ g8, w9.heap.size = g8 := ⟨_, rfl⟩
        obtain ⟨g9, hg9⟩ : ∃ g9, g8 + 1 = g9 := ⟨_, rfl⟩
        have d0 := bx0 H5.out
        have d1 := bx1 H5.out
        have d2 := bx2 H5.out
        have d3 := bx3 H5.out
        have d4 := bx4 H5.out
        simp only [stC] at hw8
        rw [← hw8] at d0 d1 d2 d3 d4
        have HW8 := Lib.hid hw8
        have HG8 := Lib.hid (And.intro hg8 hg9)
        clear b8 z8 xT xP hw8 hg8 hg9
        go_wp2_with fail
        rw [HW8.out]
        rw [HG8.out.1] at HX1 HP1
        rw [HG8.out.2] at HP1
        try rw [HG8.out.1]
        try rw [HG8.out.2]
        clear d0 d1 d2 d3 d4 HW8 HG8
        have hc := stSeal_any 0 y S birth al cl key am cm b w10 HY.out HLK.out HM.out HOK.out (Nat.zero_le _) HBI.out
        rw [HO2.out] at hc
        have HC := Lib.hid hc
        have HKZ := Lib.hid HK.out.size
        clear hc
        refine HC.out.mono ?_
        rintro e w11 ⟨y2, rfl, hy, hh, b7⟩
        replace HX := Lib.hid (HX.out.below b7 HX.out.lt)
        replace HT := Lib.hid (HT.out.bel b7)
        replace HAA := Lib.hid (HAA.out.step b7)
        replace HKY := Lib.hid (HKY.out.step b7)
        replace HB := Lib.hid (HB.out.trans (b7.mono HB.out.size))
        replace HY := Lib.hid (HY.out.bel b7)
        replace H5 := Lib.hid (H5.out.below b7 H5.out.lt)
        replace HM := Lib.hid (HM.out.step b7)
        replace HLK := Lib.hid (HLK.out.step b7)
        replace HK := Lib.hid (HK.out.trans (b7.mono HK.out.size))
        replace HY0 := Lib.hid (HY0.out.bel b7)
        replace HX0 := Lib.hid (HX0.out.below b7 HX0.out.lt)
        replace HP0 := Lib.hid (HP0.out.below b7 HP0.out.lt)
        replace HY1 := Lib.hid (HY1.out.bel b7)
        replace HX1 := Lib.hid (HX1.out.below b7 HX1.out.lt)
        replace HP1 := Lib.hid (HP1.out.below b7 HP1.out.lt)
        replace HH0 := Lib.hid (HH0.out.keeps (Keeps.of_below (L := 0) b7))
        replace HLW := Lib.hid (Nat.le_trans HLW.out b7.size)
        have HY2 := Lib.hid (hy.any (L := L))
        have HH2 := Lib.hid (hh.lower HKZ.out)
        clear b7 HC hy hh
        obtain ⟨w12, hw8, b8, z8, xT, xP⟩ := two_al w11 (stC y2 T2) #[.int .i64 p2a, .int .u32 (p2b : Int), .int .u32 (p2i : Int), .int .u32 (p2t : Int), .int .u32 (p2s : Int)] 29 33
        replace HX := Lib.hid (HX.out.below b8 HX.out.lt)
        replace HT := Lib.hid (HT.out.bel b8)
        replace HAA := Lib.hid (HAA.out.step b8)
        replace HKY := Lib.hid (HKY.out.step b8)
        replace HB := Lib.hid (HB.out.trans (b8.mono HB.out.size))
        replace HY := Lib.hid (HY.out.bel b8)
        replace H5 := Lib.hid (H5.out.below b8 H5.out.lt)
        replace HM := Lib.hid (HM.out.step b8)
        replace HLK := Lib.hid (HLK.out.step b8)
        replace HK := Lib.hid (HK.out.trans (b8.mono HK.out.size))
        replace HY0 := Lib.hid (HY0.out.bel b8)
        replace HX0 := Lib.hid (HX0.out.below b8 HX0.out.lt)
        replace HP0 := Lib.hid (HP0.out.below b8 HP0.out.lt)
        replace HY1 := Lib.hid (HY1.out.bel b8)
        replace HX1 := Lib.hid (HX1.out.below b8 HX1.out.lt)
        replace HP1 := Lib.hid (HP1.out.below b8 HP1.out.lt)
        replace HY2 := Lib.hid (HY2.out.bel b8)
        replace HH0 := Lib.hid (HH0.out.keeps (Keeps.of_below (L := 0) b8))
        replace HH2 := Lib.hid (HH2.out.keeps (Keeps.of_below (L := 0) b8))
        replace HLW := Lib.hid (Nat.le_trans HLW.out b8.size)
        have HX2 := Lib.hid xT
        have HP2 := Lib.hid xP
        obtain ⟨g8, hg8⟩ : ∃ g8, w11.heap.size = g8 := ⟨_, rfl⟩
        obtain ⟨g9, hg9⟩ : ∃ g9, g8 + 1 = g9 := ⟨_, rfl⟩
        have d0 := bx0 HX.out
        have d1 := bx1 HX.out
        have d2 := bx2 HX.out
        have d3 := bx3 HX.out
        have d4 := bx4 HX.out
        simp only [stC] at hw8
        rw [← hw8] at d0 d1 d2 d3 d4
        have HW8 := Lib.hid hw8
        have HG8 := Lib.hid (And.intro hg8 hg9)
        clear b8 z8 xT xP hw8 hg8 hg9
        go_wp2_with fail
        rw [HW8.out]
        rw [HG8.out.1] at HX2 HP2
        rw [HG8.out.2] at HP2
        try rw [HG8.out.1]
        try rw [HG8.out.2]
        clear d0 d1 d2 d3 d4 HW8 HG8
        have hc := rtSeal_any L x S birth B ck key A cb b w12 HT.out HKY.out HAA.out HLW.out
        rw [HO2.out] at hc
        have HC := Lib.hid hc
        have HKZ := Lib.hid HK.out.size
        clear hc
        refine HC.out.mono ?_
        rintro e w13 ⟨y3, rfl, hy, b7⟩
        replace HX := Lib.hid (HX.out.below b7 HX.out.lt)
        replace HT := Lib.hid (HT.out.bel b7)
        replace HAA := Lib.hid (HAA.out.step b7)
        replace HKY := Lib.hid (HKY.out.step b7)
        replace HB := Lib.hid (HB.out.trans (b7.mono HB.out.size))
        replace HY := Lib.hid (HY.out.bel b7)
        replace H5 := Lib.hid (H5.out.below b7 H5.out.lt)
        replace HM := Lib.hid (HM.out.step b7)
        replace HLK := Lib.hid (HLK.out.step b7)
        replace HK := Lib.hid (HK.out.trans (b7.mono HK.out.size))
        replace HY0 := Lib.hid (HY0.out.bel b7)
        replace HX0 := Lib.hid (HX0.out.below b7 HX0.out.lt)
        replace HP0 := Lib.hid (HP0.out.below b7 HP0.out.lt)
        replace HY1 := Lib.hid (HY1.out.bel b7)
        replace HX1 := Lib.hid (HX1.out.below b7 HX1.out.lt)
        replace HP1 := Lib.hid (HP1.out.below b7 HP1.out.lt)
        replace HY2 := Lib.hid (HY2.out.bel b7)
        replace HX2 := Lib.hid (HX2.out.below b7 HX2.out.lt)
        replace HP2 := Lib.hid (HP2.out.below b7 HP2.out.lt)
        replace HH0 := Lib.hid (HH0.out.keeps (Keeps.of_below (L := 0) b7))
        replace HH2 := Lib.hid (HH2.out.keeps (Keeps.of_below (L := 0) b7))
        replace HLW := Lib.hid (Nat.le_trans HLW.out b7.size)
        have HY3 := Lib.hid (hy)
        clear b7 HC hy
        obtain ⟨w14, hw8, b8, z8, xT, xP⟩ := two_al w13 (stC y3 T2) #[.int .i64 p2a, .int .u32 (p2b : Int), .int .u32 (p2i : Int), .int .u32 (p2t : Int), .int .u32 (p2s : Int)] 29 33
        replace HX := Lib.hid (HX.out.below b8 HX.out.lt)
        replace HT := Lib.hid (HT.out.bel b8)
        replace HAA := Lib.hid (HAA.out.step b8)
        replace HKY := Lib.hid (HKY.out.step b8)
        replace HB := Lib.hid (HB.out.trans (b8.mono HB.out.size))
        replace HY := Lib.hid (HY.out.bel b8)
        replace H5 := Lib.hid (H5.out.below b8 H5.out.lt)
        replace HM := Lib.hid (HM.out.step b8)
        replace HLK := Lib.hid (HLK.out.step b8)
        replace HK := Lib.hid (HK.out.trans (b8.mono HK.out.size))
        replace HY0 := Lib.hid (HY0.out.bel b8)
        replace HX0 := Lib.hid (HX0.out.below b8 HX0.out.lt)
        replace HP0 := Lib.hid (HP0.out.below b8 HP0.out.lt)
        replace HY1 := Lib.hid (HY1.out.bel b8)
        replace HX1 := Lib.hid (HX1.out.below b8 HX1.out.lt)
        replace HP1 := Lib.hid (HP1.out.below b8 HP1.out.lt)
        replace HY2 := Lib.hid (HY2.out.bel b8)
        replace HX2 := Lib.hid (HX2.out.below b8 HX2.out.lt)
        replace HP2 := Lib.hid (HP2.out.below b8 HP2.out.lt)
        replace HY3 := Lib.hid (HY3.out.bel b8)
        replace HH0 := Lib.hid (HH0.out.keeps (Keeps.of_below (L := 0) b8))
        replace HH2 := Lib.hid (HH2.out.keeps (Keeps.of_below (L := 0) b8))
        replace HLW := Lib.hid (Nat.le_trans HLW.out b8.size)
        have HX3 := Lib.hid xT
        have HP3 := Lib.hid xP
        obtain ⟨g8, hg8⟩ : ∃ g8, w13.heap.size = g8 := ⟨_, rfl⟩
        obtain ⟨g9, hg9⟩ : ∃ g9, g8 + 1 = g9 := ⟨_, rfl⟩
        have d0 := bx0 H5.out
        have d1 := bx1 H5.out
        have d2 := bx2 H5.out
        have d3 := bx3 H5.out
        have d4 := bx4 H5.out
        simp only [stC] at hw8
        rw [← hw8] at d0 d1 d2 d3 d4
        have HW8 := Lib.hid hw8
        have HG8 := Lib.hid (And.intro hg8 hg9)
        clear b8 z8 xT xP hw8 hg8 hg9
        go_wp2_with fail
        rw [HW8.out]
        rw [HG8.out.1] at HX3 HP3
        rw [HG8.out.2] at HP3
        try rw [HG8.out.1]
        try rw [HG8.out.2]
        clear d0 d1 d2 d3 d4 HW8 HG8
        have hc := stRaw_any 0 y S birth iv tag am cm b w14 HY.out HM.out HOK.out (Nat.zero_le _) HBI.out
        rw [HO3.out] at hc
        have HC := Lib.hid hc
        have HKZ := Lib.hid HK.out.size
        clear hc
        refine HC.out.mono ?_
        rintro e w15 ⟨y4, rfl, hy, hh, b7⟩
        replace HX := Lib.hid (HX.out.below b7 HX.out.lt)
        replace HT := Lib.hid (HT.out.bel b7)
        replace HAA := Lib.hid (HAA.out.step b7)
        replace HKY := Lib.hid (HKY.out.step b7)
        replace HB := Lib.hid (HB.out.trans (b7.mono HB.out.size))
        replace HY := Lib.hid (HY.out.bel b7)
        replace H5 := Lib.hid (H5.out.below b7 H5.out.lt)
        replace HM := Lib.hid (HM.out.step b7)
        replace HLK := Lib.hid (HLK.out.step b7)
        replace HK := Lib.hid (HK.out.trans (b7.mono HK.out.size))
        replace HY0 := Lib.hid (HY0.out.bel b7)
        replace HX0 := Lib.hid (HX0.out.below b7 HX0.out.lt)
        replace HP0 := Lib.hid (HP0.out.below b7 HP0.out.lt)
        replace HY1 := Lib.hid (HY1.out.bel b7)
        replace HX1 := Lib.hid (HX1.out.below b7 HX1.out.lt)
        replace HP1 := Lib.hid (HP1.out.below b7 HP1.out.lt)
        replace HY2 := Lib.hid (HY2.out.bel b7)
        replace HX2 := Lib.hid (HX2.out.below b7 HX2.out.lt)
        replace HP2 := Lib.hid (HP2.out.below b7 HP2.out.lt)
        replace HY3 := Lib.hid (HY3.out.bel b7)
        replace HX3 := Lib.hid (HX3.out.below b7 HX3.out.lt)
        replace HP3 := Lib.hid (HP3.out.below b7 HP3.out.lt)
        replace HH0 := Lib.hid (HH0.out.keeps (Keeps.of_below (L := 0) b7))
        replace HH2 := Lib.hid (HH2.out.keeps (Keeps.of_below (L := 0) b7))
        replace HLW := Lib.hid (Nat.le_trans HLW.out b7.size)
        have HY4 := Lib.hid (hy.any (L := L))
        have HH4 := Lib.hid (hh.lower HKZ.out)
        clear b7 HC hy hh
        obtain ⟨w16, hw8, b8, z8, xT, xP⟩ := two_al w15 (stC y4 T3) #[.int .i64 p3a, .int .u32 (p3b : Int), .int .u32 (p3i : Int), .int .u32 (p3t : Int), .int .u32 (p3s : Int)] 29 33
        replace HX := Lib.hid (HX.out.below b8 HX.out.lt)
        replace HT := Lib.hid (HT.out.bel b8)
        replace HAA := Lib.hid (HAA.out.step b8)
        replace HKY := Lib.hid (HKY.out.step b8)
        replace HB := Lib.hid (HB.out.trans (b8.mono HB.out.size))
        replace HY := Lib.hid (HY.out.bel b8)
        replace H5 := Lib.hid (H5.out.below b8 H5.out.lt)
        replace HM := Lib.hid (HM.out.step b8)
        replace HLK := Lib.hid (HLK.out.step b8)
        replace HK := Lib.hid (HK.out.trans (b8.mono HK.out.size))
        replace HY0 := Lib.hid (HY0.out.bel b8)
        replace HX0 := Lib.hid (HX0.out.below b8 HX0.out.lt)
        replace HP0 := Lib.hid (HP0.out.below b8 HP0.out.lt)
        replace HY1 := Lib.hid (HY1.out.bel b8)
        replace HX1 := Lib.hid (HX1.out.below b8 HX1.out.lt)
        replace HP1 := Lib.hid (HP1.out.below b8 HP1.out.lt)
        replace HY2 := Lib.hid (HY2.out.bel b8)
        replace HX2 := Lib.hid (HX2.out.below b8 HX2.out.lt)
        replace HP2 := Lib.hid (HP2.out.below b8 HP2.out.lt)
        replace HY3 := Lib.hid (HY3.out.bel b8)
        replace HX3 := Lib.hid (HX3.out.below b8 HX3.out.lt)
        replace HP3 := Lib.hid (HP3.out.below b8 HP3.out.lt)
        replace HY4 := Lib.hid (HY4.out.bel b8)
        replace HH0 := Lib.hid (HH0.out.keeps (Keeps.of_below (L := 0) b8))
        replace HH2 := Lib.hid (HH2.out.keeps (Keeps.of_below (L := 0) b8))
        replace HH4 := Lib.hid (HH4.out.keeps (Keeps.of_below (L := 0) b8))
        replace HLW := Lib.hid (Nat.le_trans HLW.out b8.size)
        have HX4 := Lib.hid xT
        have HP4 := Lib.hid xP
        obtain ⟨g8, hg8⟩ : ∃ g8, w15.heap.size = g8 := ⟨_, rfl⟩
        obtain ⟨g9, hg9⟩ : ∃ g9, g8 + 1 = g9 := ⟨_, rfl⟩
        have d0 := bx0 HX.out
        have d1 := bx1 HX.out
        have d2 := bx2 HX.out
        have d3 := bx3 HX.out
        have d4 := bx4 HX.out
        simp only [stC] at hw8
        rw [← hw8] at d0 d1 d2 d3 d4
        have HW8 := Lib.hid hw8
        have HG8 := Lib.hid (And.intro hg8 hg9)
        clear b8 z8 xT xP hw8 hg8 hg9
        go_wp2_with fail
        rw [HW8.out]
        rw [HG8.out.1] at HX4 HP4
        rw [HG8.out.2] at HP4
        try rw [HG8.out.1]
        try rw [HG8.out.2]
        clear d0 d1 d2 d3 d4 HW8 HG8
        have hc := rtRaw_any L x S birth iv tag A cb b w16 HT.out HAA.out HLW.out HBI.out
        rw [HO3.out] at hc
        have HC := Lib.hid hc
        have HKZ := Lib.hid HK.out.size
        clear hc
        refine HC.out.mono ?_
        rintro e w17 ⟨y5, rfl, hy, b7⟩
        replace HX := Lib.hid (HX.out.below b7 HX.out.lt)
        replace HT := Lib.hid (HT.out.bel b7)
        replace HAA := Lib.hid (HAA.out.step b7)
        replace HKY := Lib.hid (HKY.out.step b7)
        replace HB := Lib.hid (HB.out.trans (b7.mono HB.out.size))
        replace HY := Lib.hid (HY.out.bel b7)
        replace H5 := Lib.hid (H5.out.below b7 H5.out.lt)
        replace HM := Lib.hid (HM.out.step b7)
        replace HLK := Lib.hid (HLK.out.step b7)
        replace HK := Lib.hid (HK.out.trans (b7.mono HK.out.size))
        replace HY0 := Lib.hid (HY0.out.bel b7)
        replace HX0 := Lib.hid (HX0.out.below b7 HX0.out.lt)
        replace HP0 := Lib.hid (HP0.out.below b7 HP0.out.lt)
        replace HY1 := Lib.hid (HY1.out.bel b7)
        replace HX1 := Lib.hid (HX1.out.below b7 HX1.out.lt)
        replace HP1 := Lib.hid (HP1.out.below b7 HP1.out.lt)
        replace HY2 := Lib.hid (HY2.out.bel b7)
        replace HX2 := Lib.hid (HX2.out.below b7 HX2.out.lt)
        replace HP2 := Lib.hid (HP2.out.below b7 HP2.out.lt)
        replace HY3 := Lib.hid (HY3.out.bel b7)
        replace HX3 := Lib.hid (HX3.out.below b7 HX3.out.lt)
        replace HP3 := Lib.hid (HP3.out.below b7 HP3.out.lt)
        replace HY4 := Lib.hid (HY4.out.bel b7)
        replace HX4 := Lib.hid (HX4.out.below b7 HX4.out.lt)
        replace HP4 := Lib.hid (HP4.out.below b7 HP4.out.lt)
        replace HH0 := Lib.hid (HH0.out.keeps (Keeps.of_below (L := 0) b7))
        replace HH2 := Lib.hid (HH2.out.keeps (Keeps.of_below (L := 0) b7))
        replace HH4 := Lib.hid (HH4.out.keeps (Keeps.of_below (L := 0) b7))
        replace HLW := Lib.hid (Nat.le_trans HLW.out b7.size)
        have HY5 := Lib.hid (hy)
        clear b7 HC hy
        obtain ⟨w18, hw8, b8, z8, xT, xP⟩ := two_al w17 (stC y5 T3) #[.int .i64 p3a, .int .u32 (p3b : Int), .int .u32 (p3i : Int), .int .u32 (p3t : Int), .int .u32 (p3s : Int)] 29 33
        replace HX := Lib.hid (HX.out.below b8 HX.out.lt)
        replace HT := Lib.hid (HT.out.bel b8)
        replace HAA := Lib.hid (HAA.out.step b8)
        replace HKY := Lib.hid (HKY.out.step b8)
        replace HB := Lib.hid (HB.out.trans (b8.mono HB.out.size))
        replace HY := Lib.hid (HY.out.bel b8)
        replace H5 := Lib.hid (H5.out.below b8 H5.out.lt)
        replace HM := Lib.hid (HM.out.step b8)
        replace HLK := Lib.hid (HLK.out.step b8)
        replace HK := Lib.hid (HK.out.trans (b8.mono HK.out.size))
        replace HY0 := Lib.hid (HY0.out.bel b8)
        replace HX0 := Lib.hid (HX0.out.below b8 HX0.out.lt)
        replace HP0 := Lib.hid (HP0.out.below b8 HP0.out.lt)
        replace HY1 := Lib.hid (HY1.out.bel b8)
        replace HX1 := Lib.hid (HX1.out.below b8 HX1.out.lt)
        replace HP1 := Lib.hid (HP1.out.below b8 HP1.out.lt)
        replace HY2 := Lib.hid (HY2.out.bel b8)
        replace HX2 := Lib.hid (HX2.out.below b8 HX2.out.lt)
        replace HP2 := Lib.hid (HP2.out.below b8 HP2.out.lt)
        replace HY3 := Lib.hid (HY3.out.bel b8)
        replace HX3 := Lib.hid (HX3.out.below b8 HX3.out.lt)
        replace HP3 := Lib.hid (HP3.out.below b8 HP3.out.lt)
        replace HY4 := Lib.hid (HY4.out.bel b8)
        replace HX4 := Lib.hid (HX4.out.below b8 HX4.out.lt)
        replace HP4 := Lib.hid (HP4.out.below b8 HP4.out.lt)
        replace HY5 := Lib.hid (HY5.out.bel b8)
        replace HH0 := Lib.hid (HH0.out.keeps (Keeps.of_below (L := 0) b8))
        replace HH2 := Lib.hid (HH2.out.keeps (Keeps.of_below (L := 0) b8))
        replace HH4 := Lib.hid (HH4.out.keeps (Keeps.of_below (L := 0) b8))
        replace HLW := Lib.hid (Nat.le_trans HLW.out b8.size)
        have HX5 := Lib.hid xT
        have HP5 := Lib.hid xP
        obtain ⟨g8, hg8⟩ : ∃ g8, w17.heap.size = g8 := ⟨_, rfl⟩
        obtain ⟨g9, hg9⟩ : ∃ g9, g8 + 1 = g9 := ⟨_, rfl⟩
        have d0 := bx0 HX0.out
        have d1 := bx1 HX0.out
        have d2 := bx2 HX0.out
        have d3 := bx3 HX0.out
        have d4 := bx4 HX0.out
        have m0 := bx0 HX1.out
        have m1 := bx1 HX1.out
        have m2 := bx2 HX1.out
        have m3 := bx3 HX1.out
        have m4 := bx4 HX1.out
        simp only [stC] at hw8
        rw [← hw8] at d0 d1 d2 d3 d4 m0 m1 m2 m3 m4
        have HW8 := Lib.hid hw8
        have HG8 := Lib.hid (And.intro hg8 hg9)
        clear b8 z8 xT xP hw8 hg8 hg9
        go_wp2_with fail
        rw [HW8.out]
        rw [HG8.out.1] at HX5 HP5
        rw [HG8.out.2] at HP5
        try rw [HG8.out.1]
        try rw [HG8.out.2]
        clear d0 d1 d2 d3 d4 m0 m1 m2 m3 m4 HW8 HG8
        have HC := Lib.hid (rtSame_any L y0 y1 T1 T1 w18 HY0.out HY1.out ⟨HS1.out.1, HS1.out.2.1⟩ true (by simp))
        refine HC.out.mono ?_
        rintro e w19 ⟨rfl, b9⟩
        replace HX := Lib.hid (HX.out.below b9 HX.out.lt)
        replace HT := Lib.hid (HT.out.bel b9)
        replace HAA := Lib.hid (HAA.out.step b9)
        replace HKY := Lib.hid (HKY.out.step b9)
        replace HB := Lib.hid (HB.out.trans (b9.mono HB.out.size))
        replace HY := Lib.hid (HY.out.bel b9)
        replace H5 := Lib.hid (H5.out.below b9 H5.out.lt)
        replace HM := Lib.hid (HM.out.step b9)
        replace HLK := Lib.hid (HLK.out.step b9)
        replace HK := Lib.hid (HK.out.trans (b9.mono HK.out.size))
        replace HY0 := Lib.hid (HY0.out.bel b9)
        replace HX0 := Lib.hid (HX0.out.below b9 HX0.out.lt)
        replace HP0 := Lib.hid (HP0.out.below b9 HP0.out.lt)
        replace HY1 := Lib.hid (HY1.out.bel b9)
        replace HX1 := Lib.hid (HX1.out.below b9 HX1.out.lt)
        replace HP1 := Lib.hid (HP1.out.below b9 HP1.out.lt)
        replace HY2 := Lib.hid (HY2.out.bel b9)
        replace HX2 := Lib.hid (HX2.out.below b9 HX2.out.lt)
        replace HP2 := Lib.hid (HP2.out.below b9 HP2.out.lt)
        replace HY3 := Lib.hid (HY3.out.bel b9)
        replace HX3 := Lib.hid (HX3.out.below b9 HX3.out.lt)
        replace HP3 := Lib.hid (HP3.out.below b9 HP3.out.lt)
        replace HY4 := Lib.hid (HY4.out.bel b9)
        replace HX4 := Lib.hid (HX4.out.below b9 HX4.out.lt)
        replace HP4 := Lib.hid (HP4.out.below b9 HP4.out.lt)
        replace HY5 := Lib.hid (HY5.out.bel b9)
        replace HX5 := Lib.hid (HX5.out.below b9 HX5.out.lt)
        replace HP5 := Lib.hid (HP5.out.below b9 HP5.out.lt)
        replace HH0 := Lib.hid (HH0.out.keeps (Keeps.of_below (L := 0) b9))
        replace HH2 := Lib.hid (HH2.out.keeps (Keeps.of_below (L := 0) b9))
        replace HH4 := Lib.hid (HH4.out.keeps (Keeps.of_below (L := 0) b9))
        replace HLW := Lib.hid (Nat.le_trans HLW.out b9.size)
        clear b9 HC
        have q0 := bx0 HP0.out
        have q1 := bx1 HP0.out
        have q2 := bx2 HP0.out
        have q3 := bx3 HP0.out
        have q4 := bx4 HP0.out
        have r0 := bx0 HP1.out
        have r1 := bx1 HP1.out
        have r2 := bx2 HP1.out
        have r3 := bx3 HP1.out
        have r4 := bx4 HP1.out
        have hpe := eqP_lit p1a p1b p1i p1t p1s
        have he : ((e1 : Int) != e1) = false := by simp
        have d0 := bx0 HX2.out
        have d1 := bx1 HX2.out
        have d2 := bx2 HX2.out
        have d3 := bx3 HX2.out
        have d4 := bx4 HX2.out
        have m0 := bx0 HX3.out
        have m1 := bx1 HX3.out
        have m2 := bx2 HX3.out
        have m3 := bx3 HX3.out
        have m4 := bx4 HX3.out
        go_wp2_with fail
        clear q0 q1 q2 q3 q4
        clear r0 r1 r2 r3 r4
        clear hpe he
        clear d0 d1 d2 d3 d4
        clear m0 m1 m2 m3 m4
        have HC := Lib.hid (rtSame_any L y2 y3 T2 T2 w19 HY2.out HY3.out ⟨HS2.out.1, HS2.out.2.1⟩ true (by simp))
        refine HC.out.mono ?_
        rintro e w20 ⟨rfl, b9⟩
        replace HX := Lib.hid (HX.out.below b9 HX.out.lt)
        replace HT := Lib.hid (HT.out.bel b9)
        replace HAA := Lib.hid (HAA.out.step b9)
        replace HKY := Lib.hid (HKY.out.step b9)
        replace HB := Lib.hid (HB.out.trans (b9.mono HB.out.size))
        replace HY := Lib.hid (HY.out.bel b9)
        replace H5 := Lib.hid (H5.out.below b9 H5.out.lt)
        replace HM := Lib.hid (HM.out.step b9)
        replace HLK := Lib.hid (HLK.out.step b9)
        replace HK := Lib.hid (HK.out.trans (b9.mono HK.out.size))
        replace HY0 := Lib.hid (HY0.out.bel b9)
        replace HX0 := Lib.hid (HX0.out.below b9 HX0.out.lt)
        replace HP0 := Lib.hid (HP0.out.below b9 HP0.out.lt)
        replace HY1 := Lib.hid (HY1.out.bel b9)
        replace HX1 := Lib.hid (HX1.out.below b9 HX1.out.lt)
        replace HP1 := Lib.hid (HP1.out.below b9 HP1.out.lt)
        replace HY2 := Lib.hid (HY2.out.bel b9)
        replace HX2 := Lib.hid (HX2.out.below b9 HX2.out.lt)
        replace HP2 := Lib.hid (HP2.out.below b9 HP2.out.lt)
        replace HY3 := Lib.hid (HY3.out.bel b9)
        replace HX3 := Lib.hid (HX3.out.below b9 HX3.out.lt)
        replace HP3 := Lib.hid (HP3.out.below b9 HP3.out.lt)
        replace HY4 := Lib.hid (HY4.out.bel b9)
        replace HX4 := Lib.hid (HX4.out.below b9 HX4.out.lt)
        replace HP4 := Lib.hid (HP4.out.below b9 HP4.out.lt)
        replace HY5 := Lib.hid (HY5.out.bel b9)
        replace HX5 := Lib.hid (HX5.out.below b9 HX5.out.lt)
        replace HP5 := Lib.hid (HP5.out.below b9 HP5.out.lt)
        replace HH0 := Lib.hid (HH0.out.keeps (Keeps.of_below (L := 0) b9))
        replace HH2 := Lib.hid (HH2.out.keeps (Keeps.of_below (L := 0) b9))
        replace HH4 := Lib.hid (HH4.out.keeps (Keeps.of_below (L := 0) b9))
        replace HLW := Lib.hid (Nat.le_trans HLW.out b9.size)
        clear b9 HC
        have q0 := bx0 HP2.out
        have q1 := bx1 HP2.out
        have q2 := bx2 HP2.out
        have q3 := bx3 HP2.out
        have q4 := bx4 HP2.out
        have r0 := bx0 HP3.out
        have r1 := bx1 HP3.out
        have r2 := bx2 HP3.out
        have r3 := bx3 HP3.out
        have r4 := bx4 HP3.out
        have hpe := eqP_lit p2a p2b p2i p2t p2s
        have he : ((e2 : Int) != e2) = false := by simp
        have d0 := bx0 HX4.out
        have d1 := bx1 HX4.out
        have d2 := bx2 HX4.out
        have d3 := bx3 HX4.out
        have d4 := bx4 HX4.out
        have m0 := bx0 HX5.out
        have m1 := bx1 HX5.out
        have m2 := bx2 HX5.out
        have m3 := bx3 HX5.out
        have m4 := bx4 HX5.out
        go_wp2_with fail
        clear q0 q1 q2 q3 q4
        clear r0 r1 r2 r3 r4
        clear hpe he
        clear d0 d1 d2 d3 d4
        clear m0 m1 m2 m3 m4
        have HC := Lib.hid (rtSame_any L y4 y5 T3 T3 w20 HY4.out HY5.out ⟨HS3.out.1, HS3.out.2.1⟩ true (by simp))
        refine HC.out.mono ?_
        rintro e w21 ⟨rfl, b9⟩
        replace HX := Lib.hid (HX.out.below b9 HX.out.lt)
        replace HT := Lib.hid (HT.out.bel b9)
        replace HAA := Lib.hid (HAA.out.step b9)
        replace HKY := Lib.hid (HKY.out.step b9)
        replace HB := Lib.hid (HB.out.trans (b9.mono HB.out.size))
        replace HY := Lib.hid (HY.out.bel b9)
        replace H5 := Lib.hid (H5.out.below b9 H5.out.lt)
        replace HM := Lib.hid (HM.out.step b9)
        replace HLK := Lib.hid (HLK.out.step b9)
        replace HK := Lib.hid (HK.out.trans (b9.mono HK.out.size))
        replace HY0 := Lib.hid (HY0.out.bel b9)
        replace HX0 := Lib.hid (HX0.out.below b9 HX0.out.lt)
        replace HP0 := Lib.hid (HP0.out.below b9 HP0.out.lt)
        replace HY1 := Lib.hid (HY1.out.bel b9)
        replace HX1 := Lib.hid (HX1.out.below b9 HX1.out.lt)
        replace HP1 := Lib.hid (HP1.out.below b9 HP1.out.lt)
        replace HY2 := Lib.hid (HY2.out.bel b9)
        replace HX2 := Lib.hid (HX2.out.below b9 HX2.out.lt)
        replace HP2 := Lib.hid (HP2.out.below b9 HP2.out.lt)
        replace HY3 := Lib.hid (HY3.out.bel b9)
        replace HX3 := Lib.hid (HX3.out.below b9 HX3.out.lt)
        replace HP3 := Lib.hid (HP3.out.below b9 HP3.out.lt)
        replace HY4 := Lib.hid (HY4.out.bel b9)
        replace HX4 := Lib.hid (HX4.out.below b9 HX4.out.lt)
        replace HP4 := Lib.hid (HP4.out.below b9 HP4.out.lt)
        replace HY5 := Lib.hid (HY5.out.bel b9)
        replace HX5 := Lib.hid (HX5.out.below b9 HX5.out.lt)
        replace HP5 := Lib.hid (HP5.out.below b9 HP5.out.lt)
        replace HH0 := Lib.hid (HH0.out.keeps (Keeps.of_below (L := 0) b9))
        replace HH2 := Lib.hid (HH2.out.keeps (Keeps.of_below (L := 0) b9))
        replace HH4 := Lib.hid (HH4.out.keeps (Keeps.of_below (L := 0) b9))
        replace HLW := Lib.hid (Nat.le_trans HLW.out b9.size)
        clear b9 HC
        have q0 := bx0 HP4.out
        have q1 := bx1 HP4.out
        have q2 := bx2 HP4.out
        have q3 := bx3 HP4.out
        have q4 := bx4 HP4.out
        have r0 := bx0 HP5.out
        have r1 := bx1 HP5.out
        have r2 := bx2 HP5.out
        have r3 := bx3 HP5.out
        have r4 := bx4 HP5.out
        have hpe := eqP_lit p3a p3b p3i p3t p3s
        have he : ((e3 : Int) != e3) = false := by simp
        have d0 := bx0 HX0.out
        have d1 := bx1 HX0.out
        have d2 := bx2 HX0.out
        have d3 := bx3 HX0.out
        have d4 := bx4 HX0.out
        go_wp2_with fail
        clear q0 q1 q2 q3 q4
        clear r0 r1 r2 r3 r4
        clear hpe he
        clear d0 d1 d2 d3 d4
        have HC := Lib.hid (stSpoil_any w6.heap.size y0 T1 w21 HH0.out HK.out.size ⟨by have := HS1.out.1; omega, by have := HS1.out.2.1; omega, by have := HS1.out.2.2; omega⟩)
        refine HC.out.mono ?_
        rintro e w22 ⟨rfl, sp⟩
        replace HX := Lib.hid (sp.box _ _ _ HX.out (by decide))
        replace H5 := Lib.hid (sp.box _ _ _ H5.out (by decide))
        replace HX2 := Lib.hid (sp.box _ _ _ HX2.out (by decide))
        replace HX4 := Lib.hid (sp.box _ _ _ HX4.out (by decide))
        replace HH2 := Lib.hid (HH2.out.spoils sp)
        replace HH4 := Lib.hid (HH4.out.spoils sp)
        replace HB := Lib.hid (HB.out.trans (sp.below.mono HBK.out))
        replace HK := Lib.hid (HK.out.trans sp.below)
        clear sp HC
        have d0 := bx0 HX2.out
        have d1 := bx1 HX2.out
        have d2 := bx2 HX2.out
        have d3 := bx3 HX2.out
        have d4 := bx4 HX2.out
        go_wp2_with fail
        clear d0 d1 d2 d3 d4
        have HC := Lib.hid (stSpoil_any w6.heap.size y2 T2 w22 HH2.out HK.out.size ⟨by have := HS2.out.1; omega, by have := HS2.out.2.1; omega, by have := HS2.out.2.2; omega⟩)
        refine HC.out.mono ?_
        rintro e w23 ⟨rfl, sp⟩
        replace HX := Lib.hid (sp.box _ _ _ HX.out (by decide))
        replace H5 := Lib.hid (sp.box _ _ _ H5.out (by decide))
        replace HX4 := Lib.hid (sp.box _ _ _ HX4.out (by decide))
        replace HH4 := Lib.hid (HH4.out.spoils sp)
        replace HB := Lib.hid (HB.out.trans (sp.below.mono HBK.out))
        replace HK := Lib.hid (HK.out.trans sp.below)
        clear sp HC
        have d0 := bx0 HX4.out
        have d1 := bx1 HX4.out
        have d2 := bx2 HX4.out
        have d3 := bx3 HX4.out
        have d4 := bx4 HX4.out
        go_wp2_with fail
        clear d0 d1 d2 d3 d4
        have HC := Lib.hid (stSpoil_any w6.heap.size y4 T3 w23 HH4.out HK.out.size ⟨by have := HS3.out.1; omega, by have := HS3.out.2.1; omega, by have := HS3.out.2.2; omega⟩)
        refine HC.out.mono ?_
        rintro e w24 ⟨rfl, sp⟩
        replace HX := Lib.hid (sp.box _ _ _ HX.out (by decide))
        replace H5 := Lib.hid (sp.box _ _ _ H5.out (by decide))
        replace HB := Lib.hid (HB.out.trans (sp.below.mono HBK.out))
        replace HK := Lib.hid (HK.out.trans sp.below)
        clear sp HC
        have d0 := bx0 H5.out
        have d1 := bx1 H5.out
        have d2 := bx2 H5.out
        have d3 := bx3 H5.out
        have d4 := bx4 H5.out
        have m0 := bx0 HX.out
        have m1 := bx1 HX.out
        have m2 := bx2 HX.out
        have m3 := bx3 HX.out
        have m4 := bx4 HX.out
        go_wp2_with fail
        clear d0 d1 d2 d3 d4
        clear m0 m1 m2 m3 m4
        have HSX := Lib.hid ((HST.out.below HB.out).lasts HB.out.size |>.less HBK.out)
        have HSY := Lib.hid ((HOWN.out.below HK.out).lasts HK.out.size)
        have HMF := Lib.hid ((HM0.out.below HK.out).more HK.out.size)
        have HLF := Lib.hid ((HL0.out.below HK.out).more HK.out.size)
        have HAF := Lib.hid ((HA0.out.below HB.out).more HB.out.size)
        have HKF := Lib.hid ((HK0.out.below HB.out).more HB.out.size)
        have HC := Lib.hid (rtSame_any w6.heap.size y x S S w24 HSY.out HSX.out ⟨by have := HSM.out.1.1; omega, by have := HSM.out.1.2.2.1; omega⟩ true (by simp))
        refine HC.out.mono ?_
        rintro e w25 ⟨rfl, b9⟩
        replace HB := Lib.hid (HB.out.trans (b9.mono HB.out.size))
        have V1 := (HMF.out.step b9).conv
        have V2 := (HLF.out.step b9).conv
        have V3 := (HAF.out.step b9).conv
        have V4 := (HKF.out.step b9).conv
        have v5 : ((strOf b).toList == (strOf b).toList) = true := by simp
        have v6 : ((strOf key).toList == (strOf key).toList) = true := by simp
        clear b9 HC
        go_wp2_with fail
        go_ret
        exact ⟨rfl, HB.out⟩
theorem storeWrites_walk (x : SAt) (S : StL) (bi : Int) (B : Option Addr) (lk ck : Nat) (key : List UInt8) (A : Option Addr) (lb cb : Nat) (b : List UInt8) (iv tag : Int) (w : World) (h : Str w w.heap.size x S) (hnear : Near S.1) (hwf : WfS S) (hbi : (Lit.int .u32 bi).wf = true) (hK : Bsl w w.heap.size B lk ck key) (hA : Bsl w w.heap.size A lb cb b) (hiv : (Lit.int .u32 iv).wf = true) (htag : (Lit.int .u32 tag).wf = true) :
    Calls Tryz.prog 3 #[stV x S, .int .u32 bi, .slice B lk ck, .slice A lb cb, .int .u32 iv, .int .u32 tag] w fun e w' => e = .returned (.bool true) ∧ Below w.heap.size w w' := by
  obtain ⟨m, rfl, hm⟩ := u32_wf hbi
  obtain ⟨i, rfl, _⟩ := u32_wf hiv
  obtain ⟨t, rfl, _⟩ := u32_wf htag
  obtain rfl := hK.1
  obtain rfl := hA.1
  exact storeWrites_at x S m B ck key A cb b i t w h hnear hwf hm hK hA
end Go.Proofs.YtdpmdlibgabjaaaGreat
namespace Go.Proofs.YtdpmdlibgabjaaaGreat.storeWrites
open Go.ChangeShapes Go.WideShapes Go.ChangeAt Go.RowKit
set_option linter.unusedVariables false

theorem own : ownKnob Tryz.prog.godebug = none := by kernel_rfl
theorem laidOut : laidOutB Tryz.prog = true := by kernel_rfl

set_option maxRecDepth 100000 in
theorem lifted (os : Os) (started : os.Started) (H : Type) (enc : TypeId × Value → H) :
    ReturnsInHanded {} Tryz.checked os 3 .any (Rows.storeWritesSpec.pre6 enc Tryz.prog Tryz.f3 Rows.storeWritesRow.domain false) (Rows.storeWritesSpec.post enc Tryz.prog Tryz.f3 false true false false) := by
  refine returnsInHanded_of_change_sized (C := Tryz.checked) own started (by kernel_rfl) Tryz.func3
    (ChangeSpec.witness6 (enc := enc) (C := Tryz.checked) false ⟨#[], #[.agg #[.slice none 0 0, .slice none 0 0, .slice none 0 0, .int .u32 0, .int .u32 0], .int .u32 0, .slice none 0 0, .slice none 0 0, .int .u32 0, .int .u32 0], []⟩ 8 (by kernel_rfl) (by kernel_rfl) (by kernel_rfl) (by kernel_rfl)) ?_
  intro W base args ds gs before hval0 hW hcnd hsz _
  have hval : ∀ (j : Nat) t v, Tryz.f3.params[j]? = some t → args[j]? = some v → Value.okWide Tryz.prog W .any base t v := hval0
  have hW' := hW
  obtain ⟨p, q, hA0, hV, rfl, hfz, hnd⟩ := hW
  have hA : DataW.TrodAll enc Tryz.prog W 0 (fun _ => true) true Tryz.f3.params.toList args.toList ds p := hA0
  rw [Tryz.params3] at hA hval
  obtain ⟨v0, vs0, d0, ds0, p0, q0, hargs, rfl, rfl, h0, r0⟩ := trodAll_cons hA
  obtain ⟨v1, vs1, d1, ds1, p1, q1, rfl, rfl, rfl, h1, r1⟩ := trodAll_cons r0
  obtain ⟨v2, vs2, d2, ds2, p2, q2, rfl, rfl, rfl, h2, r2⟩ := trodAll_cons r1
  obtain ⟨v3, vs3, d3, ds3, p3, q3, rfl, rfl, rfl, h3, r3⟩ := trodAll_cons r2
  obtain ⟨v4, vs4, d4, ds4, p4, q4, rfl, rfl, rfl, h4, r4⟩ := trodAll_cons r3
  obtain ⟨v5, vs5, d5, ds5, p5, q5, rfl, rfl, rfl, h5, r5⟩ := trodAll_cons r4
  obtain ⟨rfl, rfl, rfl⟩ := trodAll_nil r5
  obtain rfl : args = #[v0, v1, v2, v3, v4, v5] := by cases args; simp_all
  obtain ⟨rfl, rfl⟩ := trodVars_none hV
  have k0 := h0
  have lt0 : ∀ x ∈ p0, x.block < W.heap.size := by obtain ⟨m, hm⟩ := k0; exact DataW.trod_lt m _ _ _ hm
  obtain ⟨x0, S0, rfl, w0, m0, f0⟩ := open_store (hval 0 29 v0 rfl rfl) h0 (fun n hn => by
    have := List.all_eq_true.1 hsz n (DataW.weights_mem_each (j := 0) (t := 29) (by kernel_rfl) rfl n hn)
    simpa using this)
  obtain ⟨a1, rfl, rfl, rfl, w1⟩ := open_int Tryz.underlying27 (hval 1 27 v1 rfl rfl) h1
  obtain ⟨a2, len2, cap2, rfl⟩ := okWide_slice Tryz.underlying26 (hval 2 26 v2 rfl rfl)
  have k2 := h2
  have lt2 : ∀ x ∈ p2, x.block < W.heap.size := by obtain ⟨m, hm⟩ := k2; exact DataW.trod_lt m _ _ _ hm
  obtain ⟨z2, w2⟩ : ∃ zs, IsRow .u8 W a2 len2 cap2 zs := by
    obtain ⟨fuel, hf⟩ := h2
    rcases open_ints Tryz.underlying26 Tryz.underlying5 (by kernel_rfl) hf with ⟨hcs, _⟩ | ⟨x, l, c, zs, hcs, _, hl, hm, hz, _, hcell, hwz⟩
    · simp [Value.cells] at hcs
      obtain ⟨rfl, rfl, rfl⟩ := hcs
      exact ⟨[], .inl ⟨rfl, rfl, rfl, rfl⟩⟩
    · simp [Value.cells] at hcs
      obtain ⟨rfl, rfl, rfl⟩ := hcs
      exact ⟨zs, .inr ⟨_, rfl, hl, hm, by simpa using hz, hcell, hwz⟩⟩
  obtain ⟨a3, len3, cap3, rfl⟩ := okWide_slice Tryz.underlying26 (hval 3 26 v3 rfl rfl)
  have k3 := h3
  have lt3 : ∀ x ∈ p3, x.block < W.heap.size := by obtain ⟨m, hm⟩ := k3; exact DataW.trod_lt m _ _ _ hm
  obtain ⟨z3, w3⟩ : ∃ zs, IsRow .u8 W a3 len3 cap3 zs := by
    obtain ⟨fuel, hf⟩ := h3
    rcases open_ints Tryz.underlying26 Tryz.underlying5 (by kernel_rfl) hf with ⟨hcs, _⟩ | ⟨x, l, c, zs, hcs, _, hl, hm, hz, _, hcell, hwz⟩
    · simp [Value.cells] at hcs
      obtain ⟨rfl, rfl, rfl⟩ := hcs
      exact ⟨[], .inl ⟨rfl, rfl, rfl, rfl⟩⟩
    · simp [Value.cells] at hcs
      obtain ⟨rfl, rfl, rfl⟩ := hcs
      exact ⟨zs, .inr ⟨_, rfl, hl, hm, by simpa using hz, hcell, hwz⟩⟩
  obtain ⟨a4, rfl, rfl, rfl, w4⟩ := open_int Tryz.underlying27 (hval 4 27 v4 rfl rfl) h4
  obtain ⟨a5, rfl, rfl, rfl, w5⟩ := open_int Tryz.underlying27 (hval 5 27 v5 rfl rfl) h5
  clear hA0 hval0
  refine (storeWrites_walk x0 S0 a1 a2 len2 cap2 _ a3 len3 cap3 _ a4 a5 W w0 m0 f0 w1 (bsl_of_row w2) (bsl_of_row w3) w4 w5).mono fun e W' ⟨he, bel⟩ => ?_
  subst he
  exact ⟨_, rfl, _, _, _, [], _, [], hW', trodAll_mk1 (shut_bool Tryz.underlying4 _), (trodAll_cons_mk (Below.trod laidOut (by kernel_rfl) (of_decide_eq_true (by kernel_rfl)) k0 bel lt0) (trodAll_cons_mk (shut_int Tryz.underlying27 w1) (trodAll_cons_mk (Below.trod laidOut (by kernel_rfl) (of_decide_eq_true (by kernel_rfl)) k2 bel lt2) (trodAll_cons_mk (Below.trod laidOut (by kernel_rfl) (of_decide_eq_true (by kernel_rfl)) k3 bel lt3) (trodAll_cons_mk (shut_int Tryz.underlying27 w4) (trodAll_cons_mk (shut_int Tryz.underlying27 w5) trodAll_mk0)))))), rfl, bel.frame _, fun h => by cases h⟩

theorem over : Rows.storeWritesRow.holds Tryz.pinned (OpenSpec.ofChange Rows.storeWritesSpec) :=
  OpenClaim.holds_of_wide 3 Tryz.f3 rfl rfl rfl rfl rfl rfl rfl ⟨rfl, rfl, rfl, rfl, rfl⟩ rfl rfl rfl rfl rfl (by kernel_rfl) Tryz.func3 (by kernel_rfl)
    (of_decide_eq_true (by kernel_rfl)) (by unfold Func.isWrapper; first | (rw [if_pos (by decide +kernel)]; kernel_rfl) | (rw [if_neg (by decide +kernel)]; exact ⟨rfl, rfl⟩))
    (fun os started H enc _ => lifted os started H enc)

/-- The statement. -/
theorem proved : Rows.StoreWritesSaid := over
end Go.Proofs.YtdpmdlibgabjaaaGreat.storeWrites
