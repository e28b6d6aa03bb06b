/-
  StoreNamesSaid: the limits and errors have their numbers, and the chapter's examples are so. No condition.
-/
import Derived.Test.YtdpmdlibgabjaaaRows
import Derived.Test.YtdpmdlibgabjaaaPkSP6
namespace Go.Proofs.Ytdpmdlibgabjaaa
open Go.RowKit Go.Shelf
set_option maxRecDepth 100000

theorem lay_new {b : List UInt8} (hb : b.length = 256) : rawO newS 1 0 0 b = (putAt newS 12 b, (((12 : Nat) : Int), 1, 0, 0, sumOf b), 0) := by
  obtain ⟨r, hr⟩ := newS_free
  unfold rawO
  rw [if_pos newS_may, if_pos (by omega), if_pos hb, putS_some (k := 12) (by omega) (free_first hr).2.1 (free_first hr).2.2 (by show 0 < 4096; omega)]
  rfl
theorem lay_may {b : List UInt8} (hb : b.length = 256) : MayS (putAt newS 12 b) := putAt_may (k := 12) newS_may (by omega) hb (by show 0 < 4096; omega)
theorem lay_look {b : List UInt8} (hb : b.length = 256) : lookO (putAt newS 12 b) (((12 : Nat) : Int), 1, 0, 0, sumOf b) = (b, 0) := by
  rw [lookO_may (lay_may hb) (ptr_may (k := 12) (birth := 1) (by omega) (by omega) 0 0 (sumOf b))]
  exact seenO_put newS (k := 12) (birth := 1) (by omega) 0 0 b
theorem lay_wf (b : List UInt8) : WfP (((12 : Nat) : Int), 1, 0, 0, sumOf b) := wf_putP (k := 12) (birth := 1) (iv := 0) (tag := 0) (by omega) (by omega) (by omega) (by omega) b
theorem lay_birth (b : List UInt8) : rawO newS 0 0 0 b = (st0, p0, 2) := by
  unfold rawO
  rw [if_pos newS_may, if_neg (by omega)]
theorem lay_short {b : List UInt8} (hb : b.length ≠ 256) : rawO newS 1 0 0 b = (st0, p0, 3) := by
  unfold rawO
  rw [if_pos newS_may, if_pos (by omega), if_neg hb]
theorem look_none : lookO newS p0 = ([], 6) := by
  rw [lookO_may newS_may may_p0]
  unfold seenO
  rw [if_pos rfl]
theorem seal_last {S : StL} {key b : List UInt8} (h : MayS S) (hc : S.2.2.2 = 65535) (hk : key.length = 16) (hb : b.length = 256) : sealO S 1 key b = (st0, p0, 132) := by
  unfold sealO
  rw [if_pos h, if_pos (by omega), if_pos ⟨hk, hb⟩]
  unfold sealedO
  rw [if_pos (by omega)]
set_option maxHeartbeats 64000000 in
theorem storeNames_walk (w : World) : Calls Try.prog 3 #[] w fun e w' => e = .returned (.bool true) ∧ Below w.heap.size w w' := by
  have hmx : Try.prog.follows Departure.mixedOrders = true := by kernel_rfl
  obtain ⟨L, hL⟩ : ∃ L : Nat, L ≤ w.heap.size := ⟨0, Nat.zero_le _⟩
  obtain ⟨Z, hZ⟩ : ∃ Z, List.replicate 256 (0 : UInt8) = Z := ⟨_, rfl⟩
  obtain ⟨K0, hK0⟩ : ∃ Z, List.replicate 16 (0 : UInt8) = Z := ⟨_, rfl⟩
  have hzl : Z.length = 256 := by rw [← hZ]; exact List.length_replicate ..
  have hkl : K0.length = 16 := by rw [← hK0]; exact List.length_replicate ..
  have HZL := Lib.hid hzl
  have HKL := Lib.hid hkl
  have HZ0 := Lib.hid hZ
  have HZN := Lib.hid hK0
  obtain ⟨N, hN⟩ : ∃ N, newS = N := ⟨_, rfl⟩
  have hnew : ∀ W, Calls Try.prog 9 #[] W (NewS N W) := fun W => by rw [← hN]; exact stNew_any W
  have hnm : MayS N := by rw [← hN]; exact newS_may
  obtain ⟨⟨T4, ⟨pa, pb, pi, pt, ps⟩, e4⟩, ho4⟩ : ∃ o, rawO N 1 0 0 Z = o := ⟨_, rfl⟩
  obtain ⟨⟨T6, ⟨qa, qb, qi, qt, qs⟩, e6⟩, ho6⟩ : ∃ o, rawO N 0 0 0 Z = o := ⟨_, rfl⟩
  obtain ⟨⟨T7, ⟨ra, rb, ri, rt, rs⟩, e7⟩, ho7⟩ : ∃ o, rawO N 1 0 0 [1] = o := ⟨_, rfl⟩
  obtain ⟨⟨l8, e8⟩, ho8⟩ : ∃ o, lookO N p0 = o := ⟨_, rfl⟩
  have HO4 := Lib.hid ho4
  have HO6 := Lib.hid ho6
  have HO7 := Lib.hid ho7
  have HO8 := Lib.hid ho8
  have h4 := ho4.symm
  have h6 := ho6.symm
  have h7 := ho7.symm
  have h8 := ho8.symm
  rw [← hN] at h4 h6 h7 h8
  rw [lay_new hzl] at h4
  rw [lay_birth Z] at h6
  rw [lay_short (b := [1]) (by decide)] at h7
  rw [look_none] at h8
  simp only [Prod.mk.injEq] at h4 h6 h7 h8
  obtain ⟨hT4, ⟨hpa, hpb, hpi, hpt, hps⟩, he4⟩ := h4
  have HE := Lib.hid (show e4 = 0 ∧ e6 = 2 ∧ e7 = 3 ∧ e8 = 6 ∧ pa = 12 ∧ pb = 1 ∧ pi = 0 from ⟨he4, h6.2.2, h7.2.2, h8.2, hpa, hpb, hpi⟩)
  have htm : MayS T4 := by rw [hT4]; exact lay_may hzl
  have HTM := Lib.hid htm
  have HWP := Lib.hid (show WfP (pa, pb, pi, pt, ps) by rw [hpa, hpb, hpi, hpt, hps]; exact lay_wf Z)
  have HL4 := Lib.hid (show lookO T4 (pa, pb, pi, pt, ps) = (Z, 0) by rw [hT4, hpa, hpb, hpi, hpt, hps]; exact lay_look hzl)
  have HNEW := Lib.hid hnew
  have HNM := Lib.hid hnm
  have HLW := Lib.hid hL
  have mz : ∀ W : World, (Instr.makeSlice 23 (.int .i64 256) (.int .i64 256)).run Try.prog W = .ok (.slice (some ⟨W.heap.size, 0, none⟩) 256 256) (W.alloc (.cells (Array.replicate 256 (.int .u8 0)) 5)) := fun W => make_noughts 256 (by omega) W
  clear hZ hK0 hN hnew hnm ho4 ho6 ho7 ho8 h6 h7 h8 hT4 hpa hpb hpi hpt hps he4 htm hzl hkl hL
  go_enter Try.func3, Try.ntmps3
  go_wp2_with fail
  refine (stAlive_any w).mono ?_
  rintro e w1 ⟨rfl, b1⟩
  have HB := Lib.hid b1
  replace HLW := Lib.hid (Nat.le_trans HLW.out b1.size)
  clear b1
  go_wp2_with fail
  have bz := (Below.refl w1.heap.size w1).alloc (Nat.le_refl _) (.cells (Array.replicate 256 (.int .u8 0)) 5)
  have xz := noughts_bsl 256 (by omega) w1
  rw [HZ0.out] at xz
  obtain ⟨w2, hw2⟩ : ∃ X, w1.alloc (.cells (Array.replicate 256 (.int .u8 0)) 5) = X := ⟨_, rfl⟩
  obtain ⟨gz, hgz⟩ : ∃ X, w1.heap.size = X := ⟨_, rfl⟩
  have hzs := bz.size
  rw [hw2] at bz xz hzs
  rw [hgz] at xz
  try rw [hw2]
  try rw [hgz]
  replace HB := Lib.hid (HB.out.trans (bz.mono HB.out.size))
  replace HLW := Lib.hid (Nat.le_trans HLW.out hzs)
  have HZB := Lib.hid xz
  clear bz xz hw2 hgz hzs mz
  refine (HNEW.out w2).mono ?_
  rintro e w3 ⟨y2, rfl, hy, _, b3⟩
  replace HZB := Lib.hid (HZB.out.step b3)
  replace HB := Lib.hid (HB.out.trans (b3.mono HB.out.size))
  replace HLW := Lib.hid (Nat.le_trans HLW.out b3.size)
  have HY := Lib.hid (StP.any (L := L) hy)
  clear hy b3
  have hc := stLay_any L y2 N 1 (some ⟨gz, 0, none⟩) 256 Z w3 HY.out (by rw [HZL.out]; exact HZB.out) HNM.out.ok HLW.out (by omega)
  rw [HO4.out, HZL.out] at hc
  have HC := Lib.hid hc
  clear hc
  go_wp2_with fail
  refine HC.out.mono ?_
  rintro e w4 ⟨y4, rfl, hy, _, b3⟩
  replace HZB := Lib.hid (HZB.out.step b3)
  replace HB := Lib.hid (HB.out.trans (b3.mono HB.out.size))
  replace HLW := Lib.hid (Nat.le_trans HLW.out b3.size)
  have HY4 := Lib.hid (StP.any (L := L) hy)
  clear hy b3 HC HY
  obtain ⟨w5, hw8, b8, z8, xT, xP⟩ := two_al w4 (stC y4 T4) #[.int .i64 pa, .int .u32 (pb : Int), .int .u32 (pi : Int), .int .u32 (pt : Int), .int .u32 (ps : Int)] 30 32
  replace HZB := Lib.hid (HZB.out.step b8)
  replace HB := Lib.hid (HB.out.trans (b8.mono HB.out.size))
  replace HY4 := Lib.hid (HY4.out.bel b8)
  replace HLW := Lib.hid (Nat.le_trans HLW.out b8.size)
  have HX4 := Lib.hid xT
  have HP4 := Lib.hid xP
  obtain ⟨g8, hg8⟩ : ∃ g8, w4.heap.size = g8 := ⟨_, rfl⟩
  obtain ⟨g9, hg9⟩ : ∃ g9, g8 + 1 = g9 := ⟨_, rfl⟩
  have d0 := bx0 HX4.out
  have d1 := bx1 HX4.out
  have d2 := bx2 HX4.out
  have d3 := bx3 HX4.out
  have d4 := bx4 HX4.out
  have q0 := bx0 HP4.out
  have q1 := bx1 HP4.out
  have q2 := bx2 HP4.out
  have q3 := bx3 HP4.out
  have q4 := bx4 HP4.out
  simp only [stC] at hw8
  rw [← hw8] at d0 d1 d2 d3 d4 q0 q1 q2 q3 q4
  have HW8 := Lib.hid hw8
  have HG8 := Lib.hid (And.intro hg8 hg9)
  clear b8 z8 xT xP hw8 hg8 hg9
  go_wp2_with fail
  rw [HW8.out]
  rw [HG8.out.1] at HX4 HP4
  rw [HG8.out.2] at HP4
  try rw [HG8.out.1]
  try rw [HG8.out.2]
  clear d0 d1 d2 d3 d4 q0 q1 q2 q3 q4 HW8 HG8
  have hc := stLook_any L y4 T4 (pa, pb, pi, pt, ps) w5 HY4.out HTM.out.ok HWP.out HLW.out
  rw [HL4.out] at hc
  have HC := Lib.hid hc
  clear hc
  refine HC.out.mono ?_
  rintro e w6 ⟨v5, rfl, hv, b3⟩
  simp only at hv
  obtain ⟨a5, c5, rfl⟩ := own_slice hv
  replace HZB := Lib.hid (HZB.out.step b3)
  replace HB := Lib.hid (HB.out.trans (b3.mono HB.out.size))
  replace HP4 := Lib.hid (HP4.out.below b3 HP4.out.lt)
  replace HLW := Lib.hid (Nat.le_trans HLW.out b3.size)
  have HR5 := Lib.hid hv
  clear hv b3 HC HY4 HX4
  go_wp2_with fail
  refine (HNEW.out w6).mono ?_
  rintro e w7 ⟨y6, rfl, hy, _, b3⟩
  replace HZB := Lib.hid (HZB.out.step b3)
  replace HB := Lib.hid (HB.out.trans (b3.mono HB.out.size))
  replace HP4 := Lib.hid (HP4.out.below b3 HP4.out.lt)
  replace HR5 := Lib.hid (own_below HR5.out b3)
  replace HLW := Lib.hid (Nat.le_trans HLW.out b3.size)
  have HY := Lib.hid (StP.any (L := L) hy)
  clear hy b3
  have hc := stLay_any L y6 N 0 (some ⟨gz, 0, none⟩) 256 Z w7 HY.out (by rw [HZL.out]; exact HZB.out) HNM.out.ok HLW.out (by omega)
  rw [HO6.out, HZL.out] at hc
  have HC := Lib.hid hc
  clear hc
  go_wp2_with fail
  refine HC.out.mono ?_
  rintro e w8 ⟨y6, rfl, _, _, b3⟩
  replace HZB := Lib.hid (HZB.out.step b3)
  replace HB := Lib.hid (HB.out.trans (b3.mono HB.out.size))
  replace HP4 := Lib.hid (HP4.out.below b3 HP4.out.lt)
  replace HR5 := Lib.hid (own_below HR5.out b3)
  replace HLW := Lib.hid (Nat.le_trans HLW.out b3.size)
  clear b3 HC HY
  obtain ⟨w9, hw8, b8, z8, xT, xP⟩ := two_al w8 (stC y6 T6) #[.int .i64 qa, .int .u32 (qb : Int), .int .u32 (qi : Int), .int .u32 (qt : Int), .int .u32 (qs : Int)] 30 32
  replace HZB := Lib.hid (HZB.out.step b8)
  replace HB := Lib.hid (HB.out.trans (b8.mono HB.out.size))
  replace HP4 := Lib.hid (HP4.out.below b8 HP4.out.lt)
  replace HR5 := Lib.hid (own_below HR5.out b8)
  replace HLW := Lib.hid (Nat.le_trans HLW.out b8.size)
  simp only [stC] at hw8
  have HW8 := Lib.hid hw8
  clear b8 z8 xT xP hw8
  go_wp2_with fail
  rw [HW8.out]
  clear HW8
  refine (HNEW.out w9).mono ?_
  rintro e w10 ⟨y9, rfl, hy, _, b3⟩
  replace HZB := Lib.hid (HZB.out.step b3)
  replace HB := Lib.hid (HB.out.trans (b3.mono HB.out.size))
  replace HP4 := Lib.hid (HP4.out.below b3 HP4.out.lt)
  replace HR5 := Lib.hid (own_below HR5.out b3)
  replace HLW := Lib.hid (Nat.le_trans HLW.out b3.size)
  have HY := Lib.hid (StP.any (L := L) hy)
  clear hy b3
  have b8 := (Below.refl w10.heap.size w10).alloc (Nat.le_refl _) (.cells #[.int .u8 ((1 : UInt8).toNat : Int)] 5)
  have x1 := one_bsl w10 1
  replace HZB := Lib.hid (HZB.out.step b8)
  replace HB := Lib.hid (HB.out.trans (b8.mono HB.out.size))
  replace HP4 := Lib.hid (HP4.out.below b8 HP4.out.lt)
  replace HR5 := Lib.hid (own_below HR5.out b8)
  replace HY := Lib.hid (HY.out.bel b8)
  replace HLW := Lib.hid (Nat.le_trans HLW.out b8.size)
  clear b8
  go_wp2_with fail
  obtain ⟨w11, hw6⟩ : ∃ X, w10.alloc (.cells #[.int .u8 ((1 : UInt8).toNat : Int)] 5) = X := ⟨_, rfl⟩
  obtain ⟨g7, hg7⟩ : ∃ X, w10.heap.size = X := ⟨_, rfl⟩
  rw [hw6] at HZB HB HP4 HR5 HY HLW
  rw [hw6] at x1
  rw [hg7] at x1
  rw [show w10.alloc (.cells #[.int .u8 1] 5) = w11 from hw6]
  try rw [hg7]
  have H1B := Lib.hid x1
  clear x1 hw6 hg7
  have hc := stLay_any L y9 N 1 (some ⟨g7, 0, none⟩) 1 [1] w11 HY.out H1B.out HNM.out.ok HLW.out (by omega)
  rw [HO7.out] at hc
  refine hc.mono ?_
  rintro e w12 ⟨y7, rfl, _, _, b3⟩
  replace HZB := Lib.hid (HZB.out.step b3)
  replace HB := Lib.hid (HB.out.trans (b3.mono HB.out.size))
  replace HP4 := Lib.hid (HP4.out.below b3 HP4.out.lt)
  replace HR5 := Lib.hid (own_below HR5.out b3)
  replace HLW := Lib.hid (Nat.le_trans HLW.out b3.size)
  clear b3 hc HY H1B
  obtain ⟨w13, hw8, b8, z8, xT, xP⟩ := two_al w12 (stC y7 T7) #[.int .i64 ra, .int .u32 (rb : Int), .int .u32 (ri : Int), .int .u32 (rt : Int), .int .u32 (rs : Int)] 30 32
  replace HZB := Lib.hid (HZB.out.step b8)
  replace HB := Lib.hid (HB.out.trans (b8.mono HB.out.size))
  replace HP4 := Lib.hid (HP4.out.below b8 HP4.out.lt)
  replace HR5 := Lib.hid (own_below HR5.out b8)
  replace HLW := Lib.hid (Nat.le_trans HLW.out b8.size)
  simp only [stC] at hw8
  have HW8 := Lib.hid hw8
  clear b8 z8 xT xP hw8
  go_wp2_with fail
  rw [HW8.out]
  clear HW8
  refine (HNEW.out w13).mono ?_
  rintro e w14 ⟨y13, rfl, hy, _, b3⟩
  replace HZB := Lib.hid (HZB.out.step b3)
  replace HB := Lib.hid (HB.out.trans (b3.mono HB.out.size))
  replace HP4 := Lib.hid (HP4.out.below b3 HP4.out.lt)
  replace HR5 := Lib.hid (own_below HR5.out b3)
  replace HLW := Lib.hid (Nat.le_trans HLW.out b3.size)
  have HY := Lib.hid (StP.any (L := L) hy)
  clear hy b3
  have hc := stLook_any L y13 N p0 w14 HY.out HNM.out.ok wf_p0 HLW.out
  rw [HO8.out] at hc
  have HC := Lib.hid hc
  clear hc
  go_wp2_with fail
  refine HC.out.mono ?_
  rintro e w15 ⟨v8, rfl, hv, b3⟩
  simp only at hv
  obtain ⟨a8, c8, rfl⟩ := own_slice hv
  replace HZB := Lib.hid (HZB.out.step b3)
  replace HB := Lib.hid (HB.out.trans (b3.mono HB.out.size))
  replace HP4 := Lib.hid (HP4.out.below b3 HP4.out.lt)
  replace HR5 := Lib.hid (own_below HR5.out b3)
  replace HLW := Lib.hid (Nat.le_trans HLW.out b3.size)
  clear b3 HC HY hv
  go_wp2_with fail
  refine (HNEW.out w15).mono ?_
  rintro e w16 ⟨y15, rfl, hy, _, b3⟩
  replace HZB := Lib.hid (HZB.out.step b3)
  replace HB := Lib.hid (HB.out.trans (b3.mono HB.out.size))
  replace HP4 := Lib.hid (HP4.out.below b3 HP4.out.lt)
  replace HR5 := Lib.hid (own_below HR5.out b3)
  replace HLW := Lib.hid (Nat.le_trans HLW.out b3.size)
  have HY := Lib.hid (StP.any (L := L) hy)
  clear hy b3
  have h9 := Blk.new w16 30 (stC y15 N)
  have c4 := stC4 h9
  have hfx := fun i => h9.frozen i
  clear h9
  go_wp2_with fail
  clear c4 hfx
  have b8 := (Below.refl w16.heap.size w16).alloc (Nat.le_refl _) (.cells #[.slice y15.d.ba N.1.1.length y15.d.bc, .slice y15.d.wa N.1.2.length y15.d.wc, .slice y15.a N.2.1.length y15.c, .int .u32 (N.2.2.1 : Int), .int .u32 65535] 30)
  have x9 := Blk.new w16 30 #[.slice y15.d.ba N.1.1.length y15.d.bc, .slice y15.d.wa N.1.2.length y15.d.wc, .slice y15.a N.2.1.length y15.c, .int .u32 (N.2.2.1 : Int), .int .u32 65535]
  replace HZB := Lib.hid (HZB.out.step b8)
  replace HB := Lib.hid (HB.out.trans (b8.mono HB.out.size))
  replace HP4 := Lib.hid (HP4.out.below b8 HP4.out.lt)
  replace HR5 := Lib.hid (own_below HR5.out b8)
  replace HY := Lib.hid (HY.out.bel b8)
  replace HLW := Lib.hid (Nat.le_trans HLW.out b8.size)
  clear b8
  obtain ⟨w18, hw9⟩ : ∃ X, w16.alloc (.cells #[.slice y15.d.ba N.1.1.length y15.d.bc, .slice y15.d.wa N.1.2.length y15.d.wc, .slice y15.a N.2.1.length y15.c, .int .u32 (N.2.2.1 : Int), .int .u32 65535] 30) = X := ⟨_, rfl⟩
  obtain ⟨g15, hg15⟩ : ∃ X, w16.heap.size = X := ⟨_, rfl⟩
  rw [hw9] at HZB HB HP4 HR5 HY HLW
  rw [hw9, hg15] at x9
  rw [hw9]
  try rw [hg15]
  obtain ⟨T9, hT9⟩ : ∃ T : StL, (N.1, N.2.1, N.2.2.1, 65535) = T := ⟨_, rfl⟩
  have HX9 : Hid (Blk w18 g15 30 (stC y15 T9)) := Lib.hid (by subst hT9; exact x9)
  have HT9 : Hid (StP L w18 y15 T9) := Lib.hid (by subst hT9; exact HY.out)
  have HM9 : Hid (MayS T9 ∧ T9.2.2.2 = 65535) := Lib.hid (by subst hT9; exact ⟨⟨HNM.out.1, HNM.out.2.1, HNM.out.2.2.1, Nat.le_refl _⟩, rfl⟩)
  clear x9 hw9 hg15 hT9 HY
  obtain ⟨⟨T, ⟨pa', pb', pi', pt', ps'⟩, er⟩, ho⟩ : ∃ o, sealO T9 1 K0 Z = o := ⟨_, rfl⟩
  have her := ho.symm.trans (seal_last HM9.out.1 HM9.out.2 HKL.out HZL.out)
  simp only [Prod.mk.injEq] at her
  have HER := Lib.hid her.2.2
  have HO := Lib.hid ho
  clear ho her
  go_cut [16, 17, 18] from 57 to 65 (fun a b c wx => ∃ gA gB, a = .pointer (some ⟨gA, 0, none⟩) ∧ b = .pointer (some ⟨gB, 0, none⟩) ∧ c = .int .i64 (er : Int) ∧ Below w18.heap.size w18 wx)
  case first =>
    obtain ⟨wd, hwd⟩ : ∃ wd, w18.drew = wd := ⟨_, rfl⟩
    have HBd := Lib.hid (show Below w18.heap.size w18 wd by rw [← hwd]; exact (Below.refl _ _).drew)
    have HXd := Lib.hid (HX9.out.below HBd.out HX9.out.lt)
    have HTd := Lib.hid (HT9.out.bel HBd.out)
    have HZd := Lib.hid (HZB.out.step HBd.out)
    have HLD := Lib.hid (Nat.le_trans HLW.out HBd.out.size)
    have HW_ := Lib.hid (Below.refl wd.heap.size wd)
    have HC : Hid (∀ (gk : Nat) (W : World), Below wd.heap.size wd W → Bsl W W.heap.size (some ⟨gk, 0, none⟩) 16 16 K0 → Calls Try.prog 11 #[stV y15 T9, .int .u32 1, .slice (some ⟨gk, 0, none⟩) 16 16, .slice (some ⟨gz, 0, none⟩) 256 256] W (NewSP (T, (pa', pb', pi', pt', ps'), er) W)) := Lib.hid (fun gk W hb hk => by
      have hc := stSeal_any L y15 T9 1 (some ⟨gk, 0, none⟩) 16 K0 (some ⟨gz, 0, none⟩) 256 Z W (HTd.out.bel hb) (by rw [HKL.out]; exact hk) (by rw [HZL.out]; exact HZd.out.step hb) HM9.out.1.ok (Nat.le_trans HLD.out hb.size) (by omega)
      rw [HO.out, HZL.out, HKL.out] at hc
      exact hc)
    have mk_ : ∀ W : World, (Instr.makeSlice 23 (.int .i64 16) (.int .i64 16)).run Try.prog W = .ok (.slice (some ⟨W.heap.size, 0, none⟩) 16 16) (W.alloc (.cells (Array.replicate 16 (.int .u8 0)) 5)) := fun W => make_noughts 16 (by omega) W
    refine wpI_start (Below wd.heap.size wd) [0, 2, 1, 8, 9, 3, 4, 5, 6, 7, 10, 11, 12] hmx rfl hwd ?_
    clear hwd
    iterate 2 (
      refine wpI_read (v := ?_) HW_.out rfl (by kernel_rfl) (by kernel_rfl) (by kernel_rfl) (fun _ _ _ h => h) (.inl ⟨by rfl, ?_⟩) ?_
      rotate_left
      · intro X hX
        have hx := HXd.out.below hX HXd.out.lt
        have c0 := stC0 hx
        have c1 := stC1 hx
        have c2 := stC2 hx
        have c3 := stC3 hx
        have c4 := stC4 hx
        clear hX hx
        go_simp
        with_reducible rfl
      try simp only [Act.put, List.setIfInBounds_toArray, List.set_cons_zero, List.set_cons_succ])
    refine wpI_turn [1, 8, 9, 3, 4, 5, 6, 7, 10, 11, 12] rfl ?_
    refine wpI_fork3 rfl rfl rfl (by kernel_rfl) (fun K hK => ?_) (fun K hK => ?_) (fun K hK => ?_)
    · go_simp
      have bq := (Below.refl wd.heap.size wd).alloc (Nat.le_refl _) (.cells (Array.replicate 16 (.int .u8 0)) 5)
      have xz := noughts_bsl 16 (by omega) wd
      rw [HZN.out] at xz
      obtain ⟨ww1, hn⟩ : ∃ X, wd.alloc (.cells (Array.replicate 16 (.int .u8 0)) 5) = X := ⟨_, rfl⟩
      obtain ⟨gz, hgz⟩ : ∃ X, wd.heap.size = X := ⟨_, rfl⟩
      rw [hn] at bq xz ⊢
      rw [hgz] at xz ⊢
      replace HW_ := Lib.hid (HW_.out.trans (bq.mono HW_.out.size))
      have HZ_ := Lib.hid xz
      refine hK _ _ HW_.out ?_
      clear hK K hn hgz xz bq
      try simp only [Act.put, List.setIfInBounds_toArray, List.set_cons_zero, List.set_cons_succ]
      refine wpI_turn [3, 8, 9, 4, 5, 6, 7, 10, 11, 12] rfl ?_
      refine wpI_fork3 rfl rfl rfl (by kernel_rfl) (fun K hK => ?_) (fun K hK => ?_) (fun K hK => ?_)
      · go_simp
        refine (HC.out gz ww1 HW_.out HZ_.out).mono ?_
        rintro ev ww2 ⟨y, rfl, hy, _, bq⟩
        replace HW_ := Lib.hid (HW_.out.trans (bq.mono HW_.out.size))
        replace HZ_ := Lib.hid (HZ_.out.step bq)
        have HY_ := Lib.hid (StP.any (L := L) hy)
        refine hK _ _ HW_.out ?_
        clear hK K hy bq
        simp only [stV, ptV]
        try simp only [Act.put, List.setIfInBounds_toArray, List.set_cons_zero, List.set_cons_succ]
        refine wpI_turn [4, 5, 6, 7, 8, 9, 10, 11, 12] rfl ?_
        iterate 4 (
          refine wpI_read (v := ?_) HW_.out rfl (by kernel_rfl) (by kernel_rfl) (by kernel_rfl) (fun _ _ _ h => h) (.inl ⟨by rfl, ?_⟩) ?_
          rotate_left
          · intro X hX
            clear hX
            go_simp
            with_reducible rfl
          try simp only [Act.put, List.setIfInBounds_toArray, List.set_cons_zero, List.set_cons_succ])
        refine wpI_turn [8, 9, 10, 11, 12] rfl ?_
        refine wpI_fork rfl rfl (by kernel_rfl) (fun K hK => ?_) (fun K hK => ?_)
        · go_simp
          have bq := (Below.refl ww2.heap.size ww2).alloc (Nat.le_refl _) (.cells #[.slice none 0 0, .slice none 0 0, .slice none 0 0, .int .u32 0, .int .u32 0] 30)
          have hx := Blk.new ww2 30 #[.slice none 0 0, .slice none 0 0, .slice none 0 0, .int .u32 0, .int .u32 0]
          obtain ⟨ww3, hn⟩ : ∃ X, ww2.alloc (.cells #[.slice none 0 0, .slice none 0 0, .slice none 0 0, .int .u32 0, .int .u32 0] 30) = X := ⟨_, rfl⟩
          obtain ⟨gA, hg⟩ : ∃ X, ww2.heap.size = X := ⟨_, rfl⟩
          have HGA := Lib.hid (show wd.heap.size ≤ gA by rw [← hg]; exact HW_.out.size)
          rw [hn] at bq hx ⊢
          rw [hg] at hx ⊢
          replace HW_ := Lib.hid (HW_.out.trans (bq.mono HW_.out.size))
          replace HZ_ := Lib.hid (HZ_.out.step bq)
          replace HY_ := Lib.hid (HY_.out.bel bq)
          have HA_ := Lib.hid hx
          refine hK _ _ HW_.out ?_
          clear hK K hn hg hx bq
          try simp only [Act.put, List.setIfInBounds_toArray, List.set_cons_zero, List.set_cons_succ]
          refine wpI_turn [9, 10, 11, 12] rfl ?_
          refine wpI_lone rfl (by kernel_rfl) (fun K hK => ?_)
          go_simp
          have bq := (Below.refl ww3.heap.size ww3).alloc (Nat.le_refl _) (.cells #[.int .i64 0, .int .u32 0, .int .u32 0, .int .u32 0, .int .u32 0] 32)
          have hx := Blk.new ww3 32 #[.int .i64 0, .int .u32 0, .int .u32 0, .int .u32 0, .int .u32 0]
          obtain ⟨ww4, hn⟩ : ∃ X, ww3.alloc (.cells #[.int .i64 0, .int .u32 0, .int .u32 0, .int .u32 0, .int .u32 0] 32) = X := ⟨_, rfl⟩
          obtain ⟨gB, hg⟩ : ∃ X, ww3.heap.size = X := ⟨_, rfl⟩
          have HGB := Lib.hid (show wd.heap.size ≤ gB by rw [← hg]; exact HW_.out.size)
          rw [hn] at bq hx ⊢
          rw [hg] at hx ⊢
          replace HW_ := Lib.hid (HW_.out.trans (bq.mono HW_.out.size))
          replace HZ_ := Lib.hid (HZ_.out.step bq)
          replace HA_ := Lib.hid (HA_.out.below bq HA_.out.lt)
          replace HY_ := Lib.hid (HY_.out.bel bq)
          have HB_ := Lib.hid hx
          refine hK _ _ HW_.out ?_
          clear hK K hn hg hx bq
          try simp only [Act.put, List.setIfInBounds_toArray, List.set_cons_zero, List.set_cons_succ]
          have HNE := Lib.hid (show gA ≠ gB from HA_.out.ne HB_.out (by decide))
          refine wpI_lone rfl (by kernel_rfl) (fun K hK => ?_)
          have m0 := stZ0 HA_.out
          have m1 := stZ1 HA_.out
          have m2 := stZ2 HA_.out
          have m3 := stZ3 HA_.out
          have m4 := stZ4 HA_.out
          have hfz := fun i => HA_.out.frozen i
          obtain ⟨xa, ka, ba⟩ := box_five (L := L) HA_.out (by decide) (Nat.le_trans HLD.out HGA.out) HW_.out HGA.out (.slice y.d.ba T.1.1.length y.d.bc) (.slice y.d.wa T.1.2.length y.d.wc) (.slice y.a T.2.1.length y.c) (.int .u32 (T.2.2.1 : Int)) (.int .u32 (T.2.2.2 : Int))
          have xo := far5_bl HB_.out (HNE.out.symm) (.slice y.d.ba T.1.1.length y.d.bc) (.slice y.d.wa T.1.2.length y.d.wc) (.slice y.a T.2.1.length y.c) (.int .u32 (T.2.2.1 : Int)) (.int .u32 (T.2.2.2 : Int))
          obtain ⟨ww5, hn⟩ : ∃ X, set5 ww4 gA (.slice y.d.ba T.1.1.length y.d.bc) (.slice y.d.wa T.1.2.length y.d.wc) (.slice y.a T.2.1.length y.c) (.int .u32 (T.2.2.1 : Int)) (.int .u32 (T.2.2.2 : Int)) = X := ⟨_, rfl⟩
          rw [hn] at xa ka ba xo
          simp only [set5] at hn
          go_simp
          replace HW_ := Lib.hid ba
          replace HA_ := Lib.hid xa
          replace HB_ := Lib.hid xo
          replace HY_ := Lib.hid (HY_.out.step ka)
          refine hK _ _ HW_.out ?_
          clear hK K hn xa ka ba xo hfz m0 m1 m2 m3 m4
          try simp only [Act.put, List.setIfInBounds_toArray, List.set_cons_zero, List.set_cons_succ]
          refine wpI_lone rfl (by kernel_rfl) (fun K hK => ?_)
          have m0 := ptZ0 HB_.out
          have m1 := ptZ1 HB_.out
          have m2 := ptZ2 HB_.out
          have m3 := ptZ3 HB_.out
          have m4 := ptZ4 HB_.out
          have hfz := fun i => HB_.out.frozen i
          obtain ⟨xa, ka, ba⟩ := box_five (L := L) HB_.out (by decide) (Nat.le_trans HLD.out HGB.out) HW_.out HGB.out (.int .i64 pa') (.int .u32 (pb' : Int)) (.int .u32 (pi' : Int)) (.int .u32 (pt' : Int)) (.int .u32 (ps' : Int))
          have xo := far5_bl HA_.out HNE.out (.int .i64 pa') (.int .u32 (pb' : Int)) (.int .u32 (pi' : Int)) (.int .u32 (pt' : Int)) (.int .u32 (ps' : Int))
          obtain ⟨ww6, hn⟩ : ∃ X, set5 ww5 gB (.int .i64 pa') (.int .u32 (pb' : Int)) (.int .u32 (pi' : Int)) (.int .u32 (pt' : Int)) (.int .u32 (ps' : Int)) = X := ⟨_, rfl⟩
          rw [hn] at xa ka ba xo
          simp only [set5] at hn
          go_simp
          replace HW_ := Lib.hid ba
          replace HB_ := Lib.hid xa
          replace HA_ := Lib.hid xo
          replace HY_ := Lib.hid (HY_.out.step ka)
          refine hK _ _ HW_.out ?_
          clear hK K hn xa ka ba xo hfz m0 m1 m2 m3 m4
          try simp only [Act.put, List.setIfInBounds_toArray, List.set_cons_zero, List.set_cons_succ]
          iterate 1 (
            refine wpI_read (v := ?_) HW_.out rfl (by kernel_rfl) (by kernel_rfl) (by kernel_rfl) (fun _ _ _ h => h) (.inl ⟨by rfl, ?_⟩) ?_
            rotate_left
            · intro X hX
              clear hX
              go_simp
              with_reducible rfl
            try simp only [Act.put, List.setIfInBounds_toArray, List.set_cons_zero, List.set_cons_succ])
          refine wpI_done (by kernel_rfl) ?_
          go_wp2_with fail
          go_meet
          exact ⟨gA, gB, rfl, rfl, rfl, HBd.out.trans (HW_.out.mono HBd.out.size)⟩

        · go_simp
          have bq := (Below.refl ww2.heap.size ww2).alloc (Nat.le_refl _) (.cells #[.int .i64 0, .int .u32 0, .int .u32 0, .int .u32 0, .int .u32 0] 32)
          have hx := Blk.new ww2 32 #[.int .i64 0, .int .u32 0, .int .u32 0, .int .u32 0, .int .u32 0]
          obtain ⟨ww3, hn⟩ : ∃ X, ww2.alloc (.cells #[.int .i64 0, .int .u32 0, .int .u32 0, .int .u32 0, .int .u32 0] 32) = X := ⟨_, rfl⟩
          obtain ⟨gB, hg⟩ : ∃ X, ww2.heap.size = X := ⟨_, rfl⟩
          have HGB := Lib.hid (show wd.heap.size ≤ gB by rw [← hg]; exact HW_.out.size)
          rw [hn] at bq hx ⊢
          rw [hg] at hx ⊢
          replace HW_ := Lib.hid (HW_.out.trans (bq.mono HW_.out.size))
          replace HZ_ := Lib.hid (HZ_.out.step bq)
          replace HY_ := Lib.hid (HY_.out.bel bq)
          have HB_ := Lib.hid hx
          refine hK _ _ HW_.out ?_
          clear hK K hn hg hx bq
          try simp only [Act.put, List.setIfInBounds_toArray, List.set_cons_zero, List.set_cons_succ]
          refine wpI_turn [8, 10, 11, 12] rfl ?_
          refine wpI_lone rfl (by kernel_rfl) (fun K hK => ?_)
          go_simp
          have bq := (Below.refl ww3.heap.size ww3).alloc (Nat.le_refl _) (.cells #[.slice none 0 0, .slice none 0 0, .slice none 0 0, .int .u32 0, .int .u32 0] 30)
          have hx := Blk.new ww3 30 #[.slice none 0 0, .slice none 0 0, .slice none 0 0, .int .u32 0, .int .u32 0]
          obtain ⟨ww4, hn⟩ : ∃ X, ww3.alloc (.cells #[.slice none 0 0, .slice none 0 0, .slice none 0 0, .int .u32 0, .int .u32 0] 30) = X := ⟨_, rfl⟩
          obtain ⟨gA, hg⟩ : ∃ X, ww3.heap.size = X := ⟨_, rfl⟩
          have HGA := Lib.hid (show wd.heap.size ≤ gA by rw [← hg]; exact HW_.out.size)
          rw [hn] at bq hx ⊢
          rw [hg] at hx ⊢
          replace HW_ := Lib.hid (HW_.out.trans (bq.mono HW_.out.size))
          replace HZ_ := Lib.hid (HZ_.out.step bq)
          replace HB_ := Lib.hid (HB_.out.below bq HB_.out.lt)
          replace HY_ := Lib.hid (HY_.out.bel bq)
          have HA_ := Lib.hid hx
          refine hK _ _ HW_.out ?_
          clear hK K hn hg hx bq
          try simp only [Act.put, List.setIfInBounds_toArray, List.set_cons_zero, List.set_cons_succ]
          have HNE := Lib.hid (show gA ≠ gB from HA_.out.ne HB_.out (by decide))
          refine wpI_lone rfl (by kernel_rfl) (fun K hK => ?_)
          have m0 := stZ0 HA_.out
          have m1 := stZ1 HA_.out
          have m2 := stZ2 HA_.out
          have m3 := stZ3 HA_.out
          have m4 := stZ4 HA_.out
          have hfz := fun i => HA_.out.frozen i
          obtain ⟨xa, ka, ba⟩ := box_five (L := L) HA_.out (by decide) (Nat.le_trans HLD.out HGA.out) HW_.out HGA.out (.slice y.d.ba T.1.1.length y.d.bc) (.slice y.d.wa T.1.2.length y.d.wc) (.slice y.a T.2.1.length y.c) (.int .u32 (T.2.2.1 : Int)) (.int .u32 (T.2.2.2 : Int))
          have xo := far5_bl HB_.out (HNE.out.symm) (.slice y.d.ba T.1.1.length y.d.bc) (.slice y.d.wa T.1.2.length y.d.wc) (.slice y.a T.2.1.length y.c) (.int .u32 (T.2.2.1 : Int)) (.int .u32 (T.2.2.2 : Int))
          obtain ⟨ww5, hn⟩ : ∃ X, set5 ww4 gA (.slice y.d.ba T.1.1.length y.d.bc) (.slice y.d.wa T.1.2.length y.d.wc) (.slice y.a T.2.1.length y.c) (.int .u32 (T.2.2.1 : Int)) (.int .u32 (T.2.2.2 : Int)) = X := ⟨_, rfl⟩
          rw [hn] at xa ka ba xo
          simp only [set5] at hn
          go_simp
          replace HW_ := Lib.hid ba
          replace HA_ := Lib.hid xa
          replace HB_ := Lib.hid xo
          replace HY_ := Lib.hid (HY_.out.step ka)
          refine hK _ _ HW_.out ?_
          clear hK K hn xa ka ba xo hfz m0 m1 m2 m3 m4
          try simp only [Act.put, List.setIfInBounds_toArray, List.set_cons_zero, List.set_cons_succ]
          refine wpI_lone rfl (by kernel_rfl) (fun K hK => ?_)
          have m0 := ptZ0 HB_.out
          have m1 := ptZ1 HB_.out
          have m2 := ptZ2 HB_.out
          have m3 := ptZ3 HB_.out
          have m4 := ptZ4 HB_.out
          have hfz := fun i => HB_.out.frozen i
          obtain ⟨xa, ka, ba⟩ := box_five (L := L) HB_.out (by decide) (Nat.le_trans HLD.out HGB.out) HW_.out HGB.out (.int .i64 pa') (.int .u32 (pb' : Int)) (.int .u32 (pi' : Int)) (.int .u32 (pt' : Int)) (.int .u32 (ps' : Int))
          have xo := far5_bl HA_.out HNE.out (.int .i64 pa') (.int .u32 (pb' : Int)) (.int .u32 (pi' : Int)) (.int .u32 (pt' : Int)) (.int .u32 (ps' : Int))
          obtain ⟨ww6, hn⟩ : ∃ X, set5 ww5 gB (.int .i64 pa') (.int .u32 (pb' : Int)) (.int .u32 (pi' : Int)) (.int .u32 (pt' : Int)) (.int .u32 (ps' : Int)) = X := ⟨_, rfl⟩
          rw [hn] at xa ka ba xo
          simp only [set5] at hn
          go_simp
          replace HW_ := Lib.hid ba
          replace HB_ := Lib.hid xa
          replace HA_ := Lib.hid xo
          replace HY_ := Lib.hid (HY_.out.step ka)
          refine hK _ _ HW_.out ?_
          clear hK K hn xa ka ba xo hfz m0 m1 m2 m3 m4
          try simp only [Act.put, List.setIfInBounds_toArray, List.set_cons_zero, List.set_cons_succ]
          iterate 1 (
            refine wpI_read (v := ?_) HW_.out rfl (by kernel_rfl) (by kernel_rfl) (by kernel_rfl) (fun _ _ _ h => h) (.inl ⟨by rfl, ?_⟩) ?_
            rotate_left
            · intro X hX
              clear hX
              go_simp
              with_reducible rfl
            try simp only [Act.put, List.setIfInBounds_toArray, List.set_cons_zero, List.set_cons_succ])
          refine wpI_done (by kernel_rfl) ?_
          go_wp2_with fail
          go_meet
          exact ⟨gA, gB, rfl, rfl, rfl, HBd.out.trans (HW_.out.mono HBd.out.size)⟩

      · go_simp
        have bq := (Below.refl ww1.heap.size ww1).alloc (Nat.le_refl _) (.cells #[.slice none 0 0, .slice none 0 0, .slice none 0 0, .int .u32 0, .int .u32 0] 30)
        have hx := Blk.new ww1 30 #[.slice none 0 0, .slice none 0 0, .slice none 0 0, .int .u32 0, .int .u32 0]
        obtain ⟨ww2, hn⟩ : ∃ X, ww1.alloc (.cells #[.slice none 0 0, .slice none 0 0, .slice none 0 0, .int .u32 0, .int .u32 0] 30) = X := ⟨_, rfl⟩
        obtain ⟨gA, hg⟩ : ∃ X, ww1.heap.size = X := ⟨_, rfl⟩
        have HGA := Lib.hid (show wd.heap.size ≤ gA by rw [← hg]; exact HW_.out.size)
        rw [hn] at bq hx ⊢
        rw [hg] at hx ⊢
        replace HW_ := Lib.hid (HW_.out.trans (bq.mono HW_.out.size))
        replace HZ_ := Lib.hid (HZ_.out.step bq)
        have HA_ := Lib.hid hx
        refine hK _ _ HW_.out ?_
        clear hK K hn hg hx bq
        try simp only [Act.put, List.setIfInBounds_toArray, List.set_cons_zero, List.set_cons_succ]
        refine wpI_turn [3, 9, 4, 5, 6, 7, 10, 11, 12] rfl ?_
        refine wpI_fork rfl rfl (by kernel_rfl) (fun K hK => ?_) (fun K hK => ?_)
        · go_simp
          refine (HC.out gz ww2 HW_.out HZ_.out).mono ?_
          rintro ev ww3 ⟨y, rfl, hy, _, bq⟩
          replace HW_ := Lib.hid (HW_.out.trans (bq.mono HW_.out.size))
          replace HZ_ := Lib.hid (HZ_.out.step bq)
          replace HA_ := Lib.hid (HA_.out.below bq HA_.out.lt)
          have HY_ := Lib.hid (StP.any (L := L) hy)
          refine hK _ _ HW_.out ?_
          clear hK K hy bq
          simp only [stV, ptV]
          try simp only [Act.put, List.setIfInBounds_toArray, List.set_cons_zero, List.set_cons_succ]
          refine wpI_turn [4, 5, 6, 7, 9, 10, 11, 12] rfl ?_
          iterate 4 (
            refine wpI_read (v := ?_) HW_.out rfl (by kernel_rfl) (by kernel_rfl) (by kernel_rfl) (fun _ _ _ h => h) (.inl ⟨by rfl, ?_⟩) ?_
            rotate_left
            · intro X hX
              clear hX
              go_simp
              with_reducible rfl
            try simp only [Act.put, List.setIfInBounds_toArray, List.set_cons_zero, List.set_cons_succ])
          refine wpI_turn [9, 10, 11, 12] rfl ?_
          refine wpI_lone rfl (by kernel_rfl) (fun K hK => ?_)
          go_simp
          have bq := (Below.refl ww3.heap.size ww3).alloc (Nat.le_refl _) (.cells #[.int .i64 0, .int .u32 0, .int .u32 0, .int .u32 0, .int .u32 0] 32)
          have hx := Blk.new ww3 32 #[.int .i64 0, .int .u32 0, .int .u32 0, .int .u32 0, .int .u32 0]
          obtain ⟨ww4, hn⟩ : ∃ X, ww3.alloc (.cells #[.int .i64 0, .int .u32 0, .int .u32 0, .int .u32 0, .int .u32 0] 32) = X := ⟨_, rfl⟩
          obtain ⟨gB, hg⟩ : ∃ X, ww3.heap.size = X := ⟨_, rfl⟩
          have HGB := Lib.hid (show wd.heap.size ≤ gB by rw [← hg]; exact HW_.out.size)
          rw [hn] at bq hx ⊢
          rw [hg] at hx ⊢
          replace HW_ := Lib.hid (HW_.out.trans (bq.mono HW_.out.size))
          replace HZ_ := Lib.hid (HZ_.out.step bq)
          replace HA_ := Lib.hid (HA_.out.below bq HA_.out.lt)
          replace HY_ := Lib.hid (HY_.out.bel bq)
          have HB_ := Lib.hid hx
          refine hK _ _ HW_.out ?_
          clear hK K hn hg hx bq
          try simp only [Act.put, List.setIfInBounds_toArray, List.set_cons_zero, List.set_cons_succ]
          have HNE := Lib.hid (show gA ≠ gB from HA_.out.ne HB_.out (by decide))
          refine wpI_lone rfl (by kernel_rfl) (fun K hK => ?_)
          have m0 := stZ0 HA_.out
          have m1 := stZ1 HA_.out
          have m2 := stZ2 HA_.out
          have m3 := stZ3 HA_.out
          have m4 := stZ4 HA_.out
          have hfz := fun i => HA_.out.frozen i
          obtain ⟨xa, ka, ba⟩ := box_five (L := L) HA_.out (by decide) (Nat.le_trans HLD.out HGA.out) HW_.out HGA.out (.slice y.d.ba T.1.1.length y.d.bc) (.slice y.d.wa T.1.2.length y.d.wc) (.slice y.a T.2.1.length y.c) (.int .u32 (T.2.2.1 : Int)) (.int .u32 (T.2.2.2 : Int))
          have xo := far5_bl HB_.out (HNE.out.symm) (.slice y.d.ba T.1.1.length y.d.bc) (.slice y.d.wa T.1.2.length y.d.wc) (.slice y.a T.2.1.length y.c) (.int .u32 (T.2.2.1 : Int)) (.int .u32 (T.2.2.2 : Int))
          obtain ⟨ww5, hn⟩ : ∃ X, set5 ww4 gA (.slice y.d.ba T.1.1.length y.d.bc) (.slice y.d.wa T.1.2.length y.d.wc) (.slice y.a T.2.1.length y.c) (.int .u32 (T.2.2.1 : Int)) (.int .u32 (T.2.2.2 : Int)) = X := ⟨_, rfl⟩
          rw [hn] at xa ka ba xo
          simp only [set5] at hn
          go_simp
          replace HW_ := Lib.hid ba
          replace HA_ := Lib.hid xa
          replace HB_ := Lib.hid xo
          replace HY_ := Lib.hid (HY_.out.step ka)
          refine hK _ _ HW_.out ?_
          clear hK K hn xa ka ba xo hfz m0 m1 m2 m3 m4
          try simp only [Act.put, List.setIfInBounds_toArray, List.set_cons_zero, List.set_cons_succ]
          refine wpI_lone rfl (by kernel_rfl) (fun K hK => ?_)
          have m0 := ptZ0 HB_.out
          have m1 := ptZ1 HB_.out
          have m2 := ptZ2 HB_.out
          have m3 := ptZ3 HB_.out
          have m4 := ptZ4 HB_.out
          have hfz := fun i => HB_.out.frozen i
          obtain ⟨xa, ka, ba⟩ := box_five (L := L) HB_.out (by decide) (Nat.le_trans HLD.out HGB.out) HW_.out HGB.out (.int .i64 pa') (.int .u32 (pb' : Int)) (.int .u32 (pi' : Int)) (.int .u32 (pt' : Int)) (.int .u32 (ps' : Int))
          have xo := far5_bl HA_.out HNE.out (.int .i64 pa') (.int .u32 (pb' : Int)) (.int .u32 (pi' : Int)) (.int .u32 (pt' : Int)) (.int .u32 (ps' : Int))
          obtain ⟨ww6, hn⟩ : ∃ X, set5 ww5 gB (.int .i64 pa') (.int .u32 (pb' : Int)) (.int .u32 (pi' : Int)) (.int .u32 (pt' : Int)) (.int .u32 (ps' : Int)) = X := ⟨_, rfl⟩
          rw [hn] at xa ka ba xo
          simp only [set5] at hn
          go_simp
          replace HW_ := Lib.hid ba
          replace HB_ := Lib.hid xa
          replace HA_ := Lib.hid xo
          replace HY_ := Lib.hid (HY_.out.step ka)
          refine hK _ _ HW_.out ?_
          clear hK K hn xa ka ba xo hfz m0 m1 m2 m3 m4
          try simp only [Act.put, List.setIfInBounds_toArray, List.set_cons_zero, List.set_cons_succ]
          iterate 1 (
            refine wpI_read (v := ?_) HW_.out rfl (by kernel_rfl) (by kernel_rfl) (by kernel_rfl) (fun _ _ _ h => h) (.inl ⟨by rfl, ?_⟩) ?_
            rotate_left
            · intro X hX
              clear hX
              go_simp
              with_reducible rfl
            try simp only [Act.put, List.setIfInBounds_toArray, List.set_cons_zero, List.set_cons_succ])
          refine wpI_done (by kernel_rfl) ?_
          go_wp2_with fail
          go_meet
          exact ⟨gA, gB, rfl, rfl, rfl, HBd.out.trans (HW_.out.mono HBd.out.size)⟩

        · go_simp
          have bq := (Below.refl ww2.heap.size ww2).alloc (Nat.le_refl _) (.cells #[.int .i64 0, .int .u32 0, .int .u32 0, .int .u32 0, .int .u32 0] 32)
          have hx := Blk.new ww2 32 #[.int .i64 0, .int .u32 0, .int .u32 0, .int .u32 0, .int .u32 0]
          obtain ⟨ww3, hn⟩ : ∃ X, ww2.alloc (.cells #[.int .i64 0, .int .u32 0, .int .u32 0, .int .u32 0, .int .u32 0] 32) = X := ⟨_, rfl⟩
          obtain ⟨gB, hg⟩ : ∃ X, ww2.heap.size = X := ⟨_, rfl⟩
          have HGB := Lib.hid (show wd.heap.size ≤ gB by rw [← hg]; exact HW_.out.size)
          rw [hn] at bq hx ⊢
          rw [hg] at hx ⊢
          replace HW_ := Lib.hid (HW_.out.trans (bq.mono HW_.out.size))
          replace HZ_ := Lib.hid (HZ_.out.step bq)
          replace HA_ := Lib.hid (HA_.out.below bq HA_.out.lt)
          have HB_ := Lib.hid hx
          refine hK _ _ HW_.out ?_
          clear hK K hn hg hx bq
          try simp only [Act.put, List.setIfInBounds_toArray, List.set_cons_zero, List.set_cons_succ]
          refine wpI_turn [3, 4, 5, 6, 7, 10, 11, 12] rfl ?_
          refine wpI_lone rfl (by kernel_rfl) (fun K hK => ?_)
          go_simp
          refine (HC.out gz ww3 HW_.out HZ_.out).mono ?_
          rintro ev ww4 ⟨y, rfl, hy, _, bq⟩
          replace HW_ := Lib.hid (HW_.out.trans (bq.mono HW_.out.size))
          replace HZ_ := Lib.hid (HZ_.out.step bq)
          replace HA_ := Lib.hid (HA_.out.below bq HA_.out.lt)
          replace HB_ := Lib.hid (HB_.out.below bq HB_.out.lt)
          have HY_ := Lib.hid (StP.any (L := L) hy)
          refine hK _ _ HW_.out ?_
          clear hK K hy bq
          simp only [stV, ptV]
          try simp only [Act.put, List.setIfInBounds_toArray, List.set_cons_zero, List.set_cons_succ]
          iterate 4 (
            refine wpI_read (v := ?_) HW_.out rfl (by kernel_rfl) (by kernel_rfl) (by kernel_rfl) (fun _ _ _ h => h) (.inl ⟨by rfl, ?_⟩) ?_
            rotate_left
            · intro X hX
              clear hX
              go_simp
              with_reducible rfl
            try simp only [Act.put, List.setIfInBounds_toArray, List.set_cons_zero, List.set_cons_succ])
          have HNE := Lib.hid (show gA ≠ gB from HA_.out.ne HB_.out (by decide))
          refine wpI_lone rfl (by kernel_rfl) (fun K hK => ?_)
          have m0 := stZ0 HA_.out
          have m1 := stZ1 HA_.out
          have m2 := stZ2 HA_.out
          have m3 := stZ3 HA_.out
          have m4 := stZ4 HA_.out
          have hfz := fun i => HA_.out.frozen i
          obtain ⟨xa, ka, ba⟩ := box_five (L := L) HA_.out (by decide) (Nat.le_trans HLD.out HGA.out) HW_.out HGA.out (.slice y.d.ba T.1.1.length y.d.bc) (.slice y.d.wa T.1.2.length y.d.wc) (.slice y.a T.2.1.length y.c) (.int .u32 (T.2.2.1 : Int)) (.int .u32 (T.2.2.2 : Int))
          have xo := far5_bl HB_.out (HNE.out.symm) (.slice y.d.ba T.1.1.length y.d.bc) (.slice y.d.wa T.1.2.length y.d.wc) (.slice y.a T.2.1.length y.c) (.int .u32 (T.2.2.1 : Int)) (.int .u32 (T.2.2.2 : Int))
          obtain ⟨ww5, hn⟩ : ∃ X, set5 ww4 gA (.slice y.d.ba T.1.1.length y.d.bc) (.slice y.d.wa T.1.2.length y.d.wc) (.slice y.a T.2.1.length y.c) (.int .u32 (T.2.2.1 : Int)) (.int .u32 (T.2.2.2 : Int)) = X := ⟨_, rfl⟩
          rw [hn] at xa ka ba xo
          simp only [set5] at hn
          go_simp
          replace HW_ := Lib.hid ba
          replace HA_ := Lib.hid xa
          replace HB_ := Lib.hid xo
          replace HY_ := Lib.hid (HY_.out.step ka)
          refine hK _ _ HW_.out ?_
          clear hK K hn xa ka ba xo hfz m0 m1 m2 m3 m4
          try simp only [Act.put, List.setIfInBounds_toArray, List.set_cons_zero, List.set_cons_succ]
          refine wpI_lone rfl (by kernel_rfl) (fun K hK => ?_)
          have m0 := ptZ0 HB_.out
          have m1 := ptZ1 HB_.out
          have m2 := ptZ2 HB_.out
          have m3 := ptZ3 HB_.out
          have m4 := ptZ4 HB_.out
          have hfz := fun i => HB_.out.frozen i
          obtain ⟨xa, ka, ba⟩ := box_five (L := L) HB_.out (by decide) (Nat.le_trans HLD.out HGB.out) HW_.out HGB.out (.int .i64 pa') (.int .u32 (pb' : Int)) (.int .u32 (pi' : Int)) (.int .u32 (pt' : Int)) (.int .u32 (ps' : Int))
          have xo := far5_bl HA_.out HNE.out (.int .i64 pa') (.int .u32 (pb' : Int)) (.int .u32 (pi' : Int)) (.int .u32 (pt' : Int)) (.int .u32 (ps' : Int))
          obtain ⟨ww6, hn⟩ : ∃ X, set5 ww5 gB (.int .i64 pa') (.int .u32 (pb' : Int)) (.int .u32 (pi' : Int)) (.int .u32 (pt' : Int)) (.int .u32 (ps' : Int)) = X := ⟨_, rfl⟩
          rw [hn] at xa ka ba xo
          simp only [set5] at hn
          go_simp
          replace HW_ := Lib.hid ba
          replace HB_ := Lib.hid xa
          replace HA_ := Lib.hid xo
          replace HY_ := Lib.hid (HY_.out.step ka)
          refine hK _ _ HW_.out ?_
          clear hK K hn xa ka ba xo hfz m0 m1 m2 m3 m4
          try simp only [Act.put, List.setIfInBounds_toArray, List.set_cons_zero, List.set_cons_succ]
          iterate 1 (
            refine wpI_read (v := ?_) HW_.out rfl (by kernel_rfl) (by kernel_rfl) (by kernel_rfl) (fun _ _ _ h => h) (.inl ⟨by rfl, ?_⟩) ?_
            rotate_left
            · intro X hX
              clear hX
              go_simp
              with_reducible rfl
            try simp only [Act.put, List.setIfInBounds_toArray, List.set_cons_zero, List.set_cons_succ])
          refine wpI_done (by kernel_rfl) ?_
          go_wp2_with fail
          go_meet
          exact ⟨gA, gB, rfl, rfl, rfl, HBd.out.trans (HW_.out.mono HBd.out.size)⟩

      · go_simp
        have bq := (Below.refl ww1.heap.size ww1).alloc (Nat.le_refl _) (.cells #[.int .i64 0, .int .u32 0, .int .u32 0, .int .u32 0, .int .u32 0] 32)
        have hx := Blk.new ww1 32 #[.int .i64 0, .int .u32 0, .int .u32 0, .int .u32 0, .int .u32 0]
        obtain ⟨ww2, hn⟩ : ∃ X, ww1.alloc (.cells #[.int .i64 0, .int .u32 0, .int .u32 0, .int .u32 0, .int .u32 0] 32) = X := ⟨_, rfl⟩
        obtain ⟨gB, hg⟩ : ∃ X, ww1.heap.size = X := ⟨_, rfl⟩
        have HGB := Lib.hid (show wd.heap.size ≤ gB by rw [← hg]; exact HW_.out.size)
        rw [hn] at bq hx ⊢
        rw [hg] at hx ⊢
        replace HW_ := Lib.hid (HW_.out.trans (bq.mono HW_.out.size))
        replace HZ_ := Lib.hid (HZ_.out.step bq)
        have HB_ := Lib.hid hx
        refine hK _ _ HW_.out ?_
        clear hK K hn hg hx bq
        try simp only [Act.put, List.setIfInBounds_toArray, List.set_cons_zero, List.set_cons_succ]
        refine wpI_turn [3, 8, 4, 5, 6, 7, 10, 11, 12] rfl ?_
        refine wpI_fork rfl rfl (by kernel_rfl) (fun K hK => ?_) (fun K hK => ?_)
        · go_simp
          refine (HC.out gz ww2 HW_.out HZ_.out).mono ?_
          rintro ev ww3 ⟨y, rfl, hy, _, bq⟩
          replace HW_ := Lib.hid (HW_.out.trans (bq.mono HW_.out.size))
          replace HZ_ := Lib.hid (HZ_.out.step bq)
          replace HB_ := Lib.hid (HB_.out.below bq HB_.out.lt)
          have HY_ := Lib.hid (StP.any (L := L) hy)
          refine hK _ _ HW_.out ?_
          clear hK K hy bq
          simp only [stV, ptV]
          try simp only [Act.put, List.setIfInBounds_toArray, List.set_cons_zero, List.set_cons_succ]
          refine wpI_turn [4, 5, 6, 7, 8, 10, 11, 12] rfl ?_
          iterate 4 (
            refine wpI_read (v := ?_) HW_.out rfl (by kernel_rfl) (by kernel_rfl) (by kernel_rfl) (fun _ _ _ h => h) (.inl ⟨by rfl, ?_⟩) ?_
            rotate_left
            · intro X hX
              clear hX
              go_simp
              with_reducible rfl
            try simp only [Act.put, List.setIfInBounds_toArray, List.set_cons_zero, List.set_cons_succ])
          refine wpI_turn [8, 10, 11, 12] rfl ?_
          refine wpI_lone rfl (by kernel_rfl) (fun K hK => ?_)
          go_simp
          have bq := (Below.refl ww3.heap.size ww3).alloc (Nat.le_refl _) (.cells #[.slice none 0 0, .slice none 0 0, .slice none 0 0, .int .u32 0, .int .u32 0] 30)
          have hx := Blk.new ww3 30 #[.slice none 0 0, .slice none 0 0, .slice none 0 0, .int .u32 0, .int .u32 0]
          obtain ⟨ww4, hn⟩ : ∃ X, ww3.alloc (.cells #[.slice none 0 0, .slice none 0 0, .slice none 0 0, .int .u32 0, .int .u32 0] 30) = X := ⟨_, rfl⟩
          obtain ⟨gA, hg⟩ : ∃ X, ww3.heap.size = X := ⟨_, rfl⟩
          have HGA := Lib.hid (show wd.heap.size ≤ gA by rw [← hg]; exact HW_.out.size)
          rw [hn] at bq hx ⊢
          rw [hg] at hx ⊢
          replace HW_ := Lib.hid (HW_.out.trans (bq.mono HW_.out.size))
          replace HZ_ := Lib.hid (HZ_.out.step bq)
          replace HB_ := Lib.hid (HB_.out.below bq HB_.out.lt)
          replace HY_ := Lib.hid (HY_.out.bel bq)
          have HA_ := Lib.hid hx
          refine hK _ _ HW_.out ?_
          clear hK K hn hg hx bq
          try simp only [Act.put, List.setIfInBounds_toArray, List.set_cons_zero, List.set_cons_succ]
          have HNE := Lib.hid (show gA ≠ gB from HA_.out.ne HB_.out (by decide))
          refine wpI_lone rfl (by kernel_rfl) (fun K hK => ?_)
          have m0 := stZ0 HA_.out
          have m1 := stZ1 HA_.out
          have m2 := stZ2 HA_.out
          have m3 := stZ3 HA_.out
          have m4 := stZ4 HA_.out
          have hfz := fun i => HA_.out.frozen i
          obtain ⟨xa, ka, ba⟩ := box_five (L := L) HA_.out (by decide) (Nat.le_trans HLD.out HGA.out) HW_.out HGA.out (.slice y.d.ba T.1.1.length y.d.bc) (.slice y.d.wa T.1.2.length y.d.wc) (.slice y.a T.2.1.length y.c) (.int .u32 (T.2.2.1 : Int)) (.int .u32 (T.2.2.2 : Int))
          have xo := far5_bl HB_.out (HNE.out.symm) (.slice y.d.ba T.1.1.length y.d.bc) (.slice y.d.wa T.1.2.length y.d.wc) (.slice y.a T.2.1.length y.c) (.int .u32 (T.2.2.1 : Int)) (.int .u32 (T.2.2.2 : Int))
          obtain ⟨ww5, hn⟩ : ∃ X, set5 ww4 gA (.slice y.d.ba T.1.1.length y.d.bc) (.slice y.d.wa T.1.2.length y.d.wc) (.slice y.a T.2.1.length y.c) (.int .u32 (T.2.2.1 : Int)) (.int .u32 (T.2.2.2 : Int)) = X := ⟨_, rfl⟩
          rw [hn] at xa ka ba xo
          simp only [set5] at hn
          go_simp
          replace HW_ := Lib.hid ba
          replace HA_ := Lib.hid xa
          replace HB_ := Lib.hid xo
          replace HY_ := Lib.hid (HY_.out.step ka)
          refine hK _ _ HW_.out ?_
          clear hK K hn xa ka ba xo hfz m0 m1 m2 m3 m4
          try simp only [Act.put, List.setIfInBounds_toArray, List.set_cons_zero, List.set_cons_succ]
          refine wpI_lone rfl (by kernel_rfl) (fun K hK => ?_)
          have m0 := ptZ0 HB_.out
          have m1 := ptZ1 HB_.out
          have m2 := ptZ2 HB_.out
          have m3 := ptZ3 HB_.out
          have m4 := ptZ4 HB_.out
          have hfz := fun i => HB_.out.frozen i
          obtain ⟨xa, ka, ba⟩ := box_five (L := L) HB_.out (by decide) (Nat.le_trans HLD.out HGB.out) HW_.out HGB.out (.int .i64 pa') (.int .u32 (pb' : Int)) (.int .u32 (pi' : Int)) (.int .u32 (pt' : Int)) (.int .u32 (ps' : Int))
          have xo := far5_bl HA_.out HNE.out (.int .i64 pa') (.int .u32 (pb' : Int)) (.int .u32 (pi' : Int)) (.int .u32 (pt' : Int)) (.int .u32 (ps' : Int))
          obtain ⟨ww6, hn⟩ : ∃ X, set5 ww5 gB (.int .i64 pa') (.int .u32 (pb' : Int)) (.int .u32 (pi' : Int)) (.int .u32 (pt' : Int)) (.int .u32 (ps' : Int)) = X := ⟨_, rfl⟩
          rw [hn] at xa ka ba xo
          simp only [set5] at hn
          go_simp
          replace HW_ := Lib.hid ba
          replace HB_ := Lib.hid xa
          replace HA_ := Lib.hid xo
          replace HY_ := Lib.hid (HY_.out.step ka)
          refine hK _ _ HW_.out ?_
          clear hK K hn xa ka ba xo hfz m0 m1 m2 m3 m4
          try simp only [Act.put, List.setIfInBounds_toArray, List.set_cons_zero, List.set_cons_succ]
          iterate 1 (
            refine wpI_read (v := ?_) HW_.out rfl (by kernel_rfl) (by kernel_rfl) (by kernel_rfl) (fun _ _ _ h => h) (.inl ⟨by rfl, ?_⟩) ?_
            rotate_left
            · intro X hX
              clear hX
              go_simp
              with_reducible rfl
            try simp only [Act.put, List.setIfInBounds_toArray, List.set_cons_zero, List.set_cons_succ])
          refine wpI_done (by kernel_rfl) ?_
          go_wp2_with fail
          go_meet
          exact ⟨gA, gB, rfl, rfl, rfl, HBd.out.trans (HW_.out.mono HBd.out.size)⟩

        · go_simp
          have bq := (Below.refl ww2.heap.size ww2).alloc (Nat.le_refl _) (.cells #[.slice none 0 0, .slice none 0 0, .slice none 0 0, .int .u32 0, .int .u32 0] 30)
          have hx := Blk.new ww2 30 #[.slice none 0 0, .slice none 0 0, .slice none 0 0, .int .u32 0, .int .u32 0]
          obtain ⟨ww3, hn⟩ : ∃ X, ww2.alloc (.cells #[.slice none 0 0, .slice none 0 0, .slice none 0 0, .int .u32 0, .int .u32 0] 30) = X := ⟨_, rfl⟩
          obtain ⟨gA, hg⟩ : ∃ X, ww2.heap.size = X := ⟨_, rfl⟩
          have HGA := Lib.hid (show wd.heap.size ≤ gA by rw [← hg]; exact HW_.out.size)
          rw [hn] at bq hx ⊢
          rw [hg] at hx ⊢
          replace HW_ := Lib.hid (HW_.out.trans (bq.mono HW_.out.size))
          replace HZ_ := Lib.hid (HZ_.out.step bq)
          replace HB_ := Lib.hid (HB_.out.below bq HB_.out.lt)
          have HA_ := Lib.hid hx
          refine hK _ _ HW_.out ?_
          clear hK K hn hg hx bq
          try simp only [Act.put, List.setIfInBounds_toArray, List.set_cons_zero, List.set_cons_succ]
          refine wpI_turn [3, 4, 5, 6, 7, 10, 11, 12] rfl ?_
          refine wpI_lone rfl (by kernel_rfl) (fun K hK => ?_)
          go_simp
          refine (HC.out gz ww3 HW_.out HZ_.out).mono ?_
          rintro ev ww4 ⟨y, rfl, hy, _, bq⟩
          replace HW_ := Lib.hid (HW_.out.trans (bq.mono HW_.out.size))
          replace HZ_ := Lib.hid (HZ_.out.step bq)
          replace HA_ := Lib.hid (HA_.out.below bq HA_.out.lt)
          replace HB_ := Lib.hid (HB_.out.below bq HB_.out.lt)
          have HY_ := Lib.hid (StP.any (L := L) hy)
          refine hK _ _ HW_.out ?_
          clear hK K hy bq
          simp only [stV, ptV]
          try simp only [Act.put, List.setIfInBounds_toArray, List.set_cons_zero, List.set_cons_succ]
          iterate 4 (
            refine wpI_read (v := ?_) HW_.out rfl (by kernel_rfl) (by kernel_rfl) (by kernel_rfl) (fun _ _ _ h => h) (.inl ⟨by rfl, ?_⟩) ?_
            rotate_left
            · intro X hX
              clear hX
              go_simp
              with_reducible rfl
            try simp only [Act.put, List.setIfInBounds_toArray, List.set_cons_zero, List.set_cons_succ])
          have HNE := Lib.hid (show gA ≠ gB from HA_.out.ne HB_.out (by decide))
          refine wpI_lone rfl (by kernel_rfl) (fun K hK => ?_)
          have m0 := stZ0 HA_.out
          have m1 := stZ1 HA_.out
          have m2 := stZ2 HA_.out
          have m3 := stZ3 HA_.out
          have m4 := stZ4 HA_.out
          have hfz := fun i => HA_.out.frozen i
          obtain ⟨xa, ka, ba⟩ := box_five (L := L) HA_.out (by decide) (Nat.le_trans HLD.out HGA.out) HW_.out HGA.out (.slice y.d.ba T.1.1.length y.d.bc) (.slice y.d.wa T.1.2.length y.d.wc) (.slice y.a T.2.1.length y.c) (.int .u32 (T.2.2.1 : Int)) (.int .u32 (T.2.2.2 : Int))
          have xo := far5_bl HB_.out (HNE.out.symm) (.slice y.d.ba T.1.1.length y.d.bc) (.slice y.d.wa T.1.2.length y.d.wc) (.slice y.a T.2.1.length y.c) (.int .u32 (T.2.2.1 : Int)) (.int .u32 (T.2.2.2 : Int))
          obtain ⟨ww5, hn⟩ : ∃ X, set5 ww4 gA (.slice y.d.ba T.1.1.length y.d.bc) (.slice y.d.wa T.1.2.length y.d.wc) (.slice y.a T.2.1.length y.c) (.int .u32 (T.2.2.1 : Int)) (.int .u32 (T.2.2.2 : Int)) = X := ⟨_, rfl⟩
          rw [hn] at xa ka ba xo
          simp only [set5] at hn
          go_simp
          replace HW_ := Lib.hid ba
          replace HA_ := Lib.hid xa
          replace HB_ := Lib.hid xo
          replace HY_ := Lib.hid (HY_.out.step ka)
          refine hK _ _ HW_.out ?_
          clear hK K hn xa ka ba xo hfz m0 m1 m2 m3 m4
          try simp only [Act.put, List.setIfInBounds_toArray, List.set_cons_zero, List.set_cons_succ]
          refine wpI_lone rfl (by kernel_rfl) (fun K hK => ?_)
          have m0 := ptZ0 HB_.out
          have m1 := ptZ1 HB_.out
          have m2 := ptZ2 HB_.out
          have m3 := ptZ3 HB_.out
          have m4 := ptZ4 HB_.out
          have hfz := fun i => HB_.out.frozen i
          obtain ⟨xa, ka, ba⟩ := box_five (L := L) HB_.out (by decide) (Nat.le_trans HLD.out HGB.out) HW_.out HGB.out (.int .i64 pa') (.int .u32 (pb' : Int)) (.int .u32 (pi' : Int)) (.int .u32 (pt' : Int)) (.int .u32 (ps' : Int))
          have xo := far5_bl HA_.out HNE.out (.int .i64 pa') (.int .u32 (pb' : Int)) (.int .u32 (pi' : Int)) (.int .u32 (pt' : Int)) (.int .u32 (ps' : Int))
          obtain ⟨ww6, hn⟩ : ∃ X, set5 ww5 gB (.int .i64 pa') (.int .u32 (pb' : Int)) (.int .u32 (pi' : Int)) (.int .u32 (pt' : Int)) (.int .u32 (ps' : Int)) = X := ⟨_, rfl⟩
          rw [hn] at xa ka ba xo
          simp only [set5] at hn
          go_simp
          replace HW_ := Lib.hid ba
          replace HB_ := Lib.hid xa
          replace HA_ := Lib.hid xo
          replace HY_ := Lib.hid (HY_.out.step ka)
          refine hK _ _ HW_.out ?_
          clear hK K hn xa ka ba xo hfz m0 m1 m2 m3 m4
          try simp only [Act.put, List.setIfInBounds_toArray, List.set_cons_zero, List.set_cons_succ]
          iterate 1 (
            refine wpI_read (v := ?_) HW_.out rfl (by kernel_rfl) (by kernel_rfl) (by kernel_rfl) (fun _ _ _ h => h) (.inl ⟨by rfl, ?_⟩) ?_
            rotate_left
            · intro X hX
              clear hX
              go_simp
              with_reducible rfl
            try simp only [Act.put, List.setIfInBounds_toArray, List.set_cons_zero, List.set_cons_succ])
          refine wpI_done (by kernel_rfl) ?_
          go_wp2_with fail
          go_meet
          exact ⟨gA, gB, rfl, rfl, rfl, HBd.out.trans (HW_.out.mono HBd.out.size)⟩

    · go_simp
      have bq := (Below.refl wd.heap.size wd).alloc (Nat.le_refl _) (.cells #[.slice none 0 0, .slice none 0 0, .slice none 0 0, .int .u32 0, .int .u32 0] 30)
      have hx := Blk.new wd 30 #[.slice none 0 0, .slice none 0 0, .slice none 0 0, .int .u32 0, .int .u32 0]
      obtain ⟨ww1, hn⟩ : ∃ X, wd.alloc (.cells #[.slice none 0 0, .slice none 0 0, .slice none 0 0, .int .u32 0, .int .u32 0] 30) = X := ⟨_, rfl⟩
      obtain ⟨gA, hg⟩ : ∃ X, wd.heap.size = X := ⟨_, rfl⟩
      have HGA := Lib.hid (show wd.heap.size ≤ gA by rw [← hg]; exact HW_.out.size)
      rw [hn] at bq hx ⊢
      rw [hg] at hx ⊢
      replace HW_ := Lib.hid (HW_.out.trans (bq.mono HW_.out.size))
      have HA_ := Lib.hid hx
      refine hK _ _ HW_.out ?_
      clear hK K hn hg hx bq
      try simp only [Act.put, List.setIfInBounds_toArray, List.set_cons_zero, List.set_cons_succ]
      refine wpI_turn [1, 9, 3, 4, 5, 6, 7, 10, 11, 12] rfl ?_
      refine wpI_fork rfl rfl (by kernel_rfl) (fun K hK => ?_) (fun K hK => ?_)
      · go_simp
        have bq := (Below.refl ww1.heap.size ww1).alloc (Nat.le_refl _) (.cells (Array.replicate 16 (.int .u8 0)) 5)
        have xz := noughts_bsl 16 (by omega) ww1
        rw [HZN.out] at xz
        obtain ⟨ww2, hn⟩ : ∃ X, ww1.alloc (.cells (Array.replicate 16 (.int .u8 0)) 5) = X := ⟨_, rfl⟩
        obtain ⟨gz, hgz⟩ : ∃ X, ww1.heap.size = X := ⟨_, rfl⟩
        rw [hn] at bq xz ⊢
        rw [hgz] at xz ⊢
        replace HW_ := Lib.hid (HW_.out.trans (bq.mono HW_.out.size))
        replace HA_ := Lib.hid (HA_.out.below bq HA_.out.lt)
        have HZ_ := Lib.hid xz
        refine hK _ _ HW_.out ?_
        clear hK K hn hgz xz bq
        try simp only [Act.put, List.setIfInBounds_toArray, List.set_cons_zero, List.set_cons_succ]
        refine wpI_turn [3, 9, 4, 5, 6, 7, 10, 11, 12] rfl ?_
        refine wpI_fork rfl rfl (by kernel_rfl) (fun K hK => ?_) (fun K hK => ?_)
        · go_simp
          refine (HC.out gz ww2 HW_.out HZ_.out).mono ?_
          rintro ev ww3 ⟨y, rfl, hy, _, bq⟩
          replace HW_ := Lib.hid (HW_.out.trans (bq.mono HW_.out.size))
          replace HZ_ := Lib.hid (HZ_.out.step bq)
          replace HA_ := Lib.hid (HA_.out.below bq HA_.out.lt)
          have HY_ := Lib.hid (StP.any (L := L) hy)
          refine hK _ _ HW_.out ?_
          clear hK K hy bq
          simp only [stV, ptV]
          try simp only [Act.put, List.setIfInBounds_toArray, List.set_cons_zero, List.set_cons_succ]
          refine wpI_turn [4, 5, 6, 7, 9, 10, 11, 12] rfl ?_
          iterate 4 (
            refine wpI_read (v := ?_) HW_.out rfl (by kernel_rfl) (by kernel_rfl) (by kernel_rfl) (fun _ _ _ h => h) (.inl ⟨by rfl, ?_⟩) ?_
            rotate_left
            · intro X hX
              clear hX
              go_simp
              with_reducible rfl
            try simp only [Act.put, List.setIfInBounds_toArray, List.set_cons_zero, List.set_cons_succ])
          refine wpI_turn [9, 10, 11, 12] rfl ?_
          refine wpI_lone rfl (by kernel_rfl) (fun K hK => ?_)
          go_simp
          have bq := (Below.refl ww3.heap.size ww3).alloc (Nat.le_refl _) (.cells #[.int .i64 0, .int .u32 0, .int .u32 0, .int .u32 0, .int .u32 0] 32)
          have hx := Blk.new ww3 32 #[.int .i64 0, .int .u32 0, .int .u32 0, .int .u32 0, .int .u32 0]
          obtain ⟨ww4, hn⟩ : ∃ X, ww3.alloc (.cells #[.int .i64 0, .int .u32 0, .int .u32 0, .int .u32 0, .int .u32 0] 32) = X := ⟨_, rfl⟩
          obtain ⟨gB, hg⟩ : ∃ X, ww3.heap.size = X := ⟨_, rfl⟩
          have HGB := Lib.hid (show wd.heap.size ≤ gB by rw [← hg]; exact HW_.out.size)
          rw [hn] at bq hx ⊢
          rw [hg] at hx ⊢
          replace HW_ := Lib.hid (HW_.out.trans (bq.mono HW_.out.size))
          replace HZ_ := Lib.hid (HZ_.out.step bq)
          replace HA_ := Lib.hid (HA_.out.below bq HA_.out.lt)
          replace HY_ := Lib.hid (HY_.out.bel bq)
          have HB_ := Lib.hid hx
          refine hK _ _ HW_.out ?_
          clear hK K hn hg hx bq
          try simp only [Act.put, List.setIfInBounds_toArray, List.set_cons_zero, List.set_cons_succ]
          have HNE := Lib.hid (show gA ≠ gB from HA_.out.ne HB_.out (by decide))
          refine wpI_lone rfl (by kernel_rfl) (fun K hK => ?_)
          have m0 := stZ0 HA_.out
          have m1 := stZ1 HA_.out
          have m2 := stZ2 HA_.out
          have m3 := stZ3 HA_.out
          have m4 := stZ4 HA_.out
          have hfz := fun i => HA_.out.frozen i
          obtain ⟨xa, ka, ba⟩ := box_five (L := L) HA_.out (by decide) (Nat.le_trans HLD.out HGA.out) HW_.out HGA.out (.slice y.d.ba T.1.1.length y.d.bc) (.slice y.d.wa T.1.2.length y.d.wc) (.slice y.a T.2.1.length y.c) (.int .u32 (T.2.2.1 : Int)) (.int .u32 (T.2.2.2 : Int))
          have xo := far5_bl HB_.out (HNE.out.symm) (.slice y.d.ba T.1.1.length y.d.bc) (.slice y.d.wa T.1.2.length y.d.wc) (.slice y.a T.2.1.length y.c) (.int .u32 (T.2.2.1 : Int)) (.int .u32 (T.2.2.2 : Int))
          obtain ⟨ww5, hn⟩ : ∃ X, set5 ww4 gA (.slice y.d.ba T.1.1.length y.d.bc) (.slice y.d.wa T.1.2.length y.d.wc) (.slice y.a T.2.1.length y.c) (.int .u32 (T.2.2.1 : Int)) (.int .u32 (T.2.2.2 : Int)) = X := ⟨_, rfl⟩
          rw [hn] at xa ka ba xo
          simp only [set5] at hn
          go_simp
          replace HW_ := Lib.hid ba
          replace HA_ := Lib.hid xa
          replace HB_ := Lib.hid xo
          replace HY_ := Lib.hid (HY_.out.step ka)
          refine hK _ _ HW_.out ?_
          clear hK K hn xa ka ba xo hfz m0 m1 m2 m3 m4
          try simp only [Act.put, List.setIfInBounds_toArray, List.set_cons_zero, List.set_cons_succ]
          refine wpI_lone rfl (by kernel_rfl) (fun K hK => ?_)
          have m0 := ptZ0 HB_.out
          have m1 := ptZ1 HB_.out
          have m2 := ptZ2 HB_.out
          have m3 := ptZ3 HB_.out
          have m4 := ptZ4 HB_.out
          have hfz := fun i => HB_.out.frozen i
          obtain ⟨xa, ka, ba⟩ := box_five (L := L) HB_.out (by decide) (Nat.le_trans HLD.out HGB.out) HW_.out HGB.out (.int .i64 pa') (.int .u32 (pb' : Int)) (.int .u32 (pi' : Int)) (.int .u32 (pt' : Int)) (.int .u32 (ps' : Int))
          have xo := far5_bl HA_.out HNE.out (.int .i64 pa') (.int .u32 (pb' : Int)) (.int .u32 (pi' : Int)) (.int .u32 (pt' : Int)) (.int .u32 (ps' : Int))
          obtain ⟨ww6, hn⟩ : ∃ X, set5 ww5 gB (.int .i64 pa') (.int .u32 (pb' : Int)) (.int .u32 (pi' : Int)) (.int .u32 (pt' : Int)) (.int .u32 (ps' : Int)) = X := ⟨_, rfl⟩
          rw [hn] at xa ka ba xo
          simp only [set5] at hn
          go_simp
          replace HW_ := Lib.hid ba
          replace HB_ := Lib.hid xa
          replace HA_ := Lib.hid xo
          replace HY_ := Lib.hid (HY_.out.step ka)
          refine hK _ _ HW_.out ?_
          clear hK K hn xa ka ba xo hfz m0 m1 m2 m3 m4
          try simp only [Act.put, List.setIfInBounds_toArray, List.set_cons_zero, List.set_cons_succ]
          iterate 1 (
            refine wpI_read (v := ?_) HW_.out rfl (by kernel_rfl) (by kernel_rfl) (by kernel_rfl) (fun _ _ _ h => h) (.inl ⟨by rfl, ?_⟩) ?_
            rotate_left
            · intro X hX
              clear hX
              go_simp
              with_reducible rfl
            try simp only [Act.put, List.setIfInBounds_toArray, List.set_cons_zero, List.set_cons_succ])
          refine wpI_done (by kernel_rfl) ?_
          go_wp2_with fail
          go_meet
          exact ⟨gA, gB, rfl, rfl, rfl, HBd.out.trans (HW_.out.mono HBd.out.size)⟩

        · go_simp
          have bq := (Below.refl ww2.heap.size ww2).alloc (Nat.le_refl _) (.cells #[.int .i64 0, .int .u32 0, .int .u32 0, .int .u32 0, .int .u32 0] 32)
          have hx := Blk.new ww2 32 #[.int .i64 0, .int .u32 0, .int .u32 0, .int .u32 0, .int .u32 0]
          obtain ⟨ww3, hn⟩ : ∃ X, ww2.alloc (.cells #[.int .i64 0, .int .u32 0, .int .u32 0, .int .u32 0, .int .u32 0] 32) = X := ⟨_, rfl⟩
          obtain ⟨gB, hg⟩ : ∃ X, ww2.heap.size = X := ⟨_, rfl⟩
          have HGB := Lib.hid (show wd.heap.size ≤ gB by rw [← hg]; exact HW_.out.size)
          rw [hn] at bq hx ⊢
          rw [hg] at hx ⊢
          replace HW_ := Lib.hid (HW_.out.trans (bq.mono HW_.out.size))
          replace HZ_ := Lib.hid (HZ_.out.step bq)
          replace HA_ := Lib.hid (HA_.out.below bq HA_.out.lt)
          have HB_ := Lib.hid hx
          refine hK _ _ HW_.out ?_
          clear hK K hn hg hx bq
          try simp only [Act.put, List.setIfInBounds_toArray, List.set_cons_zero, List.set_cons_succ]
          refine wpI_turn [3, 4, 5, 6, 7, 10, 11, 12] rfl ?_
          refine wpI_lone rfl (by kernel_rfl) (fun K hK => ?_)
          go_simp
          refine (HC.out gz ww3 HW_.out HZ_.out).mono ?_
          rintro ev ww4 ⟨y, rfl, hy, _, bq⟩
          replace HW_ := Lib.hid (HW_.out.trans (bq.mono HW_.out.size))
          replace HZ_ := Lib.hid (HZ_.out.step bq)
          replace HA_ := Lib.hid (HA_.out.below bq HA_.out.lt)
          replace HB_ := Lib.hid (HB_.out.below bq HB_.out.lt)
          have HY_ := Lib.hid (StP.any (L := L) hy)
          refine hK _ _ HW_.out ?_
          clear hK K hy bq
          simp only [stV, ptV]
          try simp only [Act.put, List.setIfInBounds_toArray, List.set_cons_zero, List.set_cons_succ]
          iterate 4 (
            refine wpI_read (v := ?_) HW_.out rfl (by kernel_rfl) (by kernel_rfl) (by kernel_rfl) (fun _ _ _ h => h) (.inl ⟨by rfl, ?_⟩) ?_
            rotate_left
            · intro X hX
              clear hX
              go_simp
              with_reducible rfl
            try simp only [Act.put, List.setIfInBounds_toArray, List.set_cons_zero, List.set_cons_succ])
          have HNE := Lib.hid (show gA ≠ gB from HA_.out.ne HB_.out (by decide))
          refine wpI_lone rfl (by kernel_rfl) (fun K hK => ?_)
          have m0 := stZ0 HA_.out
          have m1 := stZ1 HA_.out
          have m2 := stZ2 HA_.out
          have m3 := stZ3 HA_.out
          have m4 := stZ4 HA_.out
          have hfz := fun i => HA_.out.frozen i
          obtain ⟨xa, ka, ba⟩ := box_five (L := L) HA_.out (by decide) (Nat.le_trans HLD.out HGA.out) HW_.out HGA.out (.slice y.d.ba T.1.1.length y.d.bc) (.slice y.d.wa T.1.2.length y.d.wc) (.slice y.a T.2.1.length y.c) (.int .u32 (T.2.2.1 : Int)) (.int .u32 (T.2.2.2 : Int))
          have xo := far5_bl HB_.out (HNE.out.symm) (.slice y.d.ba T.1.1.length y.d.bc) (.slice y.d.wa T.1.2.length y.d.wc) (.slice y.a T.2.1.length y.c) (.int .u32 (T.2.2.1 : Int)) (.int .u32 (T.2.2.2 : Int))
          obtain ⟨ww5, hn⟩ : ∃ X, set5 ww4 gA (.slice y.d.ba T.1.1.length y.d.bc) (.slice y.d.wa T.1.2.length y.d.wc) (.slice y.a T.2.1.length y.c) (.int .u32 (T.2.2.1 : Int)) (.int .u32 (T.2.2.2 : Int)) = X := ⟨_, rfl⟩
          rw [hn] at xa ka ba xo
          simp only [set5] at hn
          go_simp
          replace HW_ := Lib.hid ba
          replace HA_ := Lib.hid xa
          replace HB_ := Lib.hid xo
          replace HY_ := Lib.hid (HY_.out.step ka)
          refine hK _ _ HW_.out ?_
          clear hK K hn xa ka ba xo hfz m0 m1 m2 m3 m4
          try simp only [Act.put, List.setIfInBounds_toArray, List.set_cons_zero, List.set_cons_succ]
          refine wpI_lone rfl (by kernel_rfl) (fun K hK => ?_)
          have m0 := ptZ0 HB_.out
          have m1 := ptZ1 HB_.out
          have m2 := ptZ2 HB_.out
          have m3 := ptZ3 HB_.out
          have m4 := ptZ4 HB_.out
          have hfz := fun i => HB_.out.frozen i
          obtain ⟨xa, ka, ba⟩ := box_five (L := L) HB_.out (by decide) (Nat.le_trans HLD.out HGB.out) HW_.out HGB.out (.int .i64 pa') (.int .u32 (pb' : Int)) (.int .u32 (pi' : Int)) (.int .u32 (pt' : Int)) (.int .u32 (ps' : Int))
          have xo := far5_bl HA_.out HNE.out (.int .i64 pa') (.int .u32 (pb' : Int)) (.int .u32 (pi' : Int)) (.int .u32 (pt' : Int)) (.int .u32 (ps' : Int))
          obtain ⟨ww6, hn⟩ : ∃ X, set5 ww5 gB (.int .i64 pa') (.int .u32 (pb' : Int)) (.int .u32 (pi' : Int)) (.int .u32 (pt' : Int)) (.int .u32 (ps' : Int)) = X := ⟨_, rfl⟩
          rw [hn] at xa ka ba xo
          simp only [set5] at hn
          go_simp
          replace HW_ := Lib.hid ba
          replace HB_ := Lib.hid xa
          replace HA_ := Lib.hid xo
          replace HY_ := Lib.hid (HY_.out.step ka)
          refine hK _ _ HW_.out ?_
          clear hK K hn xa ka ba xo hfz m0 m1 m2 m3 m4
          try simp only [Act.put, List.setIfInBounds_toArray, List.set_cons_zero, List.set_cons_succ]
          iterate 1 (
            refine wpI_read (v := ?_) HW_.out rfl (by kernel_rfl) (by kernel_rfl) (by kernel_rfl) (fun _ _ _ h => h) (.inl ⟨by rfl, ?_⟩) ?_
            rotate_left
            · intro X hX
              clear hX
              go_simp
              with_reducible rfl
            try simp only [Act.put, List.setIfInBounds_toArray, List.set_cons_zero, List.set_cons_succ])
          refine wpI_done (by kernel_rfl) ?_
          go_wp2_with fail
          go_meet
          exact ⟨gA, gB, rfl, rfl, rfl, HBd.out.trans (HW_.out.mono HBd.out.size)⟩

      · go_simp
        have bq := (Below.refl ww1.heap.size ww1).alloc (Nat.le_refl _) (.cells #[.int .i64 0, .int .u32 0, .int .u32 0, .int .u32 0, .int .u32 0] 32)
        have hx := Blk.new ww1 32 #[.int .i64 0, .int .u32 0, .int .u32 0, .int .u32 0, .int .u32 0]
        obtain ⟨ww2, hn⟩ : ∃ X, ww1.alloc (.cells #[.int .i64 0, .int .u32 0, .int .u32 0, .int .u32 0, .int .u32 0] 32) = X := ⟨_, rfl⟩
        obtain ⟨gB, hg⟩ : ∃ X, ww1.heap.size = X := ⟨_, rfl⟩
        have HGB := Lib.hid (show wd.heap.size ≤ gB by rw [← hg]; exact HW_.out.size)
        rw [hn] at bq hx ⊢
        rw [hg] at hx ⊢
        replace HW_ := Lib.hid (HW_.out.trans (bq.mono HW_.out.size))
        replace HA_ := Lib.hid (HA_.out.below bq HA_.out.lt)
        have HB_ := Lib.hid hx
        refine hK _ _ HW_.out ?_
        clear hK K hn hg hx bq
        try simp only [Act.put, List.setIfInBounds_toArray, List.set_cons_zero, List.set_cons_succ]
        refine wpI_turn [1, 3, 4, 5, 6, 7, 10, 11, 12] rfl ?_
        refine wpI_lone rfl (by kernel_rfl) (fun K hK => ?_)
        go_simp
        have bq := (Below.refl ww2.heap.size ww2).alloc (Nat.le_refl _) (.cells (Array.replicate 16 (.int .u8 0)) 5)
        have xz := noughts_bsl 16 (by omega) ww2
        rw [HZN.out] at xz
        obtain ⟨ww3, hn⟩ : ∃ X, ww2.alloc (.cells (Array.replicate 16 (.int .u8 0)) 5) = X := ⟨_, rfl⟩
        obtain ⟨gz, hgz⟩ : ∃ X, ww2.heap.size = X := ⟨_, rfl⟩
        rw [hn] at bq xz ⊢
        rw [hgz] at xz ⊢
        replace HW_ := Lib.hid (HW_.out.trans (bq.mono HW_.out.size))
        replace HA_ := Lib.hid (HA_.out.below bq HA_.out.lt)
        replace HB_ := Lib.hid (HB_.out.below bq HB_.out.lt)
        have HZ_ := Lib.hid xz
        refine hK _ _ HW_.out ?_
        clear hK K hn hgz xz bq
        try simp only [Act.put, List.setIfInBounds_toArray, List.set_cons_zero, List.set_cons_succ]
        refine wpI_turn [3, 4, 5, 6, 7, 10, 11, 12] rfl ?_
        refine wpI_lone rfl (by kernel_rfl) (fun K hK => ?_)
        go_simp
        refine (HC.out gz ww3 HW_.out HZ_.out).mono ?_
        rintro ev ww4 ⟨y, rfl, hy, _, bq⟩
        replace HW_ := Lib.hid (HW_.out.trans (bq.mono HW_.out.size))
        replace HZ_ := Lib.hid (HZ_.out.step bq)
        replace HA_ := Lib.hid (HA_.out.below bq HA_.out.lt)
        replace HB_ := Lib.hid (HB_.out.below bq HB_.out.lt)
        have HY_ := Lib.hid (StP.any (L := L) hy)
        refine hK _ _ HW_.out ?_
        clear hK K hy bq
        simp only [stV, ptV]
        try simp only [Act.put, List.setIfInBounds_toArray, List.set_cons_zero, List.set_cons_succ]
        iterate 4 (
          refine wpI_read (v := ?_) HW_.out rfl (by kernel_rfl) (by kernel_rfl) (by kernel_rfl) (fun _ _ _ h => h) (.inl ⟨by rfl, ?_⟩) ?_
          rotate_left
          · intro X hX
            clear hX
            go_simp
            with_reducible rfl
          try simp only [Act.put, List.setIfInBounds_toArray, List.set_cons_zero, List.set_cons_succ])
        have HNE := Lib.hid (show gA ≠ gB from HA_.out.ne HB_.out (by decide))
        refine wpI_lone rfl (by kernel_rfl) (fun K hK => ?_)
        have m0 := stZ0 HA_.out
        have m1 := stZ1 HA_.out
        have m2 := stZ2 HA_.out
        have m3 := stZ3 HA_.out
        have m4 := stZ4 HA_.out
        have hfz := fun i => HA_.out.frozen i
        obtain ⟨xa, ka, ba⟩ := box_five (L := L) HA_.out (by decide) (Nat.le_trans HLD.out HGA.out) HW_.out HGA.out (.slice y.d.ba T.1.1.length y.d.bc) (.slice y.d.wa T.1.2.length y.d.wc) (.slice y.a T.2.1.length y.c) (.int .u32 (T.2.2.1 : Int)) (.int .u32 (T.2.2.2 : Int))
        have xo := far5_bl HB_.out (HNE.out.symm) (.slice y.d.ba T.1.1.length y.d.bc) (.slice y.d.wa T.1.2.length y.d.wc) (.slice y.a T.2.1.length y.c) (.int .u32 (T.2.2.1 : Int)) (.int .u32 (T.2.2.2 : Int))
        obtain ⟨ww5, hn⟩ : ∃ X, set5 ww4 gA (.slice y.d.ba T.1.1.length y.d.bc) (.slice y.d.wa T.1.2.length y.d.wc) (.slice y.a T.2.1.length y.c) (.int .u32 (T.2.2.1 : Int)) (.int .u32 (T.2.2.2 : Int)) = X := ⟨_, rfl⟩
        rw [hn] at xa ka ba xo
        simp only [set5] at hn
        go_simp
        replace HW_ := Lib.hid ba
        replace HA_ := Lib.hid xa
        replace HB_ := Lib.hid xo
        replace HY_ := Lib.hid (HY_.out.step ka)
        refine hK _ _ HW_.out ?_
        clear hK K hn xa ka ba xo hfz m0 m1 m2 m3 m4
        try simp only [Act.put, List.setIfInBounds_toArray, List.set_cons_zero, List.set_cons_succ]
        refine wpI_lone rfl (by kernel_rfl) (fun K hK => ?_)
        have m0 := ptZ0 HB_.out
        have m1 := ptZ1 HB_.out
        have m2 := ptZ2 HB_.out
        have m3 := ptZ3 HB_.out
        have m4 := ptZ4 HB_.out
        have hfz := fun i => HB_.out.frozen i
        obtain ⟨xa, ka, ba⟩ := box_five (L := L) HB_.out (by decide) (Nat.le_trans HLD.out HGB.out) HW_.out HGB.out (.int .i64 pa') (.int .u32 (pb' : Int)) (.int .u32 (pi' : Int)) (.int .u32 (pt' : Int)) (.int .u32 (ps' : Int))
        have xo := far5_bl HA_.out HNE.out (.int .i64 pa') (.int .u32 (pb' : Int)) (.int .u32 (pi' : Int)) (.int .u32 (pt' : Int)) (.int .u32 (ps' : Int))
        obtain ⟨ww6, hn⟩ : ∃ X, set5 ww5 gB (.int .i64 pa') (.int .u32 (pb' : Int)) (.int .u32 (pi' : Int)) (.int .u32 (pt' : Int)) (.int .u32 (ps' : Int)) = X := ⟨_, rfl⟩
        rw [hn] at xa ka ba xo
        simp only [set5] at hn
        go_simp
        replace HW_ := Lib.hid ba
        replace HB_ := Lib.hid xa
        replace HA_ := Lib.hid xo
        replace HY_ := Lib.hid (HY_.out.step ka)
        refine hK _ _ HW_.out ?_
        clear hK K hn xa ka ba xo hfz m0 m1 m2 m3 m4
        try simp only [Act.put, List.setIfInBounds_toArray, List.set_cons_zero, List.set_cons_succ]
        iterate 1 (
          refine wpI_read (v := ?_) HW_.out rfl (by kernel_rfl) (by kernel_rfl) (by kernel_rfl) (fun _ _ _ h => h) (.inl ⟨by rfl, ?_⟩) ?_
          rotate_left
          · intro X hX
            clear hX
            go_simp
            with_reducible rfl
          try simp only [Act.put, List.setIfInBounds_toArray, List.set_cons_zero, List.set_cons_succ])
        refine wpI_done (by kernel_rfl) ?_
        go_wp2_with fail
        go_meet
        exact ⟨gA, gB, rfl, rfl, rfl, HBd.out.trans (HW_.out.mono HBd.out.size)⟩

    · go_simp
      have bq := (Below.refl wd.heap.size wd).alloc (Nat.le_refl _) (.cells #[.int .i64 0, .int .u32 0, .int .u32 0, .int .u32 0, .int .u32 0] 32)
      have hx := Blk.new wd 32 #[.int .i64 0, .int .u32 0, .int .u32 0, .int .u32 0, .int .u32 0]
      obtain ⟨ww1, hn⟩ : ∃ X, wd.alloc (.cells #[.int .i64 0, .int .u32 0, .int .u32 0, .int .u32 0, .int .u32 0] 32) = X := ⟨_, rfl⟩
      obtain ⟨gB, hg⟩ : ∃ X, wd.heap.size = X := ⟨_, rfl⟩
      have HGB := Lib.hid (show wd.heap.size ≤ gB by rw [← hg]; exact HW_.out.size)
      rw [hn] at bq hx ⊢
      rw [hg] at hx ⊢
      replace HW_ := Lib.hid (HW_.out.trans (bq.mono HW_.out.size))
      have HB_ := Lib.hid hx
      refine hK _ _ HW_.out ?_
      clear hK K hn hg hx bq
      try simp only [Act.put, List.setIfInBounds_toArray, List.set_cons_zero, List.set_cons_succ]
      refine wpI_turn [1, 8, 3, 4, 5, 6, 7, 10, 11, 12] rfl ?_
      refine wpI_fork rfl rfl (by kernel_rfl) (fun K hK => ?_) (fun K hK => ?_)
      · go_simp
        have bq := (Below.refl ww1.heap.size ww1).alloc (Nat.le_refl _) (.cells (Array.replicate 16 (.int .u8 0)) 5)
        have xz := noughts_bsl 16 (by omega) ww1
        rw [HZN.out] at xz
        obtain ⟨ww2, hn⟩ : ∃ X, ww1.alloc (.cells (Array.replicate 16 (.int .u8 0)) 5) = X := ⟨_, rfl⟩
        obtain ⟨gz, hgz⟩ : ∃ X, ww1.heap.size = X := ⟨_, rfl⟩
        rw [hn] at bq xz ⊢
        rw [hgz] at xz ⊢
        replace HW_ := Lib.hid (HW_.out.trans (bq.mono HW_.out.size))
        replace HB_ := Lib.hid (HB_.out.below bq HB_.out.lt)
        have HZ_ := Lib.hid xz
        refine hK _ _ HW_.out ?_
        clear hK K hn hgz xz bq
        try simp only [Act.put, List.setIfInBounds_toArray, List.set_cons_zero, List.set_cons_succ]
        refine wpI_turn [3, 8, 4, 5, 6, 7, 10, 11, 12] rfl ?_
        refine wpI_fork rfl rfl (by kernel_rfl) (fun K hK => ?_) (fun K hK => ?_)
        · go_simp
          refine (HC.out gz ww2 HW_.out HZ_.out).mono ?_
          rintro ev ww3 ⟨y, rfl, hy, _, bq⟩
          replace HW_ := Lib.hid (HW_.out.trans (bq.mono HW_.out.size))
          replace HZ_ := Lib.hid (HZ_.out.step bq)
          replace HB_ := Lib.hid (HB_.out.below bq HB_.out.lt)
          have HY_ := Lib.hid (StP.any (L := L) hy)
          refine hK _ _ HW_.out ?_
          clear hK K hy bq
          simp only [stV, ptV]
          try simp only [Act.put, List.setIfInBounds_toArray, List.set_cons_zero, List.set_cons_succ]
          refine wpI_turn [4, 5, 6, 7, 8, 10, 11, 12] rfl ?_
          iterate 4 (
            refine wpI_read (v := ?_) HW_.out rfl (by kernel_rfl) (by kernel_rfl) (by kernel_rfl) (fun _ _ _ h => h) (.inl ⟨by rfl, ?_⟩) ?_
            rotate_left
            · intro X hX
              clear hX
              go_simp
              with_reducible rfl
            try simp only [Act.put, List.setIfInBounds_toArray, List.set_cons_zero, List.set_cons_succ])
          refine wpI_turn [8, 10, 11, 12] rfl ?_
          refine wpI_lone rfl (by kernel_rfl) (fun K hK => ?_)
          go_simp
          have bq := (Below.refl ww3.heap.size ww3).alloc (Nat.le_refl _) (.cells #[.slice none 0 0, .slice none 0 0, .slice none 0 0, .int .u32 0, .int .u32 0] 30)
          have hx := Blk.new ww3 30 #[.slice none 0 0, .slice none 0 0, .slice none 0 0, .int .u32 0, .int .u32 0]
          obtain ⟨ww4, hn⟩ : ∃ X, ww3.alloc (.cells #[.slice none 0 0, .slice none 0 0, .slice none 0 0, .int .u32 0, .int .u32 0] 30) = X := ⟨_, rfl⟩
          obtain ⟨gA, hg⟩ : ∃ X, ww3.heap.size = X := ⟨_, rfl⟩
          have HGA := Lib.hid (show wd.heap.size ≤ gA by rw [← hg]; exact HW_.out.size)
          rw [hn] at bq hx ⊢
          rw [hg] at hx ⊢
          replace HW_ := Lib.hid (HW_.out.trans (bq.mono HW_.out.size))
          replace HZ_ := Lib.hid (HZ_.out.step bq)
          replace HB_ := Lib.hid (HB_.out.below bq HB_.out.lt)
          replace HY_ := Lib.hid (HY_.out.bel bq)
          have HA_ := Lib.hid hx
          refine hK _ _ HW_.out ?_
          clear hK K hn hg hx bq
          try simp only [Act.put, List.setIfInBounds_toArray, List.set_cons_zero, List.set_cons_succ]
          have HNE := Lib.hid (show gA ≠ gB from HA_.out.ne HB_.out (by decide))
          refine wpI_lone rfl (by kernel_rfl) (fun K hK => ?_)
          have m0 := stZ0 HA_.out
          have m1 := stZ1 HA_.out
          have m2 := stZ2 HA_.out
          have m3 := stZ3 HA_.out
          have m4 := stZ4 HA_.out
          have hfz := fun i => HA_.out.frozen i
          obtain ⟨xa, ka, ba⟩ := box_five (L := L) HA_.out (by decide) (Nat.le_trans HLD.out HGA.out) HW_.out HGA.out (.slice y.d.ba T.1.1.length y.d.bc) (.slice y.d.wa T.1.2.length y.d.wc) (.slice y.a T.2.1.length y.c) (.int .u32 (T.2.2.1 : Int)) (.int .u32 (T.2.2.2 : Int))
          have xo := far5_bl HB_.out (HNE.out.symm) (.slice y.d.ba T.1.1.length y.d.bc) (.slice y.d.wa T.1.2.length y.d.wc) (.slice y.a T.2.1.length y.c) (.int .u32 (T.2.2.1 : Int)) (.int .u32 (T.2.2.2 : Int))
          obtain ⟨ww5, hn⟩ : ∃ X, set5 ww4 gA (.slice y.d.ba T.1.1.length y.d.bc) (.slice y.d.wa T.1.2.length y.d.wc) (.slice y.a T.2.1.length y.c) (.int .u32 (T.2.2.1 : Int)) (.int .u32 (T.2.2.2 : Int)) = X := ⟨_, rfl⟩
          rw [hn] at xa ka ba xo
          simp only [set5] at hn
          go_simp
          replace HW_ := Lib.hid ba
          replace HA_ := Lib.hid xa
          replace HB_ := Lib.hid xo
          replace HY_ := Lib.hid (HY_.out.step ka)
          refine hK _ _ HW_.out ?_
          clear hK K hn xa ka ba xo hfz m0 m1 m2 m3 m4
          try simp only [Act.put, List.setIfInBounds_toArray, List.set_cons_zero, List.set_cons_succ]
          refine wpI_lone rfl (by kernel_rfl) (fun K hK => ?_)
          have m0 := ptZ0 HB_.out
          have m1 := ptZ1 HB_.out
          have m2 := ptZ2 HB_.out
          have m3 := ptZ3 HB_.out
          have m4 := ptZ4 HB_.out
          have hfz := fun i => HB_.out.frozen i
          obtain ⟨xa, ka, ba⟩ := box_five (L := L) HB_.out (by decide) (Nat.le_trans HLD.out HGB.out) HW_.out HGB.out (.int .i64 pa') (.int .u32 (pb' : Int)) (.int .u32 (pi' : Int)) (.int .u32 (pt' : Int)) (.int .u32 (ps' : Int))
          have xo := far5_bl HA_.out HNE.out (.int .i64 pa') (.int .u32 (pb' : Int)) (.int .u32 (pi' : Int)) (.int .u32 (pt' : Int)) (.int .u32 (ps' : Int))
          obtain ⟨ww6, hn⟩ : ∃ X, set5 ww5 gB (.int .i64 pa') (.int .u32 (pb' : Int)) (.int .u32 (pi' : Int)) (.int .u32 (pt' : Int)) (.int .u32 (ps' : Int)) = X := ⟨_, rfl⟩
          rw [hn] at xa ka ba xo
          simp only [set5] at hn
          go_simp
          replace HW_ := Lib.hid ba
          replace HB_ := Lib.hid xa
          replace HA_ := Lib.hid xo
          replace HY_ := Lib.hid (HY_.out.step ka)
          refine hK _ _ HW_.out ?_
          clear hK K hn xa ka ba xo hfz m0 m1 m2 m3 m4
          try simp only [Act.put, List.setIfInBounds_toArray, List.set_cons_zero, List.set_cons_succ]
          iterate 1 (
            refine wpI_read (v := ?_) HW_.out rfl (by kernel_rfl) (by kernel_rfl) (by kernel_rfl) (fun _ _ _ h => h) (.inl ⟨by rfl, ?_⟩) ?_
            rotate_left
            · intro X hX
              clear hX
              go_simp
              with_reducible rfl
            try simp only [Act.put, List.setIfInBounds_toArray, List.set_cons_zero, List.set_cons_succ])
          refine wpI_done (by kernel_rfl) ?_
          go_wp2_with fail
          go_meet
          exact ⟨gA, gB, rfl, rfl, rfl, HBd.out.trans (HW_.out.mono HBd.out.size)⟩

        · go_simp
          have bq := (Below.refl ww2.heap.size ww2).alloc (Nat.le_refl _) (.cells #[.slice none 0 0, .slice none 0 0, .slice none 0 0, .int .u32 0, .int .u32 0] 30)
          have hx := Blk.new ww2 30 #[.slice none 0 0, .slice none 0 0, .slice none 0 0, .int .u32 0, .int .u32 0]
          obtain ⟨ww3, hn⟩ : ∃ X, ww2.alloc (.cells #[.slice none 0 0, .slice none 0 0, .slice none 0 0, .int .u32 0, .int .u32 0] 30) = X := ⟨_, rfl⟩
          obtain ⟨gA, hg⟩ : ∃ X, ww2.heap.size = X := ⟨_, rfl⟩
          have HGA := Lib.hid (show wd.heap.size ≤ gA by rw [← hg]; exact HW_.out.size)
          rw [hn] at bq hx ⊢
          rw [hg] at hx ⊢
          replace HW_ := Lib.hid (HW_.out.trans (bq.mono HW_.out.size))
          replace HZ_ := Lib.hid (HZ_.out.step bq)
          replace HB_ := Lib.hid (HB_.out.below bq HB_.out.lt)
          have HA_ := Lib.hid hx
          refine hK _ _ HW_.out ?_
          clear hK K hn hg hx bq
          try simp only [Act.put, List.setIfInBounds_toArray, List.set_cons_zero, List.set_cons_succ]
          refine wpI_turn [3, 4, 5, 6, 7, 10, 11, 12] rfl ?_
          refine wpI_lone rfl (by kernel_rfl) (fun K hK => ?_)
          go_simp
          refine (HC.out gz ww3 HW_.out HZ_.out).mono ?_
          rintro ev ww4 ⟨y, rfl, hy, _, bq⟩
          replace HW_ := Lib.hid (HW_.out.trans (bq.mono HW_.out.size))
          replace HZ_ := Lib.hid (HZ_.out.step bq)
          replace HA_ := Lib.hid (HA_.out.below bq HA_.out.lt)
          replace HB_ := Lib.hid (HB_.out.below bq HB_.out.lt)
          have HY_ := Lib.hid (StP.any (L := L) hy)
          refine hK _ _ HW_.out ?_
          clear hK K hy bq
          simp only [stV, ptV]
          try simp only [Act.put, List.setIfInBounds_toArray, List.set_cons_zero, List.set_cons_succ]
          iterate 4 (
            refine wpI_read (v := ?_) HW_.out rfl (by kernel_rfl) (by kernel_rfl) (by kernel_rfl) (fun _ _ _ h => h) (.inl ⟨by rfl, ?_⟩) ?_
            rotate_left
            · intro X hX
              clear hX
              go_simp
              with_reducible rfl
            try simp only [Act.put, List.setIfInBounds_toArray, List.set_cons_zero, List.set_cons_succ])
          have HNE := Lib.hid (show gA ≠ gB from HA_.out.ne HB_.out (by decide))
          refine wpI_lone rfl (by kernel_rfl) (fun K hK => ?_)
          have m0 := stZ0 HA_.out
          have m1 := stZ1 HA_.out
          have m2 := stZ2 HA_.out
          have m3 := stZ3 HA_.out
          have m4 := stZ4 HA_.out
          have hfz := fun i => HA_.out.frozen i
          obtain ⟨xa, ka, ba⟩ := box_five (L := L) HA_.out (by decide) (Nat.le_trans HLD.out HGA.out) HW_.out HGA.out (.slice y.d.ba T.1.1.length y.d.bc) (.slice y.d.wa T.1.2.length y.d.wc) (.slice y.a T.2.1.length y.c) (.int .u32 (T.2.2.1 : Int)) (.int .u32 (T.2.2.2 : Int))
          have xo := far5_bl HB_.out (HNE.out.symm) (.slice y.d.ba T.1.1.length y.d.bc) (.slice y.d.wa T.1.2.length y.d.wc) (.slice y.a T.2.1.length y.c) (.int .u32 (T.2.2.1 : Int)) (.int .u32 (T.2.2.2 : Int))
          obtain ⟨ww5, hn⟩ : ∃ X, set5 ww4 gA (.slice y.d.ba T.1.1.length y.d.bc) (.slice y.d.wa T.1.2.length y.d.wc) (.slice y.a T.2.1.length y.c) (.int .u32 (T.2.2.1 : Int)) (.int .u32 (T.2.2.2 : Int)) = X := ⟨_, rfl⟩
          rw [hn] at xa ka ba xo
          simp only [set5] at hn
          go_simp
          replace HW_ := Lib.hid ba
          replace HA_ := Lib.hid xa
          replace HB_ := Lib.hid xo
          replace HY_ := Lib.hid (HY_.out.step ka)
          refine hK _ _ HW_.out ?_
          clear hK K hn xa ka ba xo hfz m0 m1 m2 m3 m4
          try simp only [Act.put, List.setIfInBounds_toArray, List.set_cons_zero, List.set_cons_succ]
          refine wpI_lone rfl (by kernel_rfl) (fun K hK => ?_)
          have m0 := ptZ0 HB_.out
          have m1 := ptZ1 HB_.out
          have m2 := ptZ2 HB_.out
          have m3 := ptZ3 HB_.out
          have m4 := ptZ4 HB_.out
          have hfz := fun i => HB_.out.frozen i
          obtain ⟨xa, ka, ba⟩ := box_five (L := L) HB_.out (by decide) (Nat.le_trans HLD.out HGB.out) HW_.out HGB.out (.int .i64 pa') (.int .u32 (pb' : Int)) (.int .u32 (pi' : Int)) (.int .u32 (pt' : Int)) (.int .u32 (ps' : Int))
          have xo := far5_bl HA_.out HNE.out (.int .i64 pa') (.int .u32 (pb' : Int)) (.int .u32 (pi' : Int)) (.int .u32 (pt' : Int)) (.int .u32 (ps' : Int))
          obtain ⟨ww6, hn⟩ : ∃ X, set5 ww5 gB (.int .i64 pa') (.int .u32 (pb' : Int)) (.int .u32 (pi' : Int)) (.int .u32 (pt' : Int)) (.int .u32 (ps' : Int)) = X := ⟨_, rfl⟩
          rw [hn] at xa ka ba xo
          simp only [set5] at hn
          go_simp
          replace HW_ := Lib.hid ba
          replace HB_ := Lib.hid xa
          replace HA_ := Lib.hid xo
          replace HY_ := Lib.hid (HY_.out.step ka)
          refine hK _ _ HW_.out ?_
          clear hK K hn xa ka ba xo hfz m0 m1 m2 m3 m4
          try simp only [Act.put, List.setIfInBounds_toArray, List.set_cons_zero, List.set_cons_succ]
          iterate 1 (
            refine wpI_read (v := ?_) HW_.out rfl (by kernel_rfl) (by kernel_rfl) (by kernel_rfl) (fun _ _ _ h => h) (.inl ⟨by rfl, ?_⟩) ?_
            rotate_left
            · intro X hX
              clear hX
              go_simp
              with_reducible rfl
            try simp only [Act.put, List.setIfInBounds_toArray, List.set_cons_zero, List.set_cons_succ])
          refine wpI_done (by kernel_rfl) ?_
          go_wp2_with fail
          go_meet
          exact ⟨gA, gB, rfl, rfl, rfl, HBd.out.trans (HW_.out.mono HBd.out.size)⟩

      · go_simp
        have bq := (Below.refl ww1.heap.size ww1).alloc (Nat.le_refl _) (.cells #[.slice none 0 0, .slice none 0 0, .slice none 0 0, .int .u32 0, .int .u32 0] 30)
        have hx := Blk.new ww1 30 #[.slice none 0 0, .slice none 0 0, .slice none 0 0, .int .u32 0, .int .u32 0]
        obtain ⟨ww2, hn⟩ : ∃ X, ww1.alloc (.cells #[.slice none 0 0, .slice none 0 0, .slice none 0 0, .int .u32 0, .int .u32 0] 30) = X := ⟨_, rfl⟩
        obtain ⟨gA, hg⟩ : ∃ X, ww1.heap.size = X := ⟨_, rfl⟩
        have HGA := Lib.hid (show wd.heap.size ≤ gA by rw [← hg]; exact HW_.out.size)
        rw [hn] at bq hx ⊢
        rw [hg] at hx ⊢
        replace HW_ := Lib.hid (HW_.out.trans (bq.mono HW_.out.size))
        replace HB_ := Lib.hid (HB_.out.below bq HB_.out.lt)
        have HA_ := Lib.hid hx
        refine hK _ _ HW_.out ?_
        clear hK K hn hg hx bq
        try simp only [Act.put, List.setIfInBounds_toArray, List.set_cons_zero, List.set_cons_succ]
        refine wpI_turn [1, 3, 4, 5, 6, 7, 10, 11, 12] rfl ?_
        refine wpI_lone rfl (by kernel_rfl) (fun K hK => ?_)
        go_simp
        have bq := (Below.refl ww2.heap.size ww2).alloc (Nat.le_refl _) (.cells (Array.replicate 16 (.int .u8 0)) 5)
        have xz := noughts_bsl 16 (by omega) ww2
        rw [HZN.out] at xz
        obtain ⟨ww3, hn⟩ : ∃ X, ww2.alloc (.cells (Array.replicate 16 (.int .u8 0)) 5) = X := ⟨_, rfl⟩
        obtain ⟨gz, hgz⟩ : ∃ X, ww2.heap.size = X := ⟨_, rfl⟩
        rw [hn] at bq xz ⊢
        rw [hgz] at xz ⊢
        replace HW_ := Lib.hid (HW_.out.trans (bq.mono HW_.out.size))
        replace HA_ := Lib.hid (HA_.out.below bq HA_.out.lt)
        replace HB_ := Lib.hid (HB_.out.below bq HB_.out.lt)
        have HZ_ := Lib.hid xz
        refine hK _ _ HW_.out ?_
        clear hK K hn hgz xz bq
        try simp only [Act.put, List.setIfInBounds_toArray, List.set_cons_zero, List.set_cons_succ]
        refine wpI_turn [3, 4, 5, 6, 7, 10, 11, 12] rfl ?_
        refine wpI_lone rfl (by kernel_rfl) (fun K hK => ?_)
        go_simp
        refine (HC.out gz ww3 HW_.out HZ_.out).mono ?_
        rintro ev ww4 ⟨y, rfl, hy, _, bq⟩
        replace HW_ := Lib.hid (HW_.out.trans (bq.mono HW_.out.size))
        replace HZ_ := Lib.hid (HZ_.out.step bq)
        replace HA_ := Lib.hid (HA_.out.below bq HA_.out.lt)
        replace HB_ := Lib.hid (HB_.out.below bq HB_.out.lt)
        have HY_ := Lib.hid (StP.any (L := L) hy)
        refine hK _ _ HW_.out ?_
        clear hK K hy bq
        simp only [stV, ptV]
        try simp only [Act.put, List.setIfInBounds_toArray, List.set_cons_zero, List.set_cons_succ]
        iterate 4 (
          refine wpI_read (v := ?_) HW_.out rfl (by kernel_rfl) (by kernel_rfl) (by kernel_rfl) (fun _ _ _ h => h) (.inl ⟨by rfl, ?_⟩) ?_
          rotate_left
          · intro X hX
            clear hX
            go_simp
            with_reducible rfl
          try simp only [Act.put, List.setIfInBounds_toArray, List.set_cons_zero, List.set_cons_succ])
        have HNE := Lib.hid (show gA ≠ gB from HA_.out.ne HB_.out (by decide))
        refine wpI_lone rfl (by kernel_rfl) (fun K hK => ?_)
        have m0 := stZ0 HA_.out
        have m1 := stZ1 HA_.out
        have m2 := stZ2 HA_.out
        have m3 := stZ3 HA_.out
        have m4 := stZ4 HA_.out
        have hfz := fun i => HA_.out.frozen i
        obtain ⟨xa, ka, ba⟩ := box_five (L := L) HA_.out (by decide) (Nat.le_trans HLD.out HGA.out) HW_.out HGA.out (.slice y.d.ba T.1.1.length y.d.bc) (.slice y.d.wa T.1.2.length y.d.wc) (.slice y.a T.2.1.length y.c) (.int .u32 (T.2.2.1 : Int)) (.int .u32 (T.2.2.2 : Int))
        have xo := far5_bl HB_.out (HNE.out.symm) (.slice y.d.ba T.1.1.length y.d.bc) (.slice y.d.wa T.1.2.length y.d.wc) (.slice y.a T.2.1.length y.c) (.int .u32 (T.2.2.1 : Int)) (.int .u32 (T.2.2.2 : Int))
        obtain ⟨ww5, hn⟩ : ∃ X, set5 ww4 gA (.slice y.d.ba T.1.1.length y.d.bc) (.slice y.d.wa T.1.2.length y.d.wc) (.slice y.a T.2.1.length y.c) (.int .u32 (T.2.2.1 : Int)) (.int .u32 (T.2.2.2 : Int)) = X := ⟨_, rfl⟩
        rw [hn] at xa ka ba xo
        simp only [set5] at hn
        go_simp
        replace HW_ := Lib.hid ba
        replace HA_ := Lib.hid xa
        replace HB_ := Lib.hid xo
        replace HY_ := Lib.hid (HY_.out.step ka)
        refine hK _ _ HW_.out ?_
        clear hK K hn xa ka ba xo hfz m0 m1 m2 m3 m4
        try simp only [Act.put, List.setIfInBounds_toArray, List.set_cons_zero, List.set_cons_succ]
        refine wpI_lone rfl (by kernel_rfl) (fun K hK => ?_)
        have m0 := ptZ0 HB_.out
        have m1 := ptZ1 HB_.out
        have m2 := ptZ2 HB_.out
        have m3 := ptZ3 HB_.out
        have m4 := ptZ4 HB_.out
        have hfz := fun i => HB_.out.frozen i
        obtain ⟨xa, ka, ba⟩ := box_five (L := L) HB_.out (by decide) (Nat.le_trans HLD.out HGB.out) HW_.out HGB.out (.int .i64 pa') (.int .u32 (pb' : Int)) (.int .u32 (pi' : Int)) (.int .u32 (pt' : Int)) (.int .u32 (ps' : Int))
        have xo := far5_bl HA_.out HNE.out (.int .i64 pa') (.int .u32 (pb' : Int)) (.int .u32 (pi' : Int)) (.int .u32 (pt' : Int)) (.int .u32 (ps' : Int))
        obtain ⟨ww6, hn⟩ : ∃ X, set5 ww5 gB (.int .i64 pa') (.int .u32 (pb' : Int)) (.int .u32 (pi' : Int)) (.int .u32 (pt' : Int)) (.int .u32 (ps' : Int)) = X := ⟨_, rfl⟩
        rw [hn] at xa ka ba xo
        simp only [set5] at hn
        go_simp
        replace HW_ := Lib.hid ba
        replace HB_ := Lib.hid xa
        replace HA_ := Lib.hid xo
        replace HY_ := Lib.hid (HY_.out.step ka)
        refine hK _ _ HW_.out ?_
        clear hK K hn xa ka ba xo hfz m0 m1 m2 m3 m4
        try simp only [Act.put, List.setIfInBounds_toArray, List.set_cons_zero, List.set_cons_succ]
        iterate 1 (
          refine wpI_read (v := ?_) HW_.out rfl (by kernel_rfl) (by kernel_rfl) (by kernel_rfl) (fun _ _ _ h => h) (.inl ⟨by rfl, ?_⟩) ?_
          rotate_left
          · intro X hX
            clear hX
            go_simp
            with_reducible rfl
          try simp only [Act.put, List.setIfInBounds_toArray, List.set_cons_zero, List.set_cons_succ])
        refine wpI_done (by kernel_rfl) ?_
        go_wp2_with fail
        go_meet
        exact ⟨gA, gB, rfl, rfl, rfl, HBd.out.trans (HW_.out.mono HBd.out.size)⟩
  obtain ⟨gA, gB, rfl, rfl, rfl, hbw⟩ := hcut
  rename World => wc
  obtain ⟨E4, E6, E7, E8, EA, EB, EI⟩ := HE.out
  have V1 := ((own_bsl HR5.out).step hbw).conv
  have V2 := (HZB.out.step hbw).conv
  have hp := HP4.out.below hbw HP4.out.lt
  have q0 := bx0 hp
  have q1 := bx1 hp
  have q2 := bx2 hp
  have f0 : ((strOf Z).toList == (strOf Z).toList) = true := by simp
  have f1 : ((e4 : Int) == 0) = true := by rw [E4]; rfl
  have f2 : ((e6 : Int) == 2) = true := by rw [E6]; rfl
  have f3 : ((e7 : Int) == 3) = true := by rw [E7]; rfl
  have f4 : ((e8 : Int) == 6) = true := by rw [E8]; rfl
  have f5 : (pa == 12) = true := by rw [EA]; rfl
  have f6 : ((pb : Int) == 1) = true := by rw [EB]; rfl
  have f7 : ((pi : Int) == 0) = true := by rw [EI]; rfl
  have f8 : ((er : Int) == 132) = true := by rw [HER.out]; rfl
  have HBF := Lib.hid (HB.out.trans (hbw.mono HB.out.size))
  clear hbw hp E4 E6 E7 E8 EA EB EI
  go_wp2_with fail
  go_ret
  exact ⟨rfl, HBF.out⟩
end Go.Proofs.Ytdpmdlibgabjaaa
namespace Go.Proofs.Ytdpmdlibgabjaaa.storeNames
open Go.ChangeShapes Go.WideShapes Go.ChangeAt Go.RowKit
set_option linter.unusedVariables false

theorem own : ownKnob Try.prog.godebug = none := by kernel_rfl
theorem laidOut : laidOutB Try.prog = true := by kernel_rfl

set_option maxRecDepth 100000 in
theorem lifted (os : Os) (started : os.Started) (H : Type) (enc : TypeId × Value → H) :
    ReturnsInHanded {} Try.checked os 3 .any (Rows.storeNamesSpec.pre6 enc Try.prog Try.f3 Rows.storeNamesRow.domain false) (Rows.storeNamesSpec.post enc Try.prog Try.f3 false true false false) := by
  refine returnsInHanded_of_change (C := Try.checked) own started (by kernel_rfl) Try.func3
    (ChangeSpec.witness6 (enc := enc) (C := Try.checked) false ⟨#[], #[], []⟩ 8 (by kernel_rfl) (by kernel_rfl) (by kernel_rfl) (by kernel_rfl)) ?_
  intro W base args ds gs before hval0 hW hcnd _
  have hval : ∀ (j : Nat) t v, Try.f3.params[j]? = some t → args[j]? = some v → Value.okWide Try.prog W .any base t v := hval0
  have hW' := hW
  obtain ⟨p, q, hA0, hV, rfl, hfz, hnd⟩ := hW
  have hA : DataW.TrodAll enc Try.prog W 0 (fun _ => true) true Try.f3.params.toList args.toList ds p := hA0
  rw [Try.params3] at hA hval
  obtain ⟨rfl, rfl, rfl⟩ := trodAll_none hA
  obtain ⟨rfl, rfl⟩ := trodVars_none hV
  clear hA0 hval0
  refine (storeNames_walk  W).mono fun e W' ⟨he, bel⟩ => ?_
  subst he
  exact ⟨_, rfl, _, _, _, [], _, [], hW', trodAll_mk1 (shut_bool Try.underlying4 _), rfl, rfl, bel.frame _, fun h => by cases h⟩

theorem over : Rows.storeNamesRow.holds Try.pinned (OpenSpec.ofChange Rows.storeNamesSpec) :=
  OpenClaim.holds_of_wide 3 Try.f3 rfl rfl rfl rfl rfl rfl rfl ⟨rfl, rfl, rfl, rfl, rfl⟩ rfl rfl rfl rfl rfl (by kernel_rfl) Try.func3 (by kernel_rfl)
    (of_decide_eq_true (by kernel_rfl)) (by unfold Func.isWrapper; first | (rw [if_pos (by decide +kernel)]; kernel_rfl) | (rw [if_neg (by decide +kernel)]; exact ⟨rfl, rfl⟩))
    (fun os started H enc _ => lifted os started H enc)

/-- The statement. -/
theorem proved : Rows.StoreNamesSaid := over
end Go.Proofs.Ytdpmdlibgabjaaa.storeNames
