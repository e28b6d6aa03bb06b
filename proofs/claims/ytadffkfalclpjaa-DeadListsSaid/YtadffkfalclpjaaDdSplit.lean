/-
  dead's own Split.
-/
import Derived.Test.YtadffkfalclpjaaDdCode
import Derived.Test.YtadffkfalclpjaaDdTwo
namespace Go.Proofs.Ytadffkfalclpjaa
open Go.RowKit Go.Shelf
set_option maxRecDepth 100000

set_option linter.unusedSimpArgs false in
set_option maxHeartbeats 8000000 in
theorem ddSplit_any (a : Option Addr) (n c : Nat) (L : List Pt) (af : Nat) (w : World) (hL : Pts w w.heap.size a n c L) (haf : af < 4294967296) : Calls Try.prog 9 #[.slice a n c, .int .u32 (af : Int)] w (OutSp (splitO L af) w) := by
  have af0 : (0 : Int) ≤ (af : Int) := by omega
  have af9 : (af : Int) ≤ 4294967295 := by omega
  by_cases hl : MayDL L
  · have HO := Lib.hid (show splitO L af = (oldD af L, youngD af L, 0) by unfold splitO; rw [if_pos hl])
    have HM := Lib.hid (ddMay_any a n c L w hL true ⟨fun _ => hl, fun _ => rfl⟩)
    have hn : n ≤ 240 := by have := hl.1; rw [hL.1] at this; exact this
    have n0 : (0 : Int) ≤ n := by omega
    have n1 : (n : Int) ≤ 240 := by omega
    have HN := Lib.hid hL.1
    have HWL := Lib.hid (fun q (hq : q ∈ L) => hL.wf hq)
    have HP0 := Lib.hid hL
    clear hL hl haf
    go_enter Try.func9, Try.ntmps9
    go_wp2_with fail
    refine HM.out.mono ?_
    rintro ev w1 ⟨rfl, b1⟩
    have HB := Lib.hid b1
    have HP := HP0
    clear b1 HM
    go_wp2_with fail
    go_loopw [4, 5, 14] (fun v u i wr => ∃ j : Nat, j ≤ n ∧ i = .int .i64 j ∧ PRow wr w.heap.size v (oldD af (L.take j)) ∧ PRow wr w.heap.size u (youngD af (L.take j)) ∧ Dis v u ∧ Below w.heap.size w wr) (fun _ _ i _ => n - (intOf i).toNat)
    case atStart => exact ⟨0, Nat.zero_le _, rfl, prow_nil _ _, prow_nil _ _, dis_nil _, HB.out⟩
    case round =>
      obtain ⟨j, hj, rfl, hvo, huo, hdi, hb⟩ := hrel
      obtain ⟨v, hv⟩ : ∃ v : Value, u4 = v := ⟨_, rfl⟩
      obtain ⟨u, hu⟩ : ∃ v : Value, u5 = v := ⟨_, rfl⟩
      rw [hv] at hvo hdi ⊢
      rw [hu] at huo hdi ⊢
      clear hv hu
      have j0 : (0 : Int) ≤ j := by omega
      have HBR := Lib.hid hb
      have HV := Lib.hid hvo
      have HU := Lib.hid huo
      have HD := Lib.hid hdi
      have HLV := Lib.hid (show (oldD af (L.take j)).length + 1 ≤ 1000000 by have := List.length_filter_le (fun p : Pt => decide (p.2.1 ≤ af)) (L.take j); rw [List.length_take] at this; unfold oldD; omega)
      have HLU := Lib.hid (show (youngD af (L.take j)).length + 1 ≤ 1000000 by have := List.length_filter_le (fun p : Pt => decide (af < p.2.1)) (L.take j); rw [List.length_take] at this; unfold youngD; omega)
      clear hb hvo huo hdi
      by_cases hlt : j < n
      · have j1 : (j : Int) < n := by omega
        have hjl : j < L.length := by rw [HN.out]; exact hlt
        obtain ⟨⟨ya, yb, yi, yt, ys⟩, hP⟩ : ∃ P, L.getD j p0 = P := ⟨_, rfl⟩
        have HPE := Lib.hid hP
        have HWJ := Lib.hid (show WfP (ya, yb, yi, yt, ys) from HWL.out _ (by rw [← hP, ddGetD hjl]; exact List.getElem_mem _))
        have HJL := Lib.hid hjl
        obtain ⟨b2, o2, ea, _, _, v0_, v1_, v2_, v3_, v4_⟩ := (HP.out.below (HBR.out)).cells j hlt
        subst ea
        rw [hP] at v0_ v1_ v2_ v3_ v4_
        simp only at v0_ v1_ v2_ v3_ v4_
        clear hP hjl
        by_cases hyb : af < yb
        · have d1 : decide ((yb : Int) > (af : Int)) = true := decide_eq_true (by omega)
          have d1n : decide (yb > af) = true := decide_eq_true (by omega)
          have d2 : decide ((af : Int) < (yb : Int)) = true := decide_eq_true (by omega)
          have d2n : decide (af < yb) = true := decide_eq_true (by omega)
          have d3 : decide ((yb : Int) ≤ (af : Int)) = false := decide_eq_false (by omega)
          have d3n : decide (yb ≤ af) = false := decide_eq_false (by omega)
          have HYB := Lib.hid hyb
          clear hyb
          have bb1 := (Below.refl wr.heap.size wr).alloc (Nat.le_refl _) (.cells (ptC (ya, yb, yi, yt, ys)).toArray 25)
          have xb1 := Blk.new wr 25 (ptC (ya, yb, yi, yt, ys)).toArray
          have e0 := xb1.cell 0
          have e1 := xb1.cell 1
          have e2 := xb1.cell 2
          have e3 := xb1.cell 3
          have e4 := xb1.cell 4
          obtain ⟨wb, hwb⟩ : ∃ X, wr.alloc (.cells (ptC (ya, yb, yi, yt, ys)).toArray 25) = X := ⟨_, rfl⟩
          rw [hwb] at bb1 xb1 e0 e1 e2 e3 e4
          simp only [ptC] at hwb e0 e1 e2 e3 e4
          replace HV := Lib.hid (HV.out.below bb1)
          replace HU := Lib.hid (HU.out.below bb1)
          have HBB := Lib.hid (HBR.out.trans (bb1.mono HBR.out.size))
          clear bb1 xb1
          have hbb := (Below.refl wb.heap.size wb).alloc (Nat.le_refl _) (.cells (ptC (ya, yb, yi, yt, ys)).toArray 25)
          have HAR := Lib.hid (HU.out.below hbb)
          have HAO := Lib.hid (HV.out.below hbb)
          have HAB := Lib.hid (HBB.out.trans (hbb.mono HBB.out.size))
          have HPT := Lib.hid (one_pts wb (ya, yb, yi, yt, ys) HWJ.out)
          clear hbb
          go_wp2_with (
            at_builtin
            refine wpList_append_plie rfl (.tmp 22) (.tmp 24) rfl w.heap.size u _ rfl HAR.out _ _ 1 1 [(ya, yb, yi, yt, ys)] rfl HPT.out (by decide) HLU.out HAB.out.size ?_
            intro gg cg wn hp' hg' hd' _
            have hbn := app_below HAB.out HAR.out.1 hg' HAB.out.size
            obtain ⟨ho', hdd⟩ := two_app HAO.out (HD.out.symm) hg' hd' ((youngD af (L.take j)).length + 1) cg
            have HRN := Lib.hid hp'
            have HON := Lib.hid ho'
            have HDN := Lib.hid hdd
            have HBN := Lib.hid hbn
            clear hp' hg' hd' hbn ho' hdd)
          clear v0_ v1_ v2_ v3_ v4_ d1 d1n d2 d2n d3 d3n e0 e1 e2 e3 e4
          go_roundw
          case rel =>
            refine ⟨j + 1, by omega, by go_num, ?_, ?_, HDN.out.symm, HBN.out⟩
            · rw [oldD_take HJL.out, HPE.out, if_neg (show ¬ yb ≤ af by have := HYB.out; omega), List.append_nil]
              exact HON.out
            · rw [youngD_take HJL.out, HPE.out, if_pos HYB.out]
              exact HRN.out
          case measure => simp [intOf]; omega
        · have d1 : decide ((yb : Int) > (af : Int)) = false := decide_eq_false (by omega)
          have d1n : decide (yb > af) = false := decide_eq_false (by omega)
          have d2 : decide ((af : Int) < (yb : Int)) = false := decide_eq_false (by omega)
          have d2n : decide (af < yb) = false := decide_eq_false (by omega)
          have d3 : decide ((yb : Int) ≤ (af : Int)) = true := decide_eq_true (by omega)
          have d3n : decide (yb ≤ af) = true := decide_eq_true (by omega)
          have HYB := Lib.hid hyb
          clear hyb
          have bb1 := (Below.refl wr.heap.size wr).alloc (Nat.le_refl _) (.cells (ptC (ya, yb, yi, yt, ys)).toArray 25)
          have xb1 := Blk.new wr 25 (ptC (ya, yb, yi, yt, ys)).toArray
          have e0 := xb1.cell 0
          have e1 := xb1.cell 1
          have e2 := xb1.cell 2
          have e3 := xb1.cell 3
          have e4 := xb1.cell 4
          obtain ⟨wb, hwb⟩ : ∃ X, wr.alloc (.cells (ptC (ya, yb, yi, yt, ys)).toArray 25) = X := ⟨_, rfl⟩
          rw [hwb] at bb1 xb1 e0 e1 e2 e3 e4
          simp only [ptC] at hwb e0 e1 e2 e3 e4
          replace HV := Lib.hid (HV.out.below bb1)
          replace HU := Lib.hid (HU.out.below bb1)
          have HBB := Lib.hid (HBR.out.trans (bb1.mono HBR.out.size))
          clear bb1 xb1
          have hbb := (Below.refl wb.heap.size wb).alloc (Nat.le_refl _) (.cells (ptC (ya, yb, yi, yt, ys)).toArray 25)
          have HAR := Lib.hid (HV.out.below hbb)
          have HAO := Lib.hid (HU.out.below hbb)
          have HAB := Lib.hid (HBB.out.trans (hbb.mono HBB.out.size))
          have HPT := Lib.hid (one_pts wb (ya, yb, yi, yt, ys) HWJ.out)
          clear hbb
          go_wp2_with (
            at_builtin
            refine wpList_append_plie rfl (.tmp 26) (.tmp 28) rfl w.heap.size v _ rfl HAR.out _ _ 1 1 [(ya, yb, yi, yt, ys)] rfl HPT.out (by decide) HLV.out HAB.out.size ?_
            intro gg cg wn hp' hg' hd' _
            have hbn := app_below HAB.out HAR.out.1 hg' HAB.out.size
            obtain ⟨ho', hdd⟩ := two_app HAO.out (HD.out) hg' hd' ((oldD af (L.take j)).length + 1) cg
            have HRN := Lib.hid hp'
            have HON := Lib.hid ho'
            have HDN := Lib.hid hdd
            have HBN := Lib.hid hbn
            clear hp' hg' hd' hbn ho' hdd)
          clear v0_ v1_ v2_ v3_ v4_ d1 d1n d2 d2n d3 d3n e0 e1 e2 e3 e4
          go_roundw
          case rel =>
            refine ⟨j + 1, by omega, by go_num, ?_, ?_, HDN.out, HBN.out⟩
            · rw [oldD_take HJL.out, HPE.out, if_pos (show yb ≤ af by have := HYB.out; omega)]
              exact HRN.out
            · rw [youngD_take HJL.out, HPE.out, if_neg HYB.out, List.append_nil]
              exact HON.out
          case measure => simp [intOf]; omega
      · obtain rfl : j = n := by omega
        have htn : L.take j = L := List.take_of_length_le (by rw [HN.out]; exact Nat.le_refl _)
        have hvo := HV.out
        have huo := HU.out
        rw [htn] at hvo huo
        have HVX := Lib.hid hvo
        have HUX := Lib.hid huo
        clear hvo huo htn
        obtain ⟨av, cv, rfl, _⟩ := HVX.out.pts
        obtain ⟨au, cu, rfl, _⟩ := HUX.out.pts
        go_wp2_with fail
        go_ret3
        rw [HO.out]
        exact ⟨_, _, rfl, HVX.out, HUX.out, HD.out, HBR.out⟩
  · have HO := Lib.hid (show splitO L af = ([], [], 8) by unfold splitO; rw [if_neg hl])
    have HM := Lib.hid (ddMay_any a n c L w hL false ⟨fun x => (by cases x), fun x => absurd x hl⟩)
    clear hL hl haf
    go_enter Try.func9, Try.ntmps9
    go_wp2_with fail
    refine HM.out.mono ?_
    rintro ev w1 ⟨rfl, b1⟩
    have HB := Lib.hid b1
    clear b1
    go_wp2_with fail
    go_ret3
    rw [HO.out]
    exact outSp_no 8 HB.out
end Go.Proofs.Ytadffkfalclpjaa
