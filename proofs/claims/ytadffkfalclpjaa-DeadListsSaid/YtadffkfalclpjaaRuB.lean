/-
  The document's own Parts, Split and Join of layer 16.
-/
import Derived.Test.YtadffkfalclpjaaRuA
import Derived.Test.YtadffkfalclpjaaDdTwo
namespace Go.Proofs.Ytadffkfalclpjaa
open Go.RowKit Go.Shelf
set_option maxRecDepth 100000

theorem below_grown0 {w w' : World} (h : w.grownBy w' none) : Below w.heap.size w w' := ⟨h.os, h.tape, h.output, h.size, fun k hk => h.block k hk (by simp)⟩
set_option linter.unusedSimpArgs false in
set_option maxHeartbeats 8000000 in
theorem ruParts_any (a : Option Addr) (n c : Nat) (L : List Pt) (af : Nat) (w : World) (hL : Pts w w.heap.size a n c L) (haf : af < 4294967296) (hn : n ≤ 1000) : Calls Try.prog 24 #[.slice a n c, .int .u32 (af : Int)] w fun e w' => ∃ v u, e = .returned (.tuple #[v, u]) ∧ PRow w' w.heap.size v (oldD af L) ∧ PRow w' w.heap.size u (youngD af L) ∧ Dis v u ∧ Below w.heap.size w w' := by
  have n0 : (0 : Int) ≤ n := by omega
  have n1 : (n : Int) ≤ 1000 := by omega
  have af0 : (0 : Int) ≤ (af : Int) := by omega
  have af9 : (af : Int) ≤ 4294967295 := by omega
  have HN := Lib.hid hL.1
  have HWL := Lib.hid (fun q (hq : q ∈ L) => hL.wf hq)
  have HP := Lib.hid hL
  clear hL haf
  go_enter Try.func24, Try.ntmps24
  go_wp2_with fail
  go_loopw [6, 7, 8] (fun v u i wr => ∃ j : Nat, j ≤ n ∧ i = .int .i64 j ∧ PRow wr w.heap.size v (oldD af (L.take j)) ∧ PRow wr w.heap.size u (youngD af (L.take j)) ∧ Dis v u ∧ Below w.heap.size w wr) (fun _ _ i _ => n - (intOf i).toNat)
  case atStart => exact ⟨0, Nat.zero_le _, rfl, prow_nil _ _, prow_nil _ _, dis_nil _, Below.refl _ _⟩
  case round =>
    obtain ⟨j, hj, rfl, hvo, huo, hdi, hb⟩ := hrel
    obtain ⟨v, hv⟩ : ∃ v : Value, u6 = v := ⟨_, rfl⟩
    obtain ⟨u, hu⟩ : ∃ v : Value, u7 = v := ⟨_, rfl⟩
    rw [hv] at hvo hdi ⊢
    rw [hu] at huo hdi ⊢
    clear hv hu
    have j0 : (0 : Int) ≤ j := by omega
    have HBR := Lib.hid hb
    have HV := Lib.hid hvo
    have HU := Lib.hid huo
    have HD := Lib.hid hdi
    have HLV := Lib.hid (show (oldD af (L.take j)).length + 1 ≤ 1000000 by have := List.length_filter_le (fun p : Pt => decide (p.2.1 ≤ af)) (L.take j); rw [List.length_take] at this; unfold oldD; omega)
    have HLU := Lib.hid (show (youngD af (L.take j)).length + 1 ≤ 1000000 by have := List.length_filter_le (fun p : Pt => decide (af < p.2.1)) (L.take j); rw [List.length_take] at this; unfold youngD; omega)
    clear hb hvo huo hdi
    by_cases hlt : j < n
    · have j1 : (j : Int) < n := by omega
      have hjl : j < L.length := by rw [HN.out]; exact hlt
      obtain ⟨⟨ya, yb, yi, yt, ys⟩, hP⟩ : ∃ P, L.getD j p0 = P := ⟨_, rfl⟩
      have HPE := Lib.hid hP
      have HWJ := Lib.hid (show WfP (ya, yb, yi, yt, ys) from HWL.out _ (by rw [← hP, ddGetD hjl]; exact List.getElem_mem _))
      have HJL := Lib.hid hjl
      obtain ⟨b2, o2, ea, _, _, v0_, v1_, v2_, v3_, v4_⟩ := (HP.out.below (HBR.out)).cells j hlt
      subst ea
      rw [hP] at v0_ v1_ v2_ v3_ v4_
      simp only at v0_ v1_ v2_ v3_ v4_
      clear hP hjl
      by_cases hyb : af < yb
      · have d1 : decide ((yb : Int) > (af : Int)) = true := decide_eq_true (by omega)
        have d1n : decide (yb > af) = true := decide_eq_true (by omega)
        have d2 : decide ((af : Int) < (yb : Int)) = true := decide_eq_true (by omega)
        have d2n : decide (af < yb) = true := decide_eq_true (by omega)
        have d3 : decide ((yb : Int) ≤ (af : Int)) = false := decide_eq_false (by omega)
        have d3n : decide (yb ≤ af) = false := decide_eq_false (by omega)
        have HYB := Lib.hid hyb
        clear hyb
        have hbb := (Below.refl wr.heap.size wr).alloc (Nat.le_refl _) (.cells (ptC (ya, yb, yi, yt, ys)).toArray 25)
        have HAR := Lib.hid (HU.out.below hbb)
        have HAO := Lib.hid (HV.out.below hbb)
        have HAB := Lib.hid (HBR.out.trans (hbb.mono HBR.out.size))
        have HPT := Lib.hid (one_pts wr (ya, yb, yi, yt, ys) HWJ.out)
        clear hbb
        go_wp2_with (
          at_builtin
          refine wpList_append_plie rfl (.tmp 29) (.tmp 34) rfl w.heap.size u _ rfl HAR.out _ _ 1 1 [(ya, yb, yi, yt, ys)] rfl HPT.out (by decide) HLU.out HAB.out.size ?_
          intro gg cg wn hp' hg' hd' _
          have hbn := app_below HAB.out HAR.out.1 hg' HAB.out.size
          obtain ⟨ho', hdd⟩ := two_app HAO.out (HD.out.symm) hg' hd' ((youngD af (L.take j)).length + 1) cg
          have HRN := Lib.hid hp'
          have HON := Lib.hid ho'
          have HDN := Lib.hid hdd
          have HBN := Lib.hid hbn
          clear hp' hg' hd' hbn ho' hdd)
        clear v0_ v1_ v2_ v3_ v4_ d1 d1n d2 d2n d3 d3n
        go_roundw
        case rel =>
          refine ⟨j + 1, by omega, by go_num, ?_, ?_, HDN.out.symm, HBN.out⟩
          · rw [oldD_take HJL.out, HPE.out, if_neg (show ¬ yb ≤ af by have := HYB.out; omega), List.append_nil]
            exact HON.out
          · rw [youngD_take HJL.out, HPE.out, if_pos HYB.out]
            exact HRN.out
        case measure => simp [intOf]; omega
      · have d1 : decide ((yb : Int) > (af : Int)) = false := decide_eq_false (by omega)
        have d1n : decide (yb > af) = false := decide_eq_false (by omega)
        have d2 : decide ((af : Int) < (yb : Int)) = false := decide_eq_false (by omega)
        have d2n : decide (af < yb) = false := decide_eq_false (by omega)
        have d3 : decide ((yb : Int) ≤ (af : Int)) = true := decide_eq_true (by omega)
        have d3n : decide (yb ≤ af) = true := decide_eq_true (by omega)
        have HYB := Lib.hid hyb
        clear hyb
        have hbb := (Below.refl wr.heap.size wr).alloc (Nat.le_refl _) (.cells (ptC (ya, yb, yi, yt, ys)).toArray 25)
        have HAR := Lib.hid (HV.out.below hbb)
        have HAO := Lib.hid (HU.out.below hbb)
        have HAB := Lib.hid (HBR.out.trans (hbb.mono HBR.out.size))
        have HPT := Lib.hid (one_pts wr (ya, yb, yi, yt, ys) HWJ.out)
        clear hbb
        go_wp2_with (
          at_builtin
          refine wpList_append_plie rfl (.tmp 22) (.tmp 27) rfl w.heap.size v _ rfl HAR.out _ _ 1 1 [(ya, yb, yi, yt, ys)] rfl HPT.out (by decide) HLV.out HAB.out.size ?_
          intro gg cg wn hp' hg' hd' _
          have hbn := app_below HAB.out HAR.out.1 hg' HAB.out.size
          obtain ⟨ho', hdd⟩ := two_app HAO.out (HD.out) hg' hd' ((oldD af (L.take j)).length + 1) cg
          have HRN := Lib.hid hp'
          have HON := Lib.hid ho'
          have HDN := Lib.hid hdd
          have HBN := Lib.hid hbn
          clear hp' hg' hd' hbn ho' hdd)
        clear v0_ v1_ v2_ v3_ v4_ d1 d1n d2 d2n d3 d3n
        go_roundw
        case rel =>
          refine ⟨j + 1, by omega, by go_num, ?_, ?_, HDN.out, HBN.out⟩
          · rw [oldD_take HJL.out, HPE.out, if_pos (show yb ≤ af by have := HYB.out; omega)]
            exact HRN.out
          · rw [youngD_take HJL.out, HPE.out, if_neg HYB.out, List.append_nil]
            exact HON.out
        case measure => simp [intOf]; omega
    · obtain rfl : j = n := by omega
      have htn : L.take j = L := List.take_of_length_le (by rw [HN.out]; exact Nat.le_refl _)
      have hvo := HV.out
      have huo := HU.out
      rw [htn] at hvo huo
      have HVX := Lib.hid hvo
      have HUX := Lib.hid huo
      clear hvo huo htn
      obtain ⟨av, cv, rfl, _⟩ := HVX.out.pts
      obtain ⟨au, cu, rfl, _⟩ := HUX.out.pts
      go_wp2_with fail
      go_ret2
      exact ⟨_, _, rfl, HVX.out, HUX.out, HD.out, HBR.out⟩
theorem ruSplit_any (a : Option Addr) (n c : Nat) (L : List Pt) (af : Nat) (w : World) (hL : Pts w w.heap.size a n c L) (haf : af < 4294967296) : Calls Try.prog 10 #[.slice a n c, .int .u32 (af : Int)] w (OutSp (splitO L af) w) := by
  by_cases hl : MayDL L
  · have HO := Lib.hid (show splitO L af = (oldD af L, youngD af L, 0) by unfold splitO; rw [if_pos hl])
    have HM := Lib.hid (ruMay_any a n c L w hL true ⟨fun _ => hl, fun _ => rfl⟩)
    have HN4 := Lib.hid (show n ≤ 1000 by have := hl.1; rw [hL.1] at this; omega)
    have HP := Lib.hid hL
    have HAF := Lib.hid haf
    clear hL hl haf
    go_enter Try.func10, Try.ntmps10
    go_wp2_with fail
    refine HM.out.mono ?_
    rintro ev w1 ⟨rfl, b1⟩
    have HB := Lib.hid b1
    replace HP := Lib.hid (HP.out.step b1)
    clear b1
    go_wp2_with fail
    refine (ruParts_any a n c L af w1 HP.out HAF.out HN4.out).mono ?_
    rintro ev w2 ⟨v, u, rfl, hv, hu, hd, b2⟩
    have HV := Lib.hid (hv.mono HB.out.size)
    have HU := Lib.hid (hu.mono HB.out.size)
    have HD := Lib.hid hd
    have HB2 := Lib.hid (HB.out.trans (b2.mono HB.out.size))
    obtain ⟨av, cv, rfl, _⟩ := hv.pts
    obtain ⟨au, cu, rfl, _⟩ := hu.pts
    clear hv hu hd b2
    go_wp2_with fail
    go_ret3
    rw [HO.out]
    exact ⟨_, _, rfl, HV.out, HU.out, HD.out, HB2.out⟩
  · have HO := Lib.hid (show splitO L af = ([], [], 8) by unfold splitO; rw [if_neg hl])
    have HM := Lib.hid (ruMay_any a n c L w hL false ⟨fun x => (by cases x), fun x => absurd x hl⟩)
    clear hL hl haf
    go_enter Try.func10, Try.ntmps10
    go_wp2_with fail
    refine HM.out.mono ?_
    rintro ev w1 ⟨rfl, b1⟩
    have HB := Lib.hid b1
    clear b1
    go_wp2_with fail
    go_ret3
    rw [HO.out]
    exact outSp_no 8 HB.out
set_option linter.unusedSimpArgs false in
set_option maxHeartbeats 8000000 in
theorem ruJoin_any (a : Option Addr) (n c : Nat) (L : List Pt) (b : Option Addr) (m d : Nat) (M : List Pt) (w : World) (hL : Pts w w.heap.size a n c L) (hM : Pts w w.heap.size b m d M) : Calls Try.prog 12 #[.slice a n c, .slice b m d] w (OutPr' (joinO L M) w) := by
  have n0 : (0 : Int) ≤ n := by omega
  have m0 : (0 : Int) ≤ m := by omega
  by_cases hl : MayDL L
  · by_cases hm : MayDL M
    · have H1 := Lib.hid (ruMay_any a n c L w hL true ⟨fun _ => hl, fun _ => rfl⟩)
      have H2 := Lib.hid (fun W hW => ruMay_any b m d M W hW true ⟨fun _ => hm, fun _ => rfl⟩)
      have HLL := Lib.hid hL
      have HMM := Lib.hid hM
      have hn4 : n ≤ 240 := by rw [← hL.1]; exact hl.1
      have hm4 : m ≤ 240 := by rw [← hM.1]; exact hm.1
      have HN := Lib.hid hL.1
      have HMN := Lib.hid hM.1
      have HWL := Lib.hid (fun q (hq : q ∈ M) => hM.wf hq)
      have HMAY := Lib.hid (And.intro hl hm)
      have n9 : (n : Int) ≤ 240 := by omega
      have m9 : (m : Int) ≤ 240 := by omega
      clear hL hM hl hm
      go_enter Try.func12, Try.ntmps12
      go_wp2_with fail
      refine H1.out.mono ?_
      rintro ev w1 ⟨rfl, b1⟩
      have HB := Lib.hid b1
      replace HLL := Lib.hid (HLL.out.step b1)
      replace HMM := Lib.hid (HMM.out.step b1)
      clear b1 H1
      go_wp2_with fail
      refine (H2.out w1 HMM.out).mono ?_
      rintro ev w2 ⟨rfl, b2⟩
      replace HB := Lib.hid (HB.out.trans (b2.mono HB.out.size))
      replace HLL := Lib.hid (HLL.out.step b2)
      replace HMM := Lib.hid (HMM.out.step b2)
      clear b2 H2
      have HSZ := Lib.hid (show ([] : List Pt).length + n ≤ 1000000 by show 0 + n ≤ 1000000; omega)
      go_wp2_with (
        at_builtin
        refine wpList_append_prow rfl (.const (.slice none 0 0)) (.tmp 16) rfl w.heap.size _ [] rfl (prow_nil _ _) _ _ _ _ L rfl HLL.out HSZ.out HB.out.size ?_
        intro v3 w3 hp3 hg3
        have hb3 := app_below HB.out (prow_nil w2 w.heap.size).1 hg3 HB.out.size
        have HR3 := Lib.hid hp3
        have HB3 := Lib.hid hb3
        have hz3 : Below w2.heap.size w2 w3 := below_grown0 hg3
        replace HLL := Lib.hid (HLL.out.step hz3)
        replace HMM := Lib.hid (HMM.out.step hz3)
        clear hp3 hg3 hb3 hz3)
      go_loopw [6, 7] (fun v i wr => (∃ j : Nat, j ≤ m ∧ i = .int .i64 j ∧ (∀ t, t < j → ¬ HasAt L (M.getD t p0).1) ∧ PRow wr w.heap.size v (bothD L (M.take j)) ∧ Below w.heap.size w wr ∧ Below w3.heap.size w3 wr)) (fun _ i _ => m - (intOf i).toNat)
      case atStart => exact ⟨0, Nat.zero_le _, rfl, fun t ht => absurd ht (Nat.not_lt_zero _), HR3.out, HB3.out, Below.refl _ _⟩
      case round =>
        obtain ⟨j, hj, rfl, hno, hvo, hb, hbz⟩ := hrel
        obtain ⟨v, hv⟩ : ∃ v : Value, u6 = v := ⟨_, rfl⟩
        rw [hv] at hvo ⊢
        clear hv
        have j0 : (0 : Int) ≤ j := by omega
        have HBR := Lib.hid hb
        have HBZ := Lib.hid hbz
        have HNO := Lib.hid hno
        have hlen : (bothD L (M.take j)).length = n + j := by rw [bothD_length, List.length_take, HN.out, HMN.out]; omega
        obtain ⟨av, cv, rfl, htv⟩ := hvo.pts
        rw [hlen] at htv hvo ⊢
        have HV := Lib.hid hvo
        have HT := Lib.hid htv
        have HLEN := Lib.hid hlen
        clear hb hvo hno hbz htv hlen
        by_cases hlt : j < m
        · have j1 : (j : Int) < m := by omega
          have hjl : j < M.length := by rw [HMN.out]; exact hlt
          obtain ⟨⟨ya, yb, yi, yt, ys⟩, hP⟩ : ∃ P, M.getD j p0 = P := ⟨_, rfl⟩
          have HPE := Lib.hid hP
          have HWJ := Lib.hid (show WfP (ya, yb, yi, yt, ys) from HWL.out _ (by rw [← hP, ddGetD hjl]; exact List.getElem_mem _))
          have HJL := Lib.hid hjl
          obtain ⟨b2, o2, ea, _, _, v0_, v1_, v2_, v3_, v4_⟩ := (HMM.out.below HBZ.out).cells j hlt
          subst ea
          rw [hP] at v0_ v1_ v2_ v3_ v4_
          simp only at v0_ v1_ v2_ v3_ v4_
          clear hP hjl
          by_cases hh : HasAt L ya
          · have HO := Lib.hid (show joinO L M = ([], 2) by unfold joinO; rw [if_pos HMAY.out, if_pos ⟨(ya, yb, yi, yt, ys), by rw [← HPE.out, ddGetD HJL.out]; exact List.getElem_mem _, hh⟩])
            have HA := Lib.hid (ruHas_any a n c L ya wr (HLL.out.step HBZ.out) true ⟨fun _ => hh, fun _ => rfl⟩)
            clear hh
            go_wp2_with fail
            clear v0_ v1_ v2_ v3_ v4_
            refine HA.out.mono ?_
            rintro ev w4 ⟨rfl, b4⟩
            replace HBR := Lib.hid (HBR.out.trans (b4.mono HBR.out.size))
            clear b4
            go_wp2_with fail
            go_ret2
            rw [HO.out]
            exact outPr_no' 2 HBR.out
          · have HA := Lib.hid (ruHas_any a n c L ya wr (HLL.out.step HBZ.out) false ⟨fun x => (by cases x), fun x => absurd x hh⟩)
            have HHN := Lib.hid hh
            clear hh
            go_wp2_with fail
            clear v0_ v1_ v2_ v3_ v4_
            refine HA.out.mono ?_
            rintro ev w4 ⟨rfl, b4⟩
            replace HBR := Lib.hid (HBR.out.trans (b4.mono HBR.out.size))
            replace HBZ := Lib.hid (HBZ.out.trans (b4.mono HBZ.out.size))
            replace HT := Lib.hid (HT.out.step b4)
            obtain ⟨_, _, ea, _, _, v0_, v1_, v2_, v3_, v4_⟩ := (HMM.out.below HBZ.out).cells j hlt
            cases ea
            rw [HPE.out] at v0_ v1_ v2_ v3_ v4_
            simp only at v0_ v1_ v2_ v3_ v4_
            clear b4
            go_wp2_with fail
            clear v0_ v1_ v2_ v3_ v4_
            refine (ruWith_any av (n + j) cv (bothD L (M.take j)) (ya, yb, yi, yt, ys) w4 HT.out HWJ.out (by omega)).mono ?_
            rintro ev w5 ⟨v5, rfl, hr5, b5⟩
            have HR5 := Lib.hid (hr5.mono HBR.out.size)
            replace HBR := Lib.hid (HBR.out.trans (b5.mono HBR.out.size))
            replace HBZ := Lib.hid (HBZ.out.trans (b5.mono HBZ.out.size))
            obtain ⟨a5, c5, rfl, _⟩ := hr5.pts
            clear b5 hr5
            go_wp2_with fail
            go_roundw
            case rel =>
              have hbt : bothD L (M.take (j + 1)) = inDL (bothD L (M.take j)) (ya, yb, yi, yt, ys) := by
                unfold bothD
                rw [List.take_succ_eq_append_getElem HJL.out, List.foldl_append]
                have := HPE.out
                rw [ddGetD HJL.out] at this
                rw [this]
                rfl
              refine ⟨j + 1, by omega, by go_num, fun t ht => ?_, by rw [hbt]; exact HR5.out, HBR.out, HBZ.out⟩
              by_cases e : t = j
              · subst e
                rw [HPE.out]
                exact HHN.out
              · exact HNO.out t (by omega)
            case measure => simp [intOf]; omega
        · obtain rfl : j = m := by omega
          have htn : M.take j = M := List.take_of_length_le (by rw [HMN.out]; exact Nat.le_refl _)
          have hno : ¬ Meet L M := fun ⟨q, hq, h⟩ => by
            obtain ⟨i, hi, rfl⟩ := List.getElem_of_mem hq
            have := HNO.out i (by rw [HMN.out] at hi; exact hi)
            rw [ddGetD hi] at this
            exact this h
          have hvo := HV.out
          have hle := HLEN.out
          rw [htn] at hvo hle
          by_cases hf : 240 < n + j
          · have HO := Lib.hid (show joinO L M = ([], 9) by unfold joinO; rw [if_pos HMAY.out, if_neg hno, if_pos (by rw [hle]; exact hf)])
            have d1 : decide (((n + j : Nat) : Int) > 240) = true := decide_eq_true (by omega)
            have d2 : decide ((240 : Int) < ((n + j : Nat) : Int)) = true := decide_eq_true (by omega)
            have d3 : decide ((n : Int) + (j : Int) > 240) = true := decide_eq_true (by omega)
            have d4 : decide ((240 : Int) < (n : Int) + (j : Int)) = true := decide_eq_true (by omega)
            clear hf hno hvo hle htn
            go_wp2_with fail
            go_ret2
            rw [HO.out]
            exact outPr_no' 9 HBR.out
          · have HO := Lib.hid (show joinO L M = (bothD L M, 0) by unfold joinO; rw [if_pos HMAY.out, if_neg hno, if_neg (by rw [hle]; exact hf)])
            have HVX := Lib.hid hvo
            have d1 : decide (((n + j : Nat) : Int) > 240) = false := decide_eq_false (by omega)
            have d2 : decide ((240 : Int) < ((n + j : Nat) : Int)) = false := decide_eq_false (by omega)
            have d3 : decide ((n : Int) + (j : Int) > 240) = false := decide_eq_false (by omega)
            have d4 : decide ((240 : Int) < (n : Int) + (j : Int)) = false := decide_eq_false (by omega)
            clear hf hno hvo hle htn
            go_wp2_with fail
            go_ret2
            rw [HO.out]
            exact ⟨_, rfl, HVX.out, HBR.out⟩
    · have HO := Lib.hid (show joinO L M = ([], 8) by unfold joinO; rw [if_neg fun h => hm h.2])
      have H1 := Lib.hid (ruMay_any a n c L w hL true ⟨fun _ => hl, fun _ => rfl⟩)
      have HM := Lib.hid hM
      have H2 := Lib.hid (fun W hW => ruMay_any b m d M W hW false ⟨fun x => (by cases x), fun x => absurd x hm⟩)
      clear hL hM hl hm
      go_enter Try.func12, Try.ntmps12
      go_wp2_with fail
      refine H1.out.mono ?_
      rintro ev w1 ⟨rfl, b1⟩
      have HB := Lib.hid b1
      replace HM := Lib.hid (HM.out.step b1)
      clear b1
      go_wp2_with fail
      refine (H2.out w1 HM.out).mono ?_
      rintro ev w2 ⟨rfl, b2⟩
      replace HB := Lib.hid (HB.out.trans (b2.mono HB.out.size))
      clear b2
      go_wp2_with fail
      go_ret2
      rw [HO.out]
      exact outPr_no' 8 HB.out
  · have HO := Lib.hid (show joinO L M = ([], 8) by unfold joinO; rw [if_neg fun h => hl h.1])
    have H1 := Lib.hid (ruMay_any a n c L w hL false ⟨fun x => (by cases x), fun x => absurd x hl⟩)
    clear hL hM hl
    go_enter Try.func12, Try.ntmps12
    go_wp2_with fail
    refine H1.out.mono ?_
    rintro ev w1 ⟨rfl, b1⟩
    have HB := Lib.hid b1
    clear b1
    go_wp2_with fail
    go_ret2
    rw [HO.out]
    exact outPr_no' 8 HB.out
end Go.Proofs.Ytadffkfalclpjaa
