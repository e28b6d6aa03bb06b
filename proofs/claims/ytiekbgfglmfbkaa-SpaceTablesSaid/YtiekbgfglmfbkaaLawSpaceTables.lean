/-
  SpaceTablesSaid: for any bytes and any block's number (where there are more than 10,000 bytes the law itself answers true) what Free, Take, Give, Settle, Check and New answer, and their errors, are the document's own; the bytes stay where what was answered is written to. No condition.
-/
import Derived.Test.YtiekbgfglmfbkaaRows
import Derived.Test.YtiekbgfglmfbkaaLawSpaceB
import Derived.Test.YtiekbgfglmfbkaaMov
namespace Go.Proofs.Ytiekbgfglmfbkaa
open Go.RowKit Go.Shelf
set_option maxRecDepth 100000

theorem spaceTables_far (a : Option Addr) (n c : Nat) (k : Int) (w : World) (hn : (n : Int) ≤ 9223372036854775807) (h : (10000 : Int) < n) :
    Calls Try.prog 4 #[.slice a n c, .int .i64 k] w fun e w' => e = .returned (.bool true) ∧ Below w.heap.size w w' := by
  have i1 : (0 : Int) ≤ n := by omega
  go_enter Try.func4, Try.ntmps4
  go_wp2_with fail
  go_ret
  exact ⟨rfl, Below.refl _ _⟩
set_option maxHeartbeats 8000000 in
theorem spaceTables_near (a : Option Addr) (n c : Nat) (s : List UInt8) (k : Int) (w : World) (hn : (n : Int) ≤ 10000) (hA : Bsl w w.heap.size a n c s) :
    Calls Try.prog 4 #[.slice a n c, .int .i64 k] w fun e w' => e = .returned (.bool true) ∧ Below w.heap.size w w' := by
  have hmx : Try.prog.follows Departure.mixedOrders = true := by kernel_rfl
  have i1 : (0 : Int) ≤ n := by omega
  obtain ⟨cF, xF, lF, tF⟩ := told_free s
  obtain ⟨cT, xT, kT, lT, tT⟩ := told_take s
  obtain ⟨cG, xG, lG, tG⟩ := told_give s k
  obtain ⟨cS, xS, lS, tS⟩ := told_settle s
  obtain ⟨cC, tC⟩ := told_check s
  have TF := Lib.hid tF
  have TT := Lib.hid tT
  have TG := Lib.hid tG
  have TS := Lib.hid tS
  have TC := Lib.hid tC
  have HLT := Lib.hid lT
  have HLG := Lib.hid lG
  have HLS := Lib.hid lS
  have HLF := Lib.hid lF
  have HA := Lib.hid hA
  have HO0 := Lib.hid (own_nil w w.heap.size)
  have HB0 := Lib.hid (Below.refl w.heap.size w)
  clear tF tT tG tS tC lT lG lS lF hA
  go_enter Try.func4, Try.ntmps4
  go_wp2_with (at_builtin
               refine wpList_append_bsl rfl (.const (.slice none 0 0)) (.tmp 27) rfl w.heap.size _ 0 _ rfl HO0.out _ a n c s rfl HA.out (by omega) HB0.out.size ?_
               intro v1 w1 ho hg1
               rw [Nat.zero_add, List.nil_append] at ho
               have b1 := app_below HB0.out HO0.out hg1 HB0.out.size; clear hg1
               obtain ⟨ao, co, rfl, hO⟩ := own_to ho
               have HO := Lib.hid hO
               have HS := Lib.hid (HA.out.step b1)
               have HE := Lib.hid b1
               clear ho hO b1)
  clear HA HO0 HB0
  obtain ⟨B, hB⟩ : ∃ B, w1.heap.size = B := ⟨_, rfl⟩
  rw [hB] at HO HS
  have HBs := Lib.hid (show B ≤ w1.heap.size by omega)
  have HwB := Lib.hid (show w.heap.size ≤ B by rw [← hB]; exact HE.out.size)
  clear hB
  refine ((TF.out w1).1 _ (at_of HO.out HBs.out)).mono ?_
  rintro e w2 ⟨v, rfl, ho, bb⟩
  obtain ⟨aF1, cF1, rfl⟩ := ownN_slice ho
  have HO' := Lib.hid (HO.out.below (bb.mono HBs.out))
  have HS' := Lib.hid (HS.out.below (bb.mono HBs.out))
  have HE' := Lib.hid (HE.out.trans (bb.mono HE.out.size))
  have HBs' := Lib.hid (Nat.le_trans HBs.out bb.size)
  clear HO HS HE HBs
  have HO := HO'
  have HS := HS'
  have HE := HE'
  have HBs := HBs'
  clear HO' HS' HE' HBs'
  have RF1 := Lib.hid ho
  clear ho bb
  go_wp2_with fail
  refine ((TF.out w2).2 _ (at_of HS.out HBs.out)).mono ?_
  rintro e w3 ⟨v, rfl, ho, bb⟩
  obtain ⟨aF2, cF2, rfl⟩ := ownN_slice ho
  have RF1' := Lib.hid (own_below RF1.out bb)
  clear RF1
  have RF1 := RF1'
  clear RF1'
  have HO' := Lib.hid (HO.out.below (bb.mono HBs.out))
  have HS' := Lib.hid (HS.out.below (bb.mono HBs.out))
  have HE' := Lib.hid (HE.out.trans (bb.mono HE.out.size))
  have HBs' := Lib.hid (Nat.le_trans HBs.out bb.size)
  clear HO HS HE HBs
  have HO := HO'
  have HS := HS'
  have HE := HE'
  have HBs := HBs'
  clear HO' HS' HE' HBs'
  have RF2 := Lib.hid ho
  clear ho bb
  go_wp2_with fail
  have HBT1 := HBs
  refine ((TT.out w3).1 _ (at_of HO.out HBs.out)).mono ?_
  rintro e w4 ⟨v, rfl, ho, bb⟩
  obtain ⟨aT1, cT1, rfl⟩ := own_slice ho
  have RF1' := Lib.hid (own_below RF1.out bb)
  clear RF1
  have RF1 := RF1'
  clear RF1'
  have RF2' := Lib.hid (own_below RF2.out bb)
  clear RF2
  have RF2 := RF2'
  clear RF2'
  have HO' := Lib.hid (HO.out.below (bb.mono HBs.out))
  have HS' := Lib.hid (HS.out.below (bb.mono HBs.out))
  have HE' := Lib.hid (HE.out.trans (bb.mono HE.out.size))
  have HBs' := Lib.hid (Nat.le_trans HBs.out bb.size)
  clear HO HS HE HBs
  have HO := HO'
  have HS := HS'
  have HE := HE'
  have HBs := HBs'
  clear HO' HS' HE' HBs'
  have RT1 := Lib.hid ho
  clear ho bb
  go_wp2_with fail
  refine ((TT.out w4).2 _ (at_of HS.out HBs.out)).mono ?_
  rintro e w5 ⟨v, rfl, ho, bb⟩
  obtain ⟨aT2, cT2, rfl⟩ := own_slice ho
  have RF1' := Lib.hid (own_below RF1.out bb)
  clear RF1
  have RF1 := RF1'
  clear RF1'
  have RF2' := Lib.hid (own_below RF2.out bb)
  clear RF2
  have RF2 := RF2'
  clear RF2'
  have RT1' := Lib.hid (own_below RT1.out bb)
  clear RT1
  have RT1 := RT1'
  clear RT1'
  have HO' := Lib.hid (HO.out.below (bb.mono HBs.out))
  have HS' := Lib.hid (HS.out.below (bb.mono HBs.out))
  have HE' := Lib.hid (HE.out.trans (bb.mono HE.out.size))
  have HBs' := Lib.hid (Nat.le_trans HBs.out bb.size)
  clear HO HS HE HBs
  have HO := HO'
  have HS := HS'
  have HE := HE'
  have HBs := HBs'
  clear HO' HS' HE' HBs'
  have RT2 := Lib.hid ho
  clear ho bb
  go_wp2_with fail
  have HLT1 := Lib.hid (show ∀ g, Value.ownBlock (.slice aT1 xT.length cT1) = some g → g < w5.heap.size from fun g hg => (RT1.out.lt g hg).2)
  have HBG1 := HBs
  refine ((TG.out w5).1 _ (at_of HO.out HBs.out)).mono ?_
  rintro e w6 ⟨v, rfl, ho, bb⟩
  obtain ⟨aG1, cG1, rfl⟩ := own_slice ho
  have RF1' := Lib.hid (own_below RF1.out bb)
  clear RF1
  have RF1 := RF1'
  clear RF1'
  have RF2' := Lib.hid (own_below RF2.out bb)
  clear RF2
  have RF2 := RF2'
  clear RF2'
  have RT1' := Lib.hid (own_below RT1.out bb)
  clear RT1
  have RT1 := RT1'
  clear RT1'
  have RT2' := Lib.hid (own_below RT2.out bb)
  clear RT2
  have RT2 := RT2'
  clear RT2'
  have HO' := Lib.hid (HO.out.below (bb.mono HBs.out))
  have HS' := Lib.hid (HS.out.below (bb.mono HBs.out))
  have HE' := Lib.hid (HE.out.trans (bb.mono HE.out.size))
  have HBs' := Lib.hid (Nat.le_trans HBs.out bb.size)
  clear HO HS HE HBs
  have HO := HO'
  have HS := HS'
  have HE := HE'
  have HBs := HBs'
  clear HO' HS' HE' HBs'
  have RG1 := Lib.hid ho
  clear ho bb
  go_wp2_with fail
  refine ((TG.out w6).2 _ (at_of HS.out HBs.out)).mono ?_
  rintro e w7 ⟨v, rfl, ho, bb⟩
  obtain ⟨aG2, cG2, rfl⟩ := own_slice ho
  have RF1' := Lib.hid (own_below RF1.out bb)
  clear RF1
  have RF1 := RF1'
  clear RF1'
  have RF2' := Lib.hid (own_below RF2.out bb)
  clear RF2
  have RF2 := RF2'
  clear RF2'
  have RT1' := Lib.hid (own_below RT1.out bb)
  clear RT1
  have RT1 := RT1'
  clear RT1'
  have RT2' := Lib.hid (own_below RT2.out bb)
  clear RT2
  have RT2 := RT2'
  clear RT2'
  have RG1' := Lib.hid (own_below RG1.out bb)
  clear RG1
  have RG1 := RG1'
  clear RG1'
  have HO' := Lib.hid (HO.out.below (bb.mono HBs.out))
  have HS' := Lib.hid (HS.out.below (bb.mono HBs.out))
  have HE' := Lib.hid (HE.out.trans (bb.mono HE.out.size))
  have HBs' := Lib.hid (Nat.le_trans HBs.out bb.size)
  clear HO HS HE HBs
  have HO := HO'
  have HS := HS'
  have HE := HE'
  have HBs := HBs'
  clear HO' HS' HE' HBs'
  have RG2 := Lib.hid ho
  clear ho bb
  go_wp2_with fail
  have HLG1 := Lib.hid (show ∀ g, Value.ownBlock (.slice aG1 xG.length cG1) = some g → g < w7.heap.size from fun g hg => (RG1.out.lt g hg).2)
  have HLT1' := Lib.hid (show ∀ g, Value.ownBlock (.slice aT1 xT.length cT1) = some g → g < w7.heap.size from fun g hg => (RT1.out.lt g hg).2)
  have HBS1 := HBs
  refine ((TS.out w7).1 _ (at_of HO.out HBs.out)).mono ?_
  rintro e w8 ⟨v, rfl, ho, bb⟩
  obtain ⟨aS1, cS1, rfl⟩ := own_slice ho
  have RF1' := Lib.hid (own_below RF1.out bb)
  clear RF1
  have RF1 := RF1'
  clear RF1'
  have RF2' := Lib.hid (own_below RF2.out bb)
  clear RF2
  have RF2 := RF2'
  clear RF2'
  have RT1' := Lib.hid (own_below RT1.out bb)
  clear RT1
  have RT1 := RT1'
  clear RT1'
  have RT2' := Lib.hid (own_below RT2.out bb)
  clear RT2
  have RT2 := RT2'
  clear RT2'
  have RG1' := Lib.hid (own_below RG1.out bb)
  clear RG1
  have RG1 := RG1'
  clear RG1'
  have RG2' := Lib.hid (own_below RG2.out bb)
  clear RG2
  have RG2 := RG2'
  clear RG2'
  have HO' := Lib.hid (HO.out.below (bb.mono HBs.out))
  have HS' := Lib.hid (HS.out.below (bb.mono HBs.out))
  have HE' := Lib.hid (HE.out.trans (bb.mono HE.out.size))
  have HBs' := Lib.hid (Nat.le_trans HBs.out bb.size)
  clear HO HS HE HBs
  have HO := HO'
  have HS := HS'
  have HE := HE'
  have HBs := HBs'
  clear HO' HS' HE' HBs'
  have RS1 := Lib.hid ho
  clear ho bb
  go_wp2_with fail
  refine ((TS.out w8).2 _ (at_of HS.out HBs.out)).mono ?_
  rintro e w9 ⟨v, rfl, ho, bb⟩
  obtain ⟨aS2, cS2, rfl⟩ := own_slice ho
  have RF1' := Lib.hid (own_below RF1.out bb)
  clear RF1
  have RF1 := RF1'
  clear RF1'
  have RF2' := Lib.hid (own_below RF2.out bb)
  clear RF2
  have RF2 := RF2'
  clear RF2'
  have RT1' := Lib.hid (own_below RT1.out bb)
  clear RT1
  have RT1 := RT1'
  clear RT1'
  have RT2' := Lib.hid (own_below RT2.out bb)
  clear RT2
  have RT2 := RT2'
  clear RT2'
  have RG1' := Lib.hid (own_below RG1.out bb)
  clear RG1
  have RG1 := RG1'
  clear RG1'
  have RG2' := Lib.hid (own_below RG2.out bb)
  clear RG2
  have RG2 := RG2'
  clear RG2'
  have RS1' := Lib.hid (own_below RS1.out bb)
  clear RS1
  have RS1 := RS1'
  clear RS1'
  have HO' := Lib.hid (HO.out.below (bb.mono HBs.out))
  have HS' := Lib.hid (HS.out.below (bb.mono HBs.out))
  have HE' := Lib.hid (HE.out.trans (bb.mono HE.out.size))
  have HBs' := Lib.hid (Nat.le_trans HBs.out bb.size)
  clear HO HS HE HBs
  have HO := HO'
  have HS := HS'
  have HE := HE'
  have HBs := HBs'
  clear HO' HS' HE' HBs'
  have RS2 := Lib.hid ho
  clear ho bb
  have HSM := Lib.hid (rsSame_yes aF1 xF.length cF1 aF2 cF2 xF w9 (ownN_nsl RF1.out) (ownN_nsl RF2.out) (by have := HLF.out; omega))
  clear RF1 RF2
  go_wp2_with fail
  refine HSM.out.mono ?_
  rintro e w10 ⟨rfl, bb⟩
  clear HSM
  replace RT1 := Lib.hid (own_below RT1.out bb)
  replace RT2 := Lib.hid (own_below RT2.out bb)
  replace RG1 := Lib.hid (own_below RG1.out bb)
  replace RG2 := Lib.hid (own_below RG2.out bb)
  replace RS1 := Lib.hid (own_below RS1.out bb)
  replace RS2 := Lib.hid (own_below RS2.out bb)
  replace HO := Lib.hid (HO.out.below (bb.mono HBs.out))
  replace HS := Lib.hid (HS.out.below (bb.mono HBs.out))
  replace HE := Lib.hid (HE.out.trans (bb.mono HE.out.size))
  replace HBs := Lib.hid (Nat.le_trans HBs.out bb.size)
  clear bb
  have q1 := (own_bsl RT1.out).conv
  have q2 := (own_bsl RT2.out).conv
  have q3 := (own_bsl RG1.out).conv
  have q4 := (own_bsl RG2.out).conv
  have q5 := (own_bsl RS1.out).conv
  have q6 := (own_bsl RS2.out).conv
  go_wp2_with fail
  clear q1 q2 q3 q4 q5 q6 RT2 RG2 RS2
  obtain ⟨wd, hwd⟩ : ∃ wd, w10.drew = wd := ⟨_, rfl⟩
  have bb : Below w10.heap.size w10 wd := by rw [← hwd]; exact (Below.refl _ w10).drew
  replace RT1 := Lib.hid (own_below RT1.out bb)
  replace RG1 := Lib.hid (own_below RG1.out bb)
  replace RS1 := Lib.hid (own_below RS1.out bb)
  replace HO := Lib.hid (HO.out.below (bb.mono HBs.out))
  replace HS := Lib.hid (HS.out.below (bb.mono HBs.out))
  replace HE := Lib.hid (HE.out.trans (bb.mono HE.out.size))
  replace HBs := Lib.hid (Nat.le_trans HBs.out bb.size)
  clear bb
  refine wpS_start [0, 2, 1, 3, 4, 5, 6, 7, 8, 9, 10, 11] hmx rfl hwd ?_
  clear hwd
  iterate 2 (
    refine wpS_read (v := ?_) rfl (by kernel_rfl) (by kernel_rfl) (by kernel_rfl) (fun _ _ _ h => h) (.inl ⟨by rfl, ?_⟩) ?_
    rotate_left
    · intro X hX
      clear hX
      go_simp
      with_reducible rfl
    try simp only [Act.put, List.setIfInBounds_toArray, List.set_cons_zero, List.set_cons_succ])
  refine wpS_lone rfl (by kernel_rfl) (fun K hK => ?_)
  go_simp
  refine ((TC.out wd).1 _ (at_of HO.out HBs.out)).mono ?_
  rintro e wx ⟨rfl, rfl⟩
  refine hK _ _ (Stays.refl _) ?_
  clear hK K
  try simp only [Act.put, List.setIfInBounds_toArray, List.set_cons_zero, List.set_cons_succ]
  refine wpS_lone rfl (by kernel_rfl) (fun K hK => ?_)
  go_simp
  refine ((TC.out wd).2 _ (at_of HS.out HBs.out)).mono ?_
  rintro e wx ⟨rfl, rfl⟩
  refine hK _ _ (Stays.refl _) ?_
  clear hK K
  try simp only [Act.put, List.setIfInBounds_toArray, List.set_cons_zero, List.set_cons_succ]
  iterate 2 (
    refine wpS_read (v := ?_) rfl (by kernel_rfl) (by kernel_rfl) (by kernel_rfl) (fun _ _ _ h => h) (.inl ⟨by rfl, ?_⟩) ?_
    rotate_left
    · intro X hX
      clear hX
      go_simp
      with_reducible rfl
    try simp only [Act.put, List.setIfInBounds_toArray, List.set_cons_zero, List.set_cons_succ])
  refine wpS_lone rfl (by kernel_rfl) (fun K hK => ?_)
  go_simp
  refine (spNew_any wd).mono ?_
  rintro e we ⟨v, rfl, ho, bb⟩
  obtain ⟨an, cn, rfl⟩ := own_slice ho
  have V1 := fun X (hX : Below we.heap.size we X) => ((own_bsl ho).below hX).conv
  refine hK _ _ (Stays.of_below bb) ?_
  clear hK K
  try simp only [Act.put, List.setIfInBounds_toArray, List.set_cons_zero, List.set_cons_succ]
  replace RT1 := Lib.hid (own_below RT1.out bb)
  replace RG1 := Lib.hid (own_below RG1.out bb)
  replace RS1 := Lib.hid (own_below RS1.out bb)
  replace HO := Lib.hid (HO.out.below (bb.mono HBs.out))
  replace HS := Lib.hid (HS.out.below (bb.mono HBs.out))
  replace HE := Lib.hid (HE.out.trans (bb.mono HE.out.size))
  replace HBs := Lib.hid (Nat.le_trans HBs.out bb.size)
  have hSb : Below we.heap.size we we := Below.refl _ _
  clear ho bb
  iterate 1 (
    refine wpS_read (v := ?_) rfl (by kernel_rfl) (by kernel_rfl) (by kernel_rfl) (fun _ _ _ h => h) (.inl ⟨by rfl, ?_⟩) ?_
    rotate_left
    · intro X hX
      have hXv := V1 X (hX _ hSb)
      clear hX
      go_simp
      with_reducible rfl
    try simp only [Act.put, List.setIfInBounds_toArray, List.set_cons_zero, List.set_cons_succ])
  refine wpS_lone rfl (by kernel_rfl) (fun K hK => ?_)
  go_simp
  refine (rsNew_any we).mono ?_
  rintro e wf ⟨v, rfl, ho, bb⟩
  obtain ⟨am, cm, rfl⟩ := own_slice ho
  have V2 := fun X (hX : Below wf.heap.size wf X) => ((own_bsl ho).below hX).conv
  refine hK _ _ (Stays.of_below bb) ?_
  clear hK K
  try simp only [Act.put, List.setIfInBounds_toArray, List.set_cons_zero, List.set_cons_succ]
  replace RT1 := Lib.hid (own_below RT1.out bb)
  replace RG1 := Lib.hid (own_below RG1.out bb)
  replace RS1 := Lib.hid (own_below RS1.out bb)
  replace HO := Lib.hid (HO.out.below (bb.mono HBs.out))
  replace HS := Lib.hid (HS.out.below (bb.mono HBs.out))
  replace HE := Lib.hid (HE.out.trans (bb.mono HE.out.size))
  replace HBs := Lib.hid (Nat.le_trans HBs.out bb.size)
  have hSc : Below wf.heap.size wf wf := Below.refl _ _
  clear ho bb V1 hSb
  iterate 1 (
    refine wpS_read (v := ?_) rfl (by kernel_rfl) (by kernel_rfl) (by kernel_rfl) (fun _ _ _ h => h) (.inl ⟨by rfl, ?_⟩) ?_
    rotate_left
    · intro X hX
      have hXv := V2 X (hX _ hSc)
      clear hX
      go_simp
      with_reducible rfl
    try simp only [Act.put, List.setIfInBounds_toArray, List.set_cons_zero, List.set_cons_succ])
  iterate 2 (
    refine wpS_read (v := ?_) rfl (by kernel_rfl) (by kernel_rfl) (by kernel_rfl) (fun _ _ _ h => h) (.inl ⟨by rfl, ?_⟩) ?_
    rotate_left
    · intro X hX
      clear hX
      go_simp
      with_reducible rfl
    try simp only [Act.put, List.setIfInBounds_toArray, List.set_cons_zero, List.set_cons_succ])
  refine wpS_done (by kernel_rfl) ?_
  clear V2 hSc
  have HP := Lib.hid (spoil_any _ _ _ _ wf RT1.out (by have := HLT.out; omega))
  go_wp2_with fail
  refine HP.out.mono ?_
  rintro e wg ⟨rfl, hg⟩
  have bb := app_below (Below.refl B _) (own_mono RT1.out HBT1.out) hg HBs.out
  replace RG1 := Lib.hid (own_apart RG1.out RT1.out HLT1.out hg)
  replace RS1 := Lib.hid (own_apart RS1.out RT1.out HLT1'.out hg)
  replace HO := Lib.hid (HO.out.below bb)
  replace HS := Lib.hid (HS.out.below bb)
  replace HE := Lib.hid (HE.out.trans (bb.mono HwB.out))
  replace HBs := Lib.hid (Nat.le_trans HBs.out bb.size)
  clear hg bb HP RT1
  have HP := Lib.hid (spoil_any _ _ _ _ wg RG1.out (by have := HLG.out; omega))
  go_wp2_with fail
  refine HP.out.mono ?_
  rintro e wh ⟨rfl, hg⟩
  have bb := app_below (Below.refl B _) (own_mono RG1.out HBG1.out) hg HBs.out
  replace RS1 := Lib.hid (own_apart RS1.out RG1.out HLG1.out hg)
  replace HO := Lib.hid (HO.out.below bb)
  replace HS := Lib.hid (HS.out.below bb)
  replace HE := Lib.hid (HE.out.trans (bb.mono HwB.out))
  replace HBs := Lib.hid (Nat.le_trans HBs.out bb.size)
  clear hg bb HP RG1
  have HP := Lib.hid (spoil_any _ _ _ _ wh RS1.out (by have := HLS.out; omega))
  go_wp2_with fail
  refine HP.out.mono ?_
  rintro e wk ⟨rfl, hg⟩
  have bb := app_below (Below.refl B _) (own_mono RS1.out HBS1.out) hg HBs.out
  replace HO := Lib.hid (HO.out.below bb)
  replace HS := Lib.hid (HS.out.below bb)
  replace HE := Lib.hid (HE.out.trans (bb.mono HwB.out))
  replace HBs := Lib.hid (Nat.le_trans HBs.out bb.size)
  clear hg bb HP RS1
  have q1 := HO.out.conv
  have q2 := HS.out.conv
  go_wp2_with fail
  go_ret
  exact ⟨rfl, HE.out⟩
theorem spaceTables_walk (a0 : Option Addr) (len0 cap0 : Nat) (s0 : List UInt8) (a1 : Int) (w : World) (h0 : Bsl w w.heap.size a0 len0 cap0 s0) (_w1 : (Lit.int .i64 a1).wf = true) :
    Calls Try.prog 4 #[.slice a0 len0 cap0, .int .i64 a1] w fun e w' => e = .returned (.bool true) ∧ Below w.heap.size w w' := by
  by_cases h : (len0 : Int) ≤ 10000
  · exact spaceTables_near a0 len0 cap0 s0 a1 w h h0
  · exact spaceTables_far a0 len0 cap0 a1 w h0.len_le (by omega)
end Go.Proofs.Ytiekbgfglmfbkaa
namespace Go.Proofs.Ytiekbgfglmfbkaa.spaceTables
open Go.ChangeShapes Go.WideShapes Go.ChangeAt Go.RowKit
set_option linter.unusedVariables false

theorem own : ownKnob Try.prog.godebug = none := by kernel_rfl
theorem laidOut : laidOutB Try.prog = true := by kernel_rfl

set_option maxRecDepth 100000 in
theorem lifted (os : Os) (started : os.Started) (H : Type) (enc : TypeId × Value → H) :
    ReturnsInHanded {} Try.checked os 4 .any (Rows.spaceTablesSpec.pre6 enc Try.prog Try.f4 Rows.spaceTablesRow.domain false) (Rows.spaceTablesSpec.post enc Try.prog Try.f4 false true false false) := by
  refine returnsInHanded_of_change (C := Try.checked) own started (by kernel_rfl) Try.func4
    (ChangeSpec.witness6 (enc := enc) (C := Try.checked) false ⟨#[], #[.slice none 0 0, .int .i64 0], []⟩ 8 (by kernel_rfl) (by kernel_rfl) (by kernel_rfl) (by kernel_rfl)) ?_
  intro W base args ds gs before hval0 hW hcnd _
  have hval : ∀ (j : Nat) t v, Try.f4.params[j]? = some t → args[j]? = some v → Value.okWide Try.prog W .any base t v := hval0
  have hW' := hW
  obtain ⟨p, q, hA0, hV, rfl, hfz, hnd⟩ := hW
  have hA : DataW.TrodAll enc Try.prog W 0 (fun _ => true) true Try.f4.params.toList args.toList ds p := hA0
  rw [Try.params4] at hA hval
  obtain ⟨v0, vs0, d0, ds0, p0, q0, hargs, rfl, rfl, h0, r0⟩ := trodAll_cons hA
  obtain ⟨v1, vs1, d1, ds1, p1, q1, rfl, rfl, rfl, h1, r1⟩ := trodAll_cons r0
  obtain ⟨rfl, rfl, rfl⟩ := trodAll_nil r1
  obtain rfl : args = #[v0, v1] := by cases args; simp_all
  obtain ⟨rfl, rfl⟩ := trodVars_none hV
  obtain ⟨a0, len0, cap0, rfl⟩ := okWide_slice Try.underlying26 (hval 0 26 v0 rfl rfl)
  have k0 := h0
  have lt0 : ∀ x ∈ p0, x.block < W.heap.size := by obtain ⟨m, hm⟩ := k0; exact DataW.trod_lt m _ _ _ hm
  obtain ⟨z0, w0⟩ : ∃ zs, IsRow .u8 W a0 len0 cap0 zs := by
    obtain ⟨fuel, hf⟩ := h0
    rcases open_ints Try.underlying26 Try.underlying5 (by kernel_rfl) hf with ⟨hcs, _⟩ | ⟨x, l, c, zs, hcs, _, hl, hm, hz, _, hcell, hwz⟩
    · simp [Value.cells] at hcs
      obtain ⟨rfl, rfl, rfl⟩ := hcs
      exact ⟨[], .inl ⟨rfl, rfl, rfl, rfl⟩⟩
    · simp [Value.cells] at hcs
      obtain ⟨rfl, rfl, rfl⟩ := hcs
      exact ⟨zs, .inr ⟨_, rfl, hl, hm, by simpa using hz, hcell, hwz⟩⟩
  obtain ⟨a1, rfl, rfl, rfl, w1⟩ := open_int Try.underlying3 (hval 1 3 v1 rfl rfl) h1
  clear hA0 hval0
  refine (spaceTables_walk a0 len0 cap0 _ a1 W (bsl_of_row w0) w1).mono fun e W' ⟨he, bel⟩ => ?_
  subst he
  exact ⟨_, rfl, _, _, _, [], _, [], hW', trodAll_mk1 (shut_bool Try.underlying4 _), (trodAll_cons_mk (Below.trod laidOut (by kernel_rfl) (of_decide_eq_true (by kernel_rfl)) k0 bel lt0) (trodAll_cons_mk (shut_int Try.underlying3 w1) trodAll_mk0)), rfl, bel.frame _, fun h => by cases h⟩

theorem over : Rows.spaceTablesRow.holds Try.pinned (OpenSpec.ofChange Rows.spaceTablesSpec) :=
  OpenClaim.holds_of_wide 4 Try.f4 rfl rfl rfl rfl rfl rfl rfl ⟨rfl, rfl, rfl, rfl, rfl⟩ rfl rfl rfl rfl rfl (by kernel_rfl) Try.func4 (by kernel_rfl)
    (of_decide_eq_true (by kernel_rfl)) (by unfold Func.isWrapper; first | (rw [if_pos (by decide +kernel)]; kernel_rfl) | (rw [if_neg (by decide +kernel)]; exact ⟨rfl, rfl⟩))
    (fun os started H enc _ => lifted os started H enc)

/-- The statement. -/
theorem proved : Rows.SpaceTablesSaid := over
end Go.Proofs.Ytiekbgfglmfbkaa.spaceTables
