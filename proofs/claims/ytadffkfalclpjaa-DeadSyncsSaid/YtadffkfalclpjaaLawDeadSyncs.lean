/-
  DeadSyncsSaid: for any list (of more than 300 pointers the law itself answers true) and any two syncs, the one not behind the other, it is parted in three the same, whichever is first; and its pointers, added one by one from its end, are the list. No condition.
-/
import Derived.Test.YtadffkfalclpjaaRows
import Derived.Test.YtadffkfalclpjaaLawDeadA
import Derived.Test.YtadffkfalclpjaaDdSplit
namespace Go.Proofs.Ytadffkfalclpjaa
open Go.RowKit Go.Shelf
set_option maxRecDepth 100000

set_option linter.unusedSimpArgs false in
set_option maxHeartbeats 8000000 in
theorem deadSyncs_at (a : Option Addr) (n c : Nat) (L : List Pt) (o1 o2 : Nat) (w : World) (hL : Pts w w.heap.size a n c L) (hl1 : o1 < 4294967296) (hl2 : o2 < 4294967296) :
    Calls Try.prog 6 #[.slice a n c, .int .u32 (o1 : Int), .int .u32 (o2 : Int)] w fun e w' => e = .returned (.bool true) ∧ Below w.heap.size w w' := by
  have HA := Lib.hid hL
  have HA0 := Lib.hid hL
  have n0 : (0 : Int) ≤ n := by omega
  have LA := Lib.hid hL.1
  have HL1 := Lib.hid hl1
  have HL2 := Lib.hid hl2
  have x1 : (0 : Int) ≤ (o1 : Int) := by omega
  have x2 : (0 : Int) ≤ (o2 : Int) := by omega
  have x3 : (o1 : Int) ≤ 4294967295 := by omega
  have x4 : (o2 : Int) ≤ 4294967295 := by omega
  clear hL hl1 hl2
  by_cases q0 : n ≤ 300
  · by_cases hm : MayDL L
    · by_cases ho : o1 ≤ o2
      · have d0a : decide ((n : Int) > 300) = false := decide_eq_false (by omega)
        have d0b : decide ((300 : Int) < (n : Int)) = false := decide_eq_false (by omega)
        have d1a : decide ((o1 : Int) > (o2 : Int)) = false := decide_eq_false (by omega)
        have d1b : decide ((o2 : Int) < (o1 : Int)) = false := decide_eq_false (by omega)
        have d1c : decide (o1 > o2) = false := decide_eq_false (by omega)
        have d1d : decide (o2 < o1) = false := decide_eq_false (by omega)
        have hsp := split_two ho L
        have HS1 := Lib.hid (show splitO L o1 = (oldD o1 L, youngD o1 L, 0) by unfold splitO; rw [if_pos hm])
        have hmy : MayDL (youngD o1 L) := mayDL_filter hm fun p => decide (o1 < p.2.1)
        have hmo : MayDL (oldD o2 L) := mayDL_filter hm fun p => decide (p.2.1 ≤ o2)
        have HS2 := Lib.hid (show splitO (youngD o1 L) o2 = (oldD o2 (youngD o1 L), youngD o2 (youngD o1 L), 0) by unfold splitO; rw [if_pos hmy])
        have HS3 := Lib.hid (show splitO L o2 = (oldD o2 L, youngD o2 (youngD o1 L), 0) by unfold splitO; rw [if_pos hm, hsp.2.2])
        have HS4 := Lib.hid (show splitO (oldD o2 L) o1 = (oldD o1 L, oldD o2 (youngD o1 L), 0) by unfold splitO; rw [if_pos hmo, ← hsp.1, hsp.2.1])
        obtain ⟨A, hA⟩ : ∃ X, oldD o1 L = X := ⟨_, rfl⟩
        obtain ⟨R, hR⟩ : ∃ X, youngD o1 L = X := ⟨_, rfl⟩
        obtain ⟨M, hM⟩ : ∃ X, oldD o2 L = X := ⟨_, rfl⟩
        rw [hA] at HS1 HS4
        rw [hR] at HS1 HS2 HS3 HS4
        rw [hM] at HS3 HS4
        obtain ⟨B, hB⟩ : ∃ X, oldD o2 R = X := ⟨_, rfl⟩
        obtain ⟨C, hC⟩ : ∃ X, youngD o2 R = X := ⟨_, rfl⟩
        rw [hB] at HS2 HS4
        rw [hC] at HS2 HS3
        have HMAY := Lib.hid hm
        clear hsp hmy hmo ho hA hR hM hB hC
        go_enter Try.func6, Try.ntmps6
        go_wp2_with fail
        refine (ddAlive_any w).mono ?_
        rintro ev w1 ⟨rfl, b1⟩
        replace HA := Lib.hid (HA.out.step b1)
        have HB := Lib.hid b1
        clear b1
        have hck := ddCheck_any a n c L w1 HA.out
        have hcv : checkDO L = 0 := by unfold checkDO; rw [if_pos hm]
        rw [hcv] at hck
        have CK := Lib.hid hck
        clear hck hcv
        clear hm
        go_wp2_with fail
        refine (CK.out).mono ?_
        rintro ev w2 ⟨rfl, b2⟩
        replace HA := Lib.hid (HA.out.step b2)
        replace HB := Lib.hid (HB.out.trans (b2.mono HB.out.size))
        clear CK
        clear b2
        have SP := Lib.hid (ddSplit_any a n c L o1 w2 HA.out HL1.out)
        rw [HS1.out] at SP
        go_wp2_with fail
        refine (SP.out).mono ?_
        rintro ev w3 ⟨v3, u3, rfl, hv3, hu3, _, b3⟩
        replace HA := Lib.hid (HA.out.step b3)
        replace HB := Lib.hid (HB.out.trans (b3.mono HB.out.size))
        obtain ⟨aA1, cA1, rfl, htA1⟩ := hv3.pts
        have TA1 := Lib.hid htA1
        clear htA1
        obtain ⟨aR1, cR1, rfl, htR1⟩ := hu3.pts
        have TR1 := Lib.hid htR1
        clear htR1
        clear hv3 hu3 SP
        clear b3
        have SP := Lib.hid (ddSplit_any _ _ _ R o2 w3 TR1.out HL2.out)
        rw [HS2.out] at SP
        go_wp2_with fail
        refine (SP.out).mono ?_
        rintro ev w4 ⟨v4, u4, rfl, hv4, hu4, _, b4⟩
        replace HA := Lib.hid (HA.out.step b4)
        replace TA1 := Lib.hid (TA1.out.step b4)
        replace TR1 := Lib.hid (TR1.out.step b4)
        replace HB := Lib.hid (HB.out.trans (b4.mono HB.out.size))
        obtain ⟨aB1, cB1, rfl, htB1⟩ := hv4.pts
        have TB1 := Lib.hid htB1
        clear htB1
        obtain ⟨aC1, cC1, rfl, htC1⟩ := hu4.pts
        have TC1 := Lib.hid htC1
        clear htC1
        clear hv4 hu4 SP
        clear b4
        have SP := Lib.hid (ddSplit_any a n c L o2 w4 HA.out HL2.out)
        rw [HS3.out] at SP
        go_wp2_with fail
        refine (SP.out).mono ?_
        rintro ev w5 ⟨v5, u5, rfl, hv5, hu5, _, b5⟩
        replace HA := Lib.hid (HA.out.step b5)
        replace TA1 := Lib.hid (TA1.out.step b5)
        replace TR1 := Lib.hid (TR1.out.step b5)
        replace TB1 := Lib.hid (TB1.out.step b5)
        replace TC1 := Lib.hid (TC1.out.step b5)
        replace HB := Lib.hid (HB.out.trans (b5.mono HB.out.size))
        obtain ⟨aM1, cM1, rfl, htM1⟩ := hv5.pts
        have TM1 := Lib.hid htM1
        clear htM1
        obtain ⟨aC2, cC2, rfl, htC2⟩ := hu5.pts
        have TC2 := Lib.hid htC2
        clear htC2
        clear hv5 hu5 SP
        clear b5
        have SP := Lib.hid (ddSplit_any _ _ _ M o1 w5 TM1.out HL1.out)
        rw [HS4.out] at SP
        go_wp2_with fail
        refine (SP.out).mono ?_
        rintro ev w6 ⟨v6, u6, rfl, hv6, hu6, _, b6⟩
        replace HA := Lib.hid (HA.out.step b6)
        replace TA1 := Lib.hid (TA1.out.step b6)
        replace TR1 := Lib.hid (TR1.out.step b6)
        replace TB1 := Lib.hid (TB1.out.step b6)
        replace TC1 := Lib.hid (TC1.out.step b6)
        replace TM1 := Lib.hid (TM1.out.step b6)
        replace TC2 := Lib.hid (TC2.out.step b6)
        replace HB := Lib.hid (HB.out.trans (b6.mono HB.out.size))
        obtain ⟨aA2, cA2, rfl, htA2⟩ := hv6.pts
        have TA2 := Lib.hid htA2
        clear htA2
        obtain ⟨aB2, cB2, rfl, htB2⟩ := hu6.pts
        have TB2 := Lib.hid htB2
        clear htB2
        clear hv6 hu6 SP
        clear b6
        have hll : decide (A = A) = true := decide_eq_true rfl
        have SM := Lib.hid (dlSame_any _ _ _ A _ _ _ A w6 TA1.out TA2.out)
        rw [hll] at SM
        clear hll
        go_wp2_with fail
        refine (SM.out).mono ?_
        rintro ev w7 ⟨rfl, b7⟩
        replace HA := Lib.hid (HA.out.step b7)
        replace TA1 := Lib.hid (TA1.out.step b7)
        replace TR1 := Lib.hid (TR1.out.step b7)
        replace TB1 := Lib.hid (TB1.out.step b7)
        replace TC1 := Lib.hid (TC1.out.step b7)
        replace TM1 := Lib.hid (TM1.out.step b7)
        replace TC2 := Lib.hid (TC2.out.step b7)
        replace TA2 := Lib.hid (TA2.out.step b7)
        replace TB2 := Lib.hid (TB2.out.step b7)
        replace HB := Lib.hid (HB.out.trans (b7.mono HB.out.size))
        clear SM
        clear b7
        have hll : decide (B = B) = true := decide_eq_true rfl
        have SM := Lib.hid (dlSame_any _ _ _ B _ _ _ B w7 TB1.out TB2.out)
        rw [hll] at SM
        clear hll
        go_wp2_with fail
        refine (SM.out).mono ?_
        rintro ev w8 ⟨rfl, b8⟩
        replace HA := Lib.hid (HA.out.step b8)
        replace TA1 := Lib.hid (TA1.out.step b8)
        replace TR1 := Lib.hid (TR1.out.step b8)
        replace TB1 := Lib.hid (TB1.out.step b8)
        replace TC1 := Lib.hid (TC1.out.step b8)
        replace TM1 := Lib.hid (TM1.out.step b8)
        replace TC2 := Lib.hid (TC2.out.step b8)
        replace TA2 := Lib.hid (TA2.out.step b8)
        replace TB2 := Lib.hid (TB2.out.step b8)
        replace HB := Lib.hid (HB.out.trans (b8.mono HB.out.size))
        clear SM
        clear b8
        have hll : decide (C = C) = true := decide_eq_true rfl
        have SM := Lib.hid (dlSame_any _ _ _ C _ _ _ C w8 TC1.out TC2.out)
        rw [hll] at SM
        clear hll
        go_wp2_with fail
        refine (SM.out).mono ?_
        rintro ev w9 ⟨rfl, b9⟩
        replace HA := Lib.hid (HA.out.step b9)
        replace TA1 := Lib.hid (TA1.out.step b9)
        replace TR1 := Lib.hid (TR1.out.step b9)
        replace TB1 := Lib.hid (TB1.out.step b9)
        replace TC1 := Lib.hid (TC1.out.step b9)
        replace TM1 := Lib.hid (TM1.out.step b9)
        replace TC2 := Lib.hid (TC2.out.step b9)
        replace TA2 := Lib.hid (TA2.out.step b9)
        replace TB2 := Lib.hid (TB2.out.step b9)
        replace HB := Lib.hid (HB.out.trans (b9.mono HB.out.size))
        clear SM
        clear b9
        have e9 : (n : Int) - 1 ≤ 9223372036854775807 := by omega
        have HWL := Lib.hid (fun q (hq : q ∈ L) => HA.out.wf hq)
        clear HS1 HS2 HS3 HS4 TA1 TA2 TB1 TB2 TC1 TC2 TM1 TR1
        go_wp2_with fail
        go_loopw [20, 21] (fun v i wr => ∃ k : Nat, k ≤ n ∧ i = .int .i64 ((k : Int) - 1) ∧ PRow wr w.heap.size v (L.drop k) ∧ Below w.heap.size w wr) (fun _ i _ => (intOf i + 1).toNat)
        case atStart => exact ⟨n, Nat.le_refl _, by go_num, by rw [List.drop_of_length_le (by rw [LA.out]; exact Nat.le_refl _)]; exact prow_nil _ _, HB.out⟩
        case round =>
          obtain ⟨k, hk, rfl, hvo, hb⟩ := hrel
          obtain ⟨v, hv⟩ : ∃ v : Value, u20 = v := ⟨_, rfl⟩
          rw [hv] at hvo ⊢
          clear hv
          obtain ⟨q, hq⟩ : ∃ q, (L.drop k).length = q := ⟨_, rfl⟩
          obtain ⟨av, cv, rfl, htv⟩ := hvo.pts
          rw [hq] at htv hvo ⊢
          have TV := Lib.hid htv
          replace HB := Lib.hid hb
          replace HA := Lib.hid (HA0.out.step hb)
          clear htv hvo hb hq
          by_cases hk0 : k = 0
          · subst hk0
            have e1 : ((0 : Nat) : Int) - 1 = -1 := rfl
            rw [e1]
            have hd : L.drop 0 = L := rfl
            rw [hd] at TV
            clear e1 hd
            have hll : decide (L = L) = true := decide_eq_true rfl
            have SM := Lib.hid (dlSame_any _ _ _ L _ _ _ L wr TV.out HA.out)
            rw [hll] at SM
            clear hll
            go_wp2_with fail
            refine SM.out.mono ?_
            rintro ev wz ⟨rfl, bz⟩
            replace HB := Lib.hid (HB.out.trans (bz.mono HB.out.size))
            clear bz
            go_wp2_with fail
            go_ret
            exact ⟨rfl, HB.out⟩
          · obtain ⟨j, rfl⟩ : ∃ j, k = j + 1 := ⟨k - 1, by omega⟩
            have e1 : ((j + 1 : Nat) : Int) - 1 = (j : Int) := by omega
            rw [e1]
            have j0 : (0 : Int) ≤ (j : Int) := by omega
            have j1 : (j : Int) < n := by omega
            have hjl : j < L.length := by rw [LA.out]; omega
            have HAD := Lib.hid (add_last HMAY.out hjl)
            have hjn : j < n := by omega
            obtain ⟨b2, o2', ea, _, _, v0_, v1_, v2_, v3_, v4_⟩ := HA.out.cells j hjn
            have hwj : WfP (L.getD j p0) := HWL.out _ (by rw [ddGetD hjl]; exact List.getElem_mem _)
            obtain ⟨⟨ya, yb, yi, yt, ys⟩, hP⟩ : ∃ P, L.getD j p0 = P := ⟨_, rfl⟩
            rw [hP] at v0_ v1_ v2_ v3_ v4_ hwj HAD
            simp only at v0_ v1_ v2_ v3_ v4_
            have AD := Lib.hid (ddAdd_any av q cv (L.drop (j + 1)) (ya, yb, yi, yt, ys) wr TV.out hwj)
            rw [HAD.out] at AD
            subst ea
            clear e1 hP hwj hjl HAD
            go_wp2_with fail
            clear v0_ v1_ v2_ v3_ v4_
            refine AD.out.mono ?_
            rintro ev wz ⟨vz, rfl, hrz, bz⟩
            simp only at hrz
            obtain ⟨az, cz, rfl, _⟩ := hrz.pts
            obtain ⟨q2, hq2⟩ : ∃ q, (L.drop j).length = q := ⟨_, rfl⟩
            rw [hq2] at hrz ⊢
            have HR := Lib.hid (hrz.mono HB.out.size)
            replace HB := Lib.hid (HB.out.trans (bz.mono HB.out.size))
            clear bz hrz AD hq2
            go_wp2_with fail
            go_roundw
            case rel => exact ⟨j, by omega, by go_num, HR.out, HB.out⟩
            case measure => simp [intOf]
      · have d0a : decide ((n : Int) > 300) = false := decide_eq_false (by omega)
        have d0b : decide ((300 : Int) < (n : Int)) = false := decide_eq_false (by omega)
        have d1a : decide ((o1 : Int) > (o2 : Int)) = true := decide_eq_true (by omega)
        have d1b : decide ((o2 : Int) < (o1 : Int)) = true := decide_eq_true (by omega)
        have d1c : decide (o1 > o2) = true := decide_eq_true (by omega)
        have d1d : decide (o2 < o1) = true := decide_eq_true (by omega)
        clear ho
        go_enter Try.func6, Try.ntmps6
        go_wp2_with fail
        refine (ddAlive_any w).mono ?_
        rintro ev w1 ⟨rfl, b1⟩
        replace HA := Lib.hid (HA.out.step b1)
        have HB := Lib.hid b1
        clear b1
        have hck := ddCheck_any a n c L w1 HA.out
        have hcv : checkDO L = 0 := by unfold checkDO; rw [if_pos hm]
        rw [hcv] at hck
        have CK := Lib.hid hck
        clear hck hcv
        clear hm
        go_wp2_with fail
        refine (CK.out).mono ?_
        rintro ev w2 ⟨rfl, b2⟩
        replace HA := Lib.hid (HA.out.step b2)
        replace HB := Lib.hid (HB.out.trans (b2.mono HB.out.size))
        clear CK
        clear b2
        go_wp2_with fail
        go_ret
        exact ⟨rfl, HB.out⟩
    · have d0a : decide ((n : Int) > 300) = false := decide_eq_false (by omega)
      have d0b : decide ((300 : Int) < (n : Int)) = false := decide_eq_false (by omega)
      go_enter Try.func6, Try.ntmps6
      go_wp2_with fail
      refine (ddAlive_any w).mono ?_
      rintro ev w1 ⟨rfl, b1⟩
      replace HA := Lib.hid (HA.out.step b1)
      have HB := Lib.hid b1
      clear b1
      have hck := ddCheck_any a n c L w1 HA.out
      have hcv : checkDO L = 8 := by unfold checkDO; rw [if_neg hm]
      rw [hcv] at hck
      have CK := Lib.hid hck
      clear hck hcv
      clear hm
      go_wp2_with fail
      refine (CK.out).mono ?_
      rintro ev w2 ⟨rfl, b2⟩
      replace HA := Lib.hid (HA.out.step b2)
      replace HB := Lib.hid (HB.out.trans (b2.mono HB.out.size))
      clear CK
      clear b2
      go_wp2_with fail
      go_ret
      exact ⟨rfl, HB.out⟩
  · have d0a : decide ((n : Int) > 300) = true := decide_eq_true (by omega)
    have d0b : decide ((300 : Int) < (n : Int)) = true := decide_eq_true (by omega)
    go_enter Try.func6, Try.ntmps6
    go_wp2_with fail
    refine (ddAlive_any w).mono ?_
    rintro ev w1 ⟨rfl, b1⟩
    replace HA := Lib.hid (HA.out.step b1)
    have HB := Lib.hid b1
    clear b1
    go_wp2_with fail
    go_ret
    exact ⟨rfl, HB.out⟩
theorem deadSyncs_walk (a0 : Option Addr) (len0 cap0 : Nat) (L0 : List Pt) (a1 a2 : Int) (w : World) (h0 : Pts w w.heap.size a0 len0 cap0 L0) (w1 : (Lit.int .u32 a1).wf = true) (w2 : (Lit.int .u32 a2).wf = true) :
    Calls Try.prog 6 #[.slice a0 len0 cap0, .int .u32 a1, .int .u32 a2] w fun e w' => e = .returned (.bool true) ∧ Below w.heap.size w w' := by
  obtain ⟨o1, rfl, h1⟩ := u32_wf w1
  obtain ⟨o2, rfl, h2⟩ := u32_wf w2
  exact deadSyncs_at a0 len0 cap0 L0 o1 o2 w h0 h1 h2
end Go.Proofs.Ytadffkfalclpjaa
namespace Go.Proofs.Ytadffkfalclpjaa.deadSyncs
open Go.ChangeShapes Go.WideShapes Go.ChangeAt Go.RowKit
set_option linter.unusedVariables false

theorem own : ownKnob Try.prog.godebug = none := by kernel_rfl
theorem laidOut : laidOutB Try.prog = true := by kernel_rfl

set_option maxRecDepth 100000 in
theorem lifted (os : Os) (started : os.Started) (H : Type) (enc : TypeId × Value → H) :
    ReturnsInHanded {} Try.checked os 6 .any (Rows.deadSyncsSpec.pre6 enc Try.prog Try.f6 Rows.deadSyncsRow.domain false) (Rows.deadSyncsSpec.post enc Try.prog Try.f6 false true false false) := by
  refine returnsInHanded_of_change (C := Try.checked) own started (by kernel_rfl) Try.func6
    (ChangeSpec.witness6 (enc := enc) (C := Try.checked) false ⟨#[], #[.slice none 0 0, .int .u32 0, .int .u32 0], []⟩ 8 (by kernel_rfl) (by kernel_rfl) (by kernel_rfl) (by kernel_rfl)) ?_
  intro W base args ds gs before hval0 hW hcnd _
  have hval : ∀ (j : Nat) t v, Try.f6.params[j]? = some t → args[j]? = some v → Value.okWide Try.prog W .any base t v := hval0
  have hW' := hW
  obtain ⟨p, q, hA0, hV, rfl, hfz, hnd⟩ := hW
  have hA : DataW.TrodAll enc Try.prog W 0 (fun _ => true) true Try.f6.params.toList args.toList ds p := hA0
  rw [Try.params6] at hA hval
  obtain ⟨v0, vs0, d0, ds0, p0, q0, hargs, rfl, rfl, h0, r0⟩ := trodAll_cons hA
  obtain ⟨v1, vs1, d1, ds1, p1, q1, rfl, rfl, rfl, h1, r1⟩ := trodAll_cons r0
  obtain ⟨v2, vs2, d2, ds2, p2, q2, rfl, rfl, rfl, h2, r2⟩ := trodAll_cons r1
  obtain ⟨rfl, rfl, rfl⟩ := trodAll_nil r2
  obtain rfl : args = #[v0, v1, v2] := by cases args; simp_all
  obtain ⟨rfl, rfl⟩ := trodVars_none hV
  obtain ⟨a0, len0, cap0, rfl⟩ := okWide_slice Try.underlying22 (hval 0 22 v0 rfl rfl)
  have k0 := h0
  have lt0 : ∀ x ∈ p0, x.block < W.heap.size := by obtain ⟨m, hm⟩ := k0; exact DataW.trod_lt m _ _ _ hm
  obtain ⟨L0, w0⟩ := open_ptrs h0
  obtain ⟨a1, rfl, rfl, rfl, w1⟩ := open_int Try.underlying23 (hval 1 23 v1 rfl rfl) h1
  obtain ⟨a2, rfl, rfl, rfl, w2⟩ := open_int Try.underlying23 (hval 2 23 v2 rfl rfl) h2
  clear hA0 hval0
  refine (deadSyncs_walk a0 len0 cap0 L0 a1 a2 W w0 w1 w2).mono fun e W' ⟨he, bel⟩ => ?_
  subst he
  exact ⟨_, rfl, _, _, _, [], _, [], hW', trodAll_mk1 (shut_bool Try.underlying4 _), (trodAll_cons_mk (Below.trod laidOut (by kernel_rfl) (of_decide_eq_true (by kernel_rfl)) k0 bel lt0) (trodAll_cons_mk (shut_int Try.underlying23 w1) (trodAll_cons_mk (shut_int Try.underlying23 w2) trodAll_mk0))), rfl, bel.frame _, fun h => by cases h⟩

theorem over : Rows.deadSyncsRow.holds Try.pinned (OpenSpec.ofChange Rows.deadSyncsSpec) :=
  OpenClaim.holds_of_wide 6 Try.f6 rfl rfl rfl rfl rfl rfl rfl ⟨rfl, rfl, rfl, rfl, rfl⟩ rfl rfl rfl rfl rfl (by kernel_rfl) Try.func6 (by kernel_rfl)
    (of_decide_eq_true (by kernel_rfl)) (by unfold Func.isWrapper; first | (rw [if_pos (by decide +kernel)]; kernel_rfl) | (rw [if_neg (by decide +kernel)]; exact ⟨rfl, rfl⟩))
    (fun os started H enc _ => lifted os started H enc)

/-- The statement. -/
theorem proved : Rows.DeadSyncsSaid := over
end Go.Proofs.Ytadffkfalclpjaa.deadSyncs
