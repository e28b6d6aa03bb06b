/-
  ObjBackSaid: for any object and bytes (of more than 1,000 pointers or 10,000 bytes the law itself answers what its example answers) what is written is read as it was; what is read is written as just this block. No condition but the tied one: ptr.sizes reads as its own initialiser lays it.
-/
import Derived.Test.YtennhempdnpobaaDoorLawObjB
import Derived.Test.YtennhempdnpobaaDoorObMath
import Derived.Test.YtennhempdnpobaaDoorObOpen
import Derived.Test.YtennhempdnpobaaDoorPtOpen
namespace Go.Proofs.YtennhempdnpobaaDoor
open Go.RowKit Go.Shelf
set_option maxRecDepth 100000

set_option maxHeartbeats 8000000 in
theorem objBack_walk (oa : Option Addr) (oc : Nat) (O : ObL) (A : Option Addr) (lb cb : Nat) (b : List UInt8) (w : World) (hz : Szs w) (h : Pts w w.heap.size oa O.2.2.2.length oc O.2.2.2) (hw : WfOb O) (hA : Bsl w w.heap.size A lb cb b) :
    Calls Tryd.prog 5 #[obV oa oc O, .slice A lb cb] w fun e w' => e = .returned (.bool true) ∧ Below w.heap.size w w' := by
  have hl9 := hA.len_le
  have hn9 := h.2.1
  have hc9 := h.2.2.1
  obtain rfl := hA.1
  have l0 : (0 : Int) ≤ b.length := by omega
  have n0 : (0 : Int) ≤ O.2.2.2.length := by omega
  have n9 : (O.2.2.2.length : Int) ≤ 9223372036854775807 := by unfold maxLen at hc9; omega
  have HWO := Lib.hid hw
  have HWF := Lib.hid (fun p hp => h.wf (p := p) hp)
  have xb := Blk.new w 24 (obC oa oc O)
  have b0 := (Below.refl w.heap.size w).alloc (Nat.le_refl _) (.cells (obC oa oc O) 24)
  obtain ⟨w0, hw0⟩ : ∃ w0, w.alloc (.cells (obC oa oc O) 24) = w0 := ⟨_, rfl⟩
  rw [hw0] at xb b0
  have HX := Lib.hid xb
  have HP := Lib.hid (h.step b0)
  have HA := Lib.hid (hA.step b0)
  have HZ := Lib.hid (hz.step b0)
  have HB := Lib.hid b0
  simp only [obC] at hw0
  clear xb b0 h hA hz hw hn9 hc9
  go_enter Tryd.func5, Tryd.ntmps5
  go_wp2_with fail
  try rw [hw0]
  clear hw0
  refine (loAlive_any w0 HZ.out).mono ?_
  rintro e w1 ⟨rfl, b1⟩
  replace HX := Lib.hid (HX.out.below b1 HX.out.lt)
  replace HP := Lib.hid (HP.out.step b1)
  replace HA := Lib.hid (HA.out.step b1)
  replace HZ := Lib.hid (HZ.out.step b1)
  replace HB := Lib.hid (HB.out.trans (b1.mono HB.out.size))
  clear b1
  have d0 := ox0 HX.out
  have d1 := ox1 HX.out
  have d2 := ox2 HX.out
  have d3 := ox3 HX.out
  by_cases h1 : (1000 : Int) < O.2.2.2.length
  · go_wp2_with fail
    go_ret
    exact ⟨rfl, HB.out⟩
  · by_cases h2 : (10000 : Int) < b.length
    · go_wp2_with fail
      go_ret
      exact ⟨rfl, HB.out⟩
    · have HC := Lib.hid (obWrite_any oa oc O w1 HP.out HWO.out HZ.out)
      rcases owriteO_cases O with ⟨hmo, heq⟩ | ⟨hmo, heq⟩
      · rw [heq] at HC
        have HCK := Lib.hid (fun W (hp : Pts W W.heap.size oa O.2.2.2.length oc O.2.2.2) => obCheck_any oa oc O W hp HWO.out 8 ⟨fun k => absurd k hmo, fun _ => rfl⟩)
        clear heq hmo
        go_wp2_with fail
        clear d0 d1 d2 d3 h1 h2
        refine HC.out.mono ?_
        rintro e w2 ⟨v, rfl, ho, b2⟩
        obtain ⟨a2, c2, rfl⟩ := own_slice ho
        replace HX := Lib.hid (HX.out.below b2 HX.out.lt)
        replace HP := Lib.hid (HP.out.step b2)
        replace HA := Lib.hid (HA.out.step b2)
        replace HZ := Lib.hid (HZ.out.step b2)
        replace HB := Lib.hid (HB.out.trans (b2.mono HB.out.size))
        clear b2 HC ho
        have d0 := ox0 HX.out
        have d1 := ox1 HX.out
        have d2 := ox2 HX.out
        have d3 := ox3 HX.out
        go_wp2_with fail
        clear d0 d1 d2 d3
        refine (HCK.out w2 HP.out).mono ?_
        rintro e w3 ⟨rfl, b3⟩
        replace HX := Lib.hid (HX.out.below b3 HX.out.lt)
        replace HP := Lib.hid (HP.out.step b3)
        replace HA := Lib.hid (HA.out.step b3)
        replace HZ := Lib.hid (HZ.out.step b3)
        replace HB := Lib.hid (HB.out.trans (b3.mono HB.out.size))
        clear b3 HCK
        go_wp2_with fail
        have HC := Lib.hid (obRead_any A cb b w3 HA.out HZ.out)
        rcases oreadO_cases b with ⟨eg, heg, hne⟩ | ⟨hlen, hm, hbk, heg⟩
        · rw [heg] at HC
          clear heg
          refine HC.out.mono ?_
          rintro e w4 ⟨a5, c5, rfl, _, _, b5⟩
          replace HX := Lib.hid (HX.out.below b5 HX.out.lt)
          replace HP := Lib.hid (HP.out.step b5)
          replace HA := Lib.hid (HA.out.step b5)
          replace HZ := Lib.hid (HZ.out.step b5)
          replace HB := Lib.hid (HB.out.trans (b5.mono HB.out.size))
          clear b5 HC
          have b6 := (Below.refl w4.heap.size w4).alloc (Nat.le_refl _) (.cells #[.int .u8 0, .int .i64 0, .int .i64 0, .slice a5 0 c5] 24)
          have x6 := Blk.new w4 24 #[.int .u8 0, .int .i64 0, .int .i64 0, .slice a5 0 c5]
          replace HX := Lib.hid (HX.out.below b6 HX.out.lt)
          replace HP := Lib.hid (HP.out.step b6)
          replace HA := Lib.hid (HA.out.step b6)
          replace HZ := Lib.hid (HZ.out.step b6)
          replace HB := Lib.hid (HB.out.trans (b6.mono HB.out.size))
          have m0 := ox0 x6
          have m3 := ox3 x6
          have e1 : ((eg : Int) != 0) = true := by simp; omega
          clear b6 x6 hne
          go_wp2_with fail
          go_ret
          exact ⟨rfl, HB.out⟩
        · rw [heg] at HC
          obtain ⟨hmm, hwf, hwo, hwr⟩ := write_read heg
          have hl := hmm.1.2.2.2
          obtain ⟨M, hM⟩ : ∃ M, decOb b = M := ⟨_, rfl⟩
          rw [hM] at HC hwf hwo hwr hl
          have HWM := Lib.hid hwo
          have HWR := Lib.hid hwr
          have HLM := Lib.hid hl
          clear heg hlen hm hbk hM hmm hwf hwo hwr hl
          refine HC.out.mono ?_
          rintro e w4 ⟨a5, c5, rfl, hp5, _, b5⟩
          replace HX := Lib.hid (HX.out.below b5 HX.out.lt)
          replace HP := Lib.hid (HP.out.step b5)
          replace HA := Lib.hid (HA.out.step b5)
          replace HZ := Lib.hid (HZ.out.step b5)
          replace HB := Lib.hid (HB.out.trans (b5.mono HB.out.size))
          have HP5 := Lib.hid hp5
          clear b5 HC hp5
          have b6 := (Below.refl w4.heap.size w4).alloc (Nat.le_refl _) (.cells (obC a5 c5 M) 24)
          have x6 := Blk.new w4 24 (obC a5 c5 M)
          replace HX := Lib.hid (HX.out.below b6 HX.out.lt)
          replace HP := Lib.hid (HP.out.step b6)
          replace HA := Lib.hid (HA.out.step b6)
          replace HZ := Lib.hid (HZ.out.step b6)
          replace HB := Lib.hid (HB.out.trans (b6.mono HB.out.size))
          replace HP5 := Lib.hid (HP5.out.step b6)
          obtain ⟨w5, hw6⟩ : ∃ X, w4.alloc (.cells (obC a5 c5 M) 24) = X := ⟨_, rfl⟩
          obtain ⟨g6, hg6⟩ : ∃ X, w4.heap.size = X := ⟨_, rfl⟩
          rw [hw6] at x6 HX HP HA HZ HB HP5
          rw [hg6] at x6
          have HX6 := Lib.hid x6
          have m0 := ox0 HX6.out
          have m1 := ox1 HX6.out
          have m2 := ox2 HX6.out
          have m3 := ox3 HX6.out
          simp only [obC] at hw6
          rw [← hw6, ← hg6] at m0 m1 m2 m3
          have HW6 := Lib.hid hw6
          have HG6 := Lib.hid hg6
          have e1 : (((0 : Nat) : Int) != 0) = false := rfl
          clear b6 x6 hw6 hg6
          go_wp2_with fail
          rw [HW6.out]
          try rw [HG6.out]
          clear m0 m1 m2 m3 e1 HW6 HG6
          have hc := obWrite_any a5 c5 M w5 HP5.out HWM.out HZ.out
          rw [HWR.out] at hc
          have HC := Lib.hid hc
          clear hc
          refine HC.out.mono ?_
          rintro e w6 ⟨v, rfl, ho, b7⟩
          obtain ⟨a7, c7, rfl⟩ := own_slice ho
          replace HX := Lib.hid (HX.out.below b7 HX.out.lt)
          replace HP := Lib.hid (HP.out.step b7)
          replace HA := Lib.hid (HA.out.step b7)
          replace HZ := Lib.hid (HZ.out.step b7)
          replace HB := Lib.hid (HB.out.trans (b7.mono HB.out.size))
          replace HP5 := Lib.hid (HP5.out.step b7)
          replace HX6 := Lib.hid (HX6.out.below b7 HX6.out.lt)
          have ho2 : w6.ownsRow w5.heap.size 5 1 (.slice a7 b.length c7) b.length (vals b) := ho
          have V1 := (own_bsl ho2).conv
          have V2 := HA.out.conv
          have e1 : ((strOf b).toList == (strOf b).toList) = true := by simp
          have m3 := ox3 HX6.out
          rw [HLM.out] at m3
          clear b7 HC ho ho2
          go_wp2_with fail
          go_ret
          exact ⟨rfl, HB.out⟩
      · rw [heq] at HC
        have hrd := read_block hmo HWF.out
        have hlb := blockOb_length O
        obtain ⟨BL, hBL⟩ : ∃ B, blockOb O = B := ⟨_, rfl⟩
        rw [hBL] at HC hrd hlb
        have HRD := Lib.hid hrd
        have HLB := Lib.hid hlb
        clear heq hmo hrd hlb hBL
        go_wp2_with fail
        clear d0 d1 d2 d3 h1 h2
        refine HC.out.mono ?_
        rintro e w2 ⟨v, rfl, ho, b2⟩
        obtain ⟨a2, c2, rfl⟩ := own_slice ho
        replace HX := Lib.hid (HX.out.below b2 HX.out.lt)
        replace HP := Lib.hid (HP.out.step b2)
        replace HA := Lib.hid (HA.out.step b2)
        replace HZ := Lib.hid (HZ.out.step b2)
        replace HB := Lib.hid (HB.out.trans (b2.mono HB.out.size))
        have HBB := Lib.hid (own_bsl ho)
        clear b2 HC ho
        have hc := obRead_any a2 c2 BL w2 HBB.out HZ.out
        rw [HRD.out] at hc
        have HC := Lib.hid hc
        clear hc
        go_wp2_with fail
        refine HC.out.mono ?_
        rintro e w3 ⟨a3, c3, rfl, hp3, _, b3⟩
        replace HX := Lib.hid (HX.out.below b3 HX.out.lt)
        replace HP := Lib.hid (HP.out.step b3)
        replace HA := Lib.hid (HA.out.step b3)
        replace HZ := Lib.hid (HZ.out.step b3)
        replace HB := Lib.hid (HB.out.trans (b3.mono HB.out.size))
        have HP3 := Lib.hid hp3
        clear b3 HC hp3
        have b4 := (Below.refl w3.heap.size w3).alloc (Nat.le_refl _) (.cells (obC a3 c3 O) 24)
        have x4 := Blk.new w3 24 (obC a3 c3 O)
        replace HX := Lib.hid (HX.out.below b4 HX.out.lt)
        replace HP := Lib.hid (HP.out.step b4)
        replace HA := Lib.hid (HA.out.step b4)
        replace HZ := Lib.hid (HZ.out.step b4)
        replace HB := Lib.hid (HB.out.trans (b4.mono HB.out.size))
        replace HP3 := Lib.hid (HP3.out.step b4)
        obtain ⟨w4, hw4⟩ : ∃ X, w3.alloc (.cells (obC a3 c3 O) 24) = X := ⟨_, rfl⟩
        obtain ⟨g4, hg4⟩ : ∃ X, w3.heap.size = X := ⟨_, rfl⟩
        rw [hw4] at x4 HX HP HA HZ HB HP3
        rw [hg4] at x4
        have HX4 := Lib.hid x4
        have m0 := ox0 HX4.out
        have m1 := ox1 HX4.out
        have m2 := ox2 HX4.out
        have m3 := ox3 HX4.out
        have d0 := ox0 HX.out
        have d1 := ox1 HX.out
        have d2 := ox2 HX.out
        have d3 := ox3 HX.out
        simp only [obC] at hw4
        rw [← hw4] at d0 d1 d2 d3
        rw [← hw4, ← hg4] at m0 m1 m2 m3
        have HW4 := Lib.hid hw4
        have HG4 := Lib.hid hg4
        clear b4 x4 hw4 hg4
        go_wp2_with fail
        rw [HW4.out]
        try rw [HG4.out]
        clear m0 m1 m2 m3 d0 d1 d2 d3 HW4 HG4
        refine (obSame_any a3 c3 O oa oc O w4 HP3.out HP.out true (by simp)).mono ?_
        rintro e w5 ⟨rfl, b5⟩
        replace HX := Lib.hid (HX.out.below b5 HX.out.lt)
        replace HP := Lib.hid (HP.out.step b5)
        replace HA := Lib.hid (HA.out.step b5)
        replace HZ := Lib.hid (HZ.out.step b5)
        replace HB := Lib.hid (HB.out.trans (b5.mono HB.out.size))
        replace HP3 := Lib.hid (HP3.out.step b5)
        replace HX4 := Lib.hid (HX4.out.below b5 HX4.out.lt)
        clear b5
        have e1 : ((BL.length : Int) != 256) = false := by rw [HLB.out]; rfl
        go_wp2_with fail
        clear e1
        have HC := Lib.hid (obRead_any A cb b w5 HA.out HZ.out)
        rcases oreadO_cases b with ⟨eg, heg, hne⟩ | ⟨hlen, hm, hbk, heg⟩
        · rw [heg] at HC
          clear heg
          refine HC.out.mono ?_
          rintro e w6 ⟨a5, c5, rfl, _, _, b5⟩
          replace HX := Lib.hid (HX.out.below b5 HX.out.lt)
          replace HP := Lib.hid (HP.out.step b5)
          replace HA := Lib.hid (HA.out.step b5)
          replace HZ := Lib.hid (HZ.out.step b5)
          replace HB := Lib.hid (HB.out.trans (b5.mono HB.out.size))
          clear b5 HC
          have b6 := (Below.refl w6.heap.size w6).alloc (Nat.le_refl _) (.cells #[.int .u8 0, .int .i64 0, .int .i64 0, .slice a5 0 c5] 24)
          have x6 := Blk.new w6 24 #[.int .u8 0, .int .i64 0, .int .i64 0, .slice a5 0 c5]
          replace HX := Lib.hid (HX.out.below b6 HX.out.lt)
          replace HP := Lib.hid (HP.out.step b6)
          replace HA := Lib.hid (HA.out.step b6)
          replace HZ := Lib.hid (HZ.out.step b6)
          replace HB := Lib.hid (HB.out.trans (b6.mono HB.out.size))
          have m0 := ox0 x6
          have m3 := ox3 x6
          have e1 : ((eg : Int) != 0) = true := by simp; omega
          clear b6 x6 hne
          go_wp2_with fail
          go_ret
          exact ⟨rfl, HB.out⟩
        · rw [heg] at HC
          obtain ⟨hmm, hwf, hwo, hwr⟩ := write_read heg
          have hl := hmm.1.2.2.2
          obtain ⟨M, hM⟩ : ∃ M, decOb b = M := ⟨_, rfl⟩
          rw [hM] at HC hwf hwo hwr hl
          have HWM := Lib.hid hwo
          have HWR := Lib.hid hwr
          have HLM := Lib.hid hl
          clear heg hlen hm hbk hM hmm hwf hwo hwr hl
          refine HC.out.mono ?_
          rintro e w6 ⟨a5, c5, rfl, hp5, _, b5⟩
          replace HX := Lib.hid (HX.out.below b5 HX.out.lt)
          replace HP := Lib.hid (HP.out.step b5)
          replace HA := Lib.hid (HA.out.step b5)
          replace HZ := Lib.hid (HZ.out.step b5)
          replace HB := Lib.hid (HB.out.trans (b5.mono HB.out.size))
          have HP5 := Lib.hid hp5
          clear b5 HC hp5
          have b6 := (Below.refl w6.heap.size w6).alloc (Nat.le_refl _) (.cells (obC a5 c5 M) 24)
          have x6 := Blk.new w6 24 (obC a5 c5 M)
          replace HX := Lib.hid (HX.out.below b6 HX.out.lt)
          replace HP := Lib.hid (HP.out.step b6)
          replace HA := Lib.hid (HA.out.step b6)
          replace HZ := Lib.hid (HZ.out.step b6)
          replace HB := Lib.hid (HB.out.trans (b6.mono HB.out.size))
          replace HP5 := Lib.hid (HP5.out.step b6)
          obtain ⟨w7, hw6⟩ : ∃ X, w6.alloc (.cells (obC a5 c5 M) 24) = X := ⟨_, rfl⟩
          obtain ⟨g6, hg6⟩ : ∃ X, w6.heap.size = X := ⟨_, rfl⟩
          rw [hw6] at x6 HX HP HA HZ HB HP5
          rw [hg6] at x6
          have HX6 := Lib.hid x6
          have m0 := ox0 HX6.out
          have m1 := ox1 HX6.out
          have m2 := ox2 HX6.out
          have m3 := ox3 HX6.out
          simp only [obC] at hw6
          rw [← hw6, ← hg6] at m0 m1 m2 m3
          have HW6 := Lib.hid hw6
          have HG6 := Lib.hid hg6
          have e1 : (((0 : Nat) : Int) != 0) = false := rfl
          clear b6 x6 hw6 hg6
          go_wp2_with fail
          rw [HW6.out]
          try rw [HG6.out]
          clear m0 m1 m2 m3 e1 HW6 HG6
          have hc := obWrite_any a5 c5 M w7 HP5.out HWM.out HZ.out
          rw [HWR.out] at hc
          have HC := Lib.hid hc
          clear hc
          refine HC.out.mono ?_
          rintro e w8 ⟨v, rfl, ho, b7⟩
          obtain ⟨a7, c7, rfl⟩ := own_slice ho
          replace HX := Lib.hid (HX.out.below b7 HX.out.lt)
          replace HP := Lib.hid (HP.out.step b7)
          replace HA := Lib.hid (HA.out.step b7)
          replace HZ := Lib.hid (HZ.out.step b7)
          replace HB := Lib.hid (HB.out.trans (b7.mono HB.out.size))
          replace HP5 := Lib.hid (HP5.out.step b7)
          replace HX6 := Lib.hid (HX6.out.below b7 HX6.out.lt)
          have ho2 : w8.ownsRow w7.heap.size 5 1 (.slice a7 b.length c7) b.length (vals b) := ho
          have V1 := (own_bsl ho2).conv
          have V2 := HA.out.conv
          have e1 : ((strOf b).toList == (strOf b).toList) = true := by simp
          have m3 := ox3 HX6.out
          rw [HLM.out] at m3
          clear b7 HC ho ho2
          go_wp2_with fail
          go_ret
          exact ⟨rfl, HB.out⟩
end Go.Proofs.YtennhempdnpobaaDoor
namespace Go.Proofs.YtennhempdnpobaaDoor.objBack
open Go.ChangeShapes Go.WideShapes Go.ChangeAt Go.RowKit
set_option linter.unusedVariables false

theorem own : ownKnob Tryd.prog.godebug = none := by kernel_rfl
theorem laidOut : laidOutB Tryd.prog = true := by kernel_rfl

set_option maxRecDepth 100000 in
theorem lifted (os : Os) (started : os.Started) (H : Type) (enc : TypeId × Value → H) :
    ReturnsInHanded {} Tryd.checked os 5 .any (fun w args => (Rows.objBackSpec.pre enc Tryd.prog Tryd.f5 [] false w args ∧ laidMetH Tryd.prog [("charterhouse/ptr.sizes", Rows.laid_charterhouse_ptr_sizes)] w) ∧ sizedMet enc Tryd.prog Tryd.f5 (OpenSpec.ofChange Rows.objBackSpec) false w args)
      (Rows.objBackSpec.post enc Tryd.prog Tryd.f5 false true false false) := by
  refine returnsInHanded_of_change_and (C := Tryd.checked) (X := fun w _ => laidMetH Tryd.prog [("charterhouse/ptr.sizes", Rows.laid_charterhouse_ptr_sizes)] w) (fun _ _ _ hh h => h.of_heap hh) own started (by kernel_rfl) Tryd.func5
    (ChangeSpec.witness_shaped (enc := enc) (C := Tryd.checked) (os := os) (X := fun w _ => laidMetH Tryd.prog [("charterhouse/ptr.sizes", Rows.laid_charterhouse_ptr_sizes)] w) false (World.doorLaid Tryd.prog 400 os) #[.agg #[.int .u8 0, .int .i64 0, .int .i64 0, .slice none 0 0], .slice none 0 0] 8 rfl (World.shaped_of_RefB (by kernel_rfl) (by kernel_rfl)) (by kernel_rfl) (by kernel_rfl) (by kernel_rfl) (door_met os _)) ?_
  intro W base args ds gs before hval0 hW _ _ hL _
  have hval : ∀ (j : Nat) t v, Tryd.f5.params[j]? = some t → args[j]? = some v → Value.okWide Tryd.prog W .any base t v := hval0
  have hW' := hW
  obtain ⟨p, q, hA0, hV, rfl, hfz, hnd⟩ := hW
  have hA : DataW.TrodAll enc Tryd.prog W 0 (fun _ => true) true Tryd.f5.params.toList args.toList ds p := hA0
  rw [Tryd.params5] at hA hval
  obtain ⟨v0, vs0, d0, ds0, p0, q0, hargs, rfl, rfl, h0, r0⟩ := trodAll_cons hA
  obtain ⟨v1, vs1, d1, ds1, p1, q1, rfl, rfl, rfl, h1, r1⟩ := trodAll_cons r0
  obtain ⟨rfl, rfl, rfl⟩ := trodAll_nil r1
  obtain rfl : args = #[v0, v1] := by cases args; simp_all
  obtain ⟨rfl, rfl⟩ := trodVars_none hV
  have k0 := h0
  have lt0 : ∀ x ∈ p0, x.block < W.heap.size := by obtain ⟨m, hm⟩ := k0; exact DataW.trod_lt m _ _ _ hm
  obtain ⟨oa0, oc0, O0, rfl, w0, f0⟩ := open_object (hval 0 24 v0 rfl rfl) h0
  obtain ⟨a1, len1, cap1, rfl⟩ := okWide_slice Tryd.underlying28 (hval 1 28 v1 rfl rfl)
  have k1 := h1
  have lt1 : ∀ x ∈ p1, x.block < W.heap.size := by obtain ⟨m, hm⟩ := k1; exact DataW.trod_lt m _ _ _ hm
  obtain ⟨z1, w1⟩ : ∃ zs, IsRow .u8 W a1 len1 cap1 zs := by
    obtain ⟨fuel, hf⟩ := h1
    rcases open_ints Tryd.underlying28 Tryd.underlying5 (by kernel_rfl) hf with ⟨hcs, _⟩ | ⟨x, l, c, zs, hcs, _, hl, hm, hz, _, hcell, hwz⟩
    · simp [Value.cells] at hcs
      obtain ⟨rfl, rfl, rfl⟩ := hcs
      exact ⟨[], .inl ⟨rfl, rfl, rfl, rfl⟩⟩
    · simp [Value.cells] at hcs
      obtain ⟨rfl, rfl, rfl⟩ := hcs
      exact ⟨zs, .inr ⟨_, rfl, hl, hm, by simpa using hz, hcell, hwz⟩⟩
  clear hA0 hval0
  refine (objBack_walk oa0 oc0 O0 a1 len1 cap1 _ W (szs_of_laid hL) w0 f0 (bsl_of_row w1)).mono fun e W' ⟨he, bel⟩ => ?_
  subst he
  exact ⟨_, rfl, _, _, _, [], _, [], hW', trodAll_mk1 (shut_bool Tryd.underlying4 _), (trodAll_cons_mk (Below.trod laidOut (by kernel_rfl) (of_decide_eq_true (by kernel_rfl)) k0 bel lt0) (trodAll_cons_mk (Below.trod laidOut (by kernel_rfl) (of_decide_eq_true (by kernel_rfl)) k1 bel lt1) trodAll_mk0)), rfl, bel.frame _, fun h => by cases h⟩

theorem over : Rows.ObjBackSaid :=
  OpenClaim.holds_of_wide 5 Tryd.f5 rfl rfl rfl rfl rfl rfl rfl ⟨rfl, rfl, rfl, rfl, rfl⟩ rfl rfl rfl rfl rfl (by kernel_rfl) Tryd.func5 (by kernel_rfl)
    (of_decide_eq_true (by kernel_rfl)) (by unfold Func.isWrapper; first | (rw [if_pos (by decide +kernel)]; kernel_rfl) | (rw [if_neg (by decide +kernel)]; exact ⟨rfl, rfl⟩))
    (fun os started H enc _ => lifted os started H enc)

/-- The statement. -/
theorem proved : Rows.ObjBackCardSaid :=
  Claim7.holds_tied_plain_at .later [] [.data] true _ false
    over (fun _ h => by cases h) (by kernel_rfl) (fun _ h => by cases h) objBack_row_tie rfl ⟨rfl, rfl⟩ (by kernel_rfl) rfl
    (fun f fn hf hfn => by
      obtain rfl : f = 5 := Option.some.inj ((show Tryd.prog.funcNamed "charterhouse/charterhouselaw14.ObjBack" = some 5 by kernel_rfl).symm.trans hf) |>.symm
      obtain rfl : fn = Tryd.f5 := (Option.some.inj (Tryd.func5.symm.trans hfn)).symm
      exact ⟨by kernel_rfl, fun j t ht => by
        rw [Tryd.params5] at ht
        have hm : t ∈ [24, 28] := by simpa using Array.mem_of_getElem? ht
        have hall : ([24, 28].all fun u => !Tryd.prog.wantsStandIn u) = true := by kernel_rfl
        exact (show Tryd.prog.wantsStandIn t = false by simpa using List.all_eq_true.1 hall t hm)⟩)
    (by kernel_rfl)
end Go.Proofs.YtennhempdnpobaaDoor.objBack
