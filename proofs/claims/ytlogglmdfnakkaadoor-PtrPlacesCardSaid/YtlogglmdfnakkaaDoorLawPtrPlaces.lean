/-
  PtrPlacesCardSaid: for any pointers (of more than 1,000 the law itself answers what its example answers) a row holds each pointer at its own place, and noughts where there is none. No condition but the tied one: ptr.sizes reads as its own initialiser lays it.
-/
import Derived.Test.YtlogglmdfnakkaaDoorLawPtrA
import Derived.Test.YtlogglmdfnakkaaDoorRowMath
import Derived.Deep.CutRange
import Derived.Deep.DeepCutAuto
namespace Go.Proofs.YtlogglmdfnakkaaDoor
open Go.RowKit Go.Shelf
set_option maxRecDepth 100000

theorem row_win {L : List Pt} (h16 : L.length ≤ 16) (i : Nat) (hi : i < 16) : ((rowTo L L.length).drop (16 * i)).take 16 = bytesP (L.getD i p0) := by
  rw [← packTo_row L h16]
  exact win_packTo L 16 i hi
set_option maxHeartbeats 4000000 in
theorem ptrPlaces_walk (A0 : Option Addr) (n cap0 : Nat) (L : List Pt) (w : World) (hz : Szs w) (hL : Pts w w.heap.size A0 n cap0 L) : Calls Tryd.prog 8 #[.slice A0 n cap0] w fun e w' => e = .returned (.bool true) ∧ Below w.heap.size w w' := by
  have hmx : Tryd.prog.follows Departure.mixedOrders = true := by kernel_rfl
  have i0 : (0 : Int) ≤ (n : Int) := by omega
  have i1 : (n : Int) ≤ 9223372036854775807 := by have h1 := hL.2.1; have h2 := hL.2.2.1; unfold maxLen at h2; omega
  have HAL := Lib.hid (fun W hz => alive_any W hz)
  have hrw := fun W hL hz => Row_any A0 n cap0 L W hL hz
  have hwl : ∀ p ∈ L, WfP p := fun _ hp => hL.wf hp
  have hln := hL.1
  have HZ := Lib.hid hz
  have HL := Lib.hid hL
  clear hz hL
  by_cases hb1 : 1000 < n
  · have i2 : (1000 : Int) < (n : Int) := by omega
    clear hrw hwl hln
    go_enter Tryd.func8, Tryd.ntmps8
    go_wp2_with (go_at_call 13
                 refine (HAL.out w HZ.out).mono ?_
                 rintro ev w1 ⟨rfl, b1⟩
                 have HB1 := Lib.hid b1
                 clear b1)
    go_ret
    exact ⟨rfl, HB1.out⟩
  · have i2 : ¬ (1000 : Int) < (n : Int) := by omega
    rcases rowO_cases L with ⟨c1, hc1, hc10, hc4⟩ | ⟨h16, hmay, hrow⟩
    · rw [hc1] at hrw
      have hcb : (c1 == 0) = false := by simpa using hc10
      have hcn : (c1 != 0) = true := by simpa using hc10
      have HRW := Lib.hid hrw
      by_cases h4 : c1 = 4
      · have hc4' := hc4 h4
        have k2 : (16 : Int) < (n : Int) := by omega
        subst h4
        clear hrw hc1 hc10 hwl hln hc4 hc4' hcb hcn
        go_enter Tryd.func8, Tryd.ntmps8
        go_wp2_with (first
          | (go_at_call 13
             refine (HAL.out w HZ.out).mono ?_
             rintro ev w1 ⟨rfl, b1⟩
             have HB1 := Lib.hid b1
             clear b1)
          | (go_at_call 10
             refine (HRW.out w1 (HL.out.step HB1.out) (HZ.out.step HB1.out)).mono ?_
             rintro ev w2 ⟨v2, rfl, o2, b2⟩
             have HB2 := Lib.hid (HB1.out.trans (b2.mono HB1.out.size))
             have o2' := o2
             obtain ⟨A2, C2, rfl, s2⟩ := own_to o2'
             have HS2 := Lib.hid s2
             clear o2 o2' b2 s2)
          )

        go_ret
        exact ⟨rfl, HB2.out⟩
      · have h4b : (c1 == 4) = false := by simpa using h4
        have h4n : (c1 != 4) = true := by simpa using h4
        clear hrw hc1 hc10 hwl hln hc4 h4
        go_enter Tryd.func8, Tryd.ntmps8
        go_wp2_with (first
          | (go_at_call 13
             refine (HAL.out w HZ.out).mono ?_
             rintro ev w1 ⟨rfl, b1⟩
             have HB1 := Lib.hid b1
             clear b1)
          | (go_at_call 10
             refine (HRW.out w1 (HL.out.step HB1.out) (HZ.out.step HB1.out)).mono ?_
             rintro ev w2 ⟨v2, rfl, o2, b2⟩
             have HB2 := Lib.hid (HB1.out.trans (b2.mono HB1.out.size))
             have o2' := o2
             obtain ⟨A2, C2, rfl, s2⟩ := own_to o2'
             have HS2 := Lib.hid s2
             clear o2 o2' b2 s2)
          )

        go_ret
        exact ⟨rfl, HB2.out⟩
    · rw [hrow] at hrw
      have HLT := Lib.hid (rowTo_length L L.length (Nat.le_refl _) h16)
      have HWN := Lib.hid (row_win h16)
      have HLM := Lib.hid (show ∀ k, n ≤ k → L.getD k p0 = p0 from fun k hk => by rw [List.getD_eq_getElem?_getD, List.getElem?_eq_none (by omega)]; rfl)
      have HMY := Lib.hid (fun i => getD_may hmay i)
      have HWF := Lib.hid (fun i => getD_wf hwl i)
      have HRW := Lib.hid hrw
      obtain ⟨z16, hz16⟩ : ∃ z, List.replicate 16 (0 : UInt8) = z := ⟨_, rfl⟩
      have hmk : ∀ W : World, (Instr.makeSlice 22 (.int .i64 16) (.int .i64 16)).run Tryd.prog W = .ok (.slice (some ⟨W.heap.size, 0, none⟩) 16 16) (W.alloc (.cells (ar z16) 5)) := fun W => by rw [← hz16]; exact mkBytes 16 (by omega) W
      have HZ16 := Lib.hid hz16
      clear hz16
      clear hrw hrow hmay hwl hln h16
      go_enter Tryd.func8, Tryd.ntmps8
      go_wp2_with (first
        | (go_at_call 13
           refine (HAL.out w HZ.out).mono ?_
           rintro ev w1 ⟨rfl, b1⟩
           have HB1 := Lib.hid b1
           clear b1)
        | (go_at_call 10
           refine (HRW.out w1 (HL.out.step HB1.out) (HZ.out.step HB1.out)).mono ?_
           rintro ev w2 ⟨v2, rfl, o2, b2⟩
           have HB2 := Lib.hid (HB1.out.trans (b2.mono HB1.out.size))
           have o2' := o2
           rw [HLT.out] at o2'
           obtain ⟨A2, C2, rfl, s2⟩ := own_to o2'
           have HS2 := Lib.hid s2
           clear o2 o2' b2 s2)
        )

      go_loopw [6] (fun i wr => ∃ k : Nat, k ≤ 16 ∧ i = .int .i64 k ∧ Below w2.heap.size w2 wr) (fun i _ => 16 - (intOf i).toNat)
      case atStart => exact ⟨0, by omega, rfl, Below.refl _ _⟩
      case round =>
        obtain ⟨k, hk, rfl, hb⟩ := hrel
        have HBR := Lib.hid (HB2.out.trans (hb.mono HB2.out.size))
        have HB2R := Lib.hid hb
        clear hb
        have k0 : (0 : Int) ≤ k := by omega
        by_cases hlt : k < 16
        · have k1 : (k : Int) < 16 := by omega
          have k15 : (k : Int) ≤ 15 := by omega
          have ek : ((16 * k : Nat) : Int) = 16 * (k : Int) := by omega
          obtain ⟨sX, hsX⟩ : ∃ x, strOf (bytesP (L.getD k p0)) = x := ⟨_, rfl⟩
          have HSX := Lib.hid hsX
          have hself : (sX.toList == sX.toList) = true := by simp
          obtain ⟨br, orr, rfl, _, _⟩ := HS2.out.2.2.2.2 (by omega)
          have hc2 := HS2.out.2.1
          have hba := (Below.refl wr.heap.size wr).alloc (Nat.le_refl _) (.cells (ar z16) 5)
          clear hsX
          by_cases hin : k < n
          · have k2 : (k : Int) < (n : Int) := by omega
            obtain ⟨bl, ol, rfl, hbl, _, c0, c1, c2, c3, c4⟩ := (HL.out.below HBR.out).cells k hin
            have hwp := Write_any (L.getD k p0) (HWF.out k) (wr.alloc (.cells (ar z16) 5)) (HZ.out.step (HBR.out.trans (hba.mono HBR.out.size)))
            rw [writeO, if_pos (HMY.out k)] at hwp
            obtain ⟨P, hP⟩ : ∃ P, L.getD k p0 = P := ⟨_, rfl⟩
            rw [hP] at c0 c1 c2 c3 c4 hwp
            have HP := Lib.hid hP
            clear hP
            obtain ⟨x, y, z, t, u⟩ := P
            dsimp only at c0 c1 c2 c3 c4
            have HWP := Lib.hid hwp
            have HBA := Lib.hid hba
            have E0 : ∀ o : Obj, (wr.alloc o).cell? ⟨bl, ol + k * 5, none⟩ = some (.int .i64 x) := fun o => (((Below.refl wr.heap.size wr).alloc (Nat.le_refl _) o).cell (p := ⟨bl, ol + k * 5, none⟩) (World.block_lt_of_cell? wr _ c0)).trans c0
            have E1 : ∀ o : Obj, (wr.alloc o).cell? ⟨bl, ol + k * 5 + 1, none⟩ = some (.int .u32 (y : Int)) := fun o => (((Below.refl wr.heap.size wr).alloc (Nat.le_refl _) o).cell (p := ⟨bl, ol + k * 5 + 1, none⟩) (World.block_lt_of_cell? wr _ c1)).trans c1
            have E2 : ∀ o : Obj, (wr.alloc o).cell? ⟨bl, ol + k * 5 + 2, none⟩ = some (.int .u32 (z : Int)) := fun o => (((Below.refl wr.heap.size wr).alloc (Nat.le_refl _) o).cell (p := ⟨bl, ol + k * 5 + 2, none⟩) (World.block_lt_of_cell? wr _ c2)).trans c2
            have E3 : ∀ o : Obj, (wr.alloc o).cell? ⟨bl, ol + k * 5 + 3, none⟩ = some (.int .u32 (t : Int)) := fun o => (((Below.refl wr.heap.size wr).alloc (Nat.le_refl _) o).cell (p := ⟨bl, ol + k * 5 + 3, none⟩) (World.block_lt_of_cell? wr _ c3)).trans c3
            have E4 : ∀ o : Obj, (wr.alloc o).cell? ⟨bl, ol + k * 5 + 4, none⟩ = some (.int .u32 (u : Int)) := fun o => (((Below.refl wr.heap.size wr).alloc (Nat.le_refl _) o).cell (p := ⟨bl, ol + k * 5 + 4, none⟩) (World.block_lt_of_cell? wr _ c4)).trans c4
            clear c0 c1 c2 c3 c4 hwp hba hbl
            go_wp2_with (go_at_call 9
                         refine HWP.out.mono ?_
                         rintro ev w4 ⟨v4, rfl, o4, b4⟩
                         rw [bytesP_length] at o4
                         obtain ⟨A4, C4, rfl, s4⟩ := own_to o4
                         have HWT := Lib.hid s4
                         have HB4 := Lib.hid (HB2R.out.trans ((HBA.out.trans (b4.mono HBA.out.size)).mono HB2R.out.size))
                         clear o4 b4 s4)
            have hcv : ∀ q, (convert 22 9 (.slice A4 16 C4)).run Tryd.prog (w4.drewN q) = .ok (.string sX) (w4.drewN q) := fun q => by
              have := (HWT.out.below (below_drewN (Below.refl w4.heap.size w4) q)).conv
              rwa [← HP.out, HSX.out] at this
            have hsl := fun W => slice_lh W br orr 256 C2 (16 * k) 16 (by omega) (by omega)
            simp only [ek] at hsl
            have hcw : ∀ q, (convert 22 9 (.slice (some ⟨br, orr + 16 * k, none⟩) 16 (C2 - 16 * k))).run Tryd.prog (w4.drewN q) = .ok (.string sX) (w4.drewN q) := fun q => by
              have := (((HS2.out.below (below_drewN HB4.out q)).win (16 * k) 16 (by omega))).conv
              rwa [HWN.out k hlt, HSX.out] at this
            go_quiet (fail)
            go_wp2_with fail
            go_roundw
            case rel => exact ⟨k + 1, by omega, by go_num, below_drewN HB4.out _⟩
            case measure => simp [intOf]; omega
          · have k2 : ¬ (k : Int) < (n : Int) := by omega
            have hP := HLM.out k (by omega)
            go_wp2_with fail
            obtain ⟨wa, hwa⟩ : ∃ wa, (wr.alloc (.cells (ar z16) 5)) = wa := ⟨_, rfl⟩
            have hxa : Blk wa wr.heap.size 5 (ar z16) := by rw [← hwa]; exact Blk.new wr _ _
            rw [hwa] at hba ⊢
            clear hwa
            have HBA := Lib.hid (HB2R.out.trans (hba.mono HB2R.out.size))
            have HWT := Lib.hid (hxa.bsl (n := 16) (by rw [← HZ16.out]; simp) (by omega))
            have hcv : ∀ q, (convert 22 9 (.slice (some ⟨wr.heap.size, 0, none⟩) 16 16)).run Tryd.prog (wa.drewN q) = .ok (.string sX) (wa.drewN q) := fun q => by
              have := (HWT.out.below (below_drewN (Below.refl wa.heap.size wa) q)).conv
              rwa [← HZ16.out, ← bytesP_none, ← hP, HSX.out] at this
            clear hba hxa
            have hsl := fun W => slice_lh W br orr 256 C2 (16 * k) 16 (by omega) (by omega)
            simp only [ek] at hsl
            have hcw : ∀ q, (convert 22 9 (.slice (some ⟨br, orr + 16 * k, none⟩) 16 (C2 - 16 * k))).run Tryd.prog (wa.drewN q) = .ok (.string sX) (wa.drewN q) := fun q => by
              have := (((HS2.out.below (below_drewN HBA.out q)).win (16 * k) 16 (by omega))).conv
              rwa [HWN.out k hlt, HSX.out] at this
            clear hP
            go_quiet (fail)
            go_wp2_with fail
            go_roundw
            case rel => exact ⟨k + 1, by omega, by go_num, below_drewN HBA.out _⟩
            case measure => simp [intOf]; omega
        · obtain rfl : k = 16 := by omega
          go_wp2_with fail
          go_ret
          exact ⟨rfl, HBR.out⟩
end Go.Proofs.YtlogglmdfnakkaaDoor
namespace Go.Proofs.YtlogglmdfnakkaaDoor.ptrPlaces
open Go.ChangeShapes Go.WideShapes Go.ChangeAt Go.RowKit
set_option linter.unusedVariables false

theorem own : ownKnob Tryd.prog.godebug = none := by kernel_rfl
theorem laidOut : laidOutB Tryd.prog = true := by kernel_rfl

set_option maxRecDepth 100000 in
theorem lifted (os : Os) (started : os.Started) (H : Type) (enc : TypeId × Value → H) :
    ReturnsInHanded {} Tryd.checked os 8 .any (fun w args => (Rows.ptrPlacesSpec.pre enc Tryd.prog Tryd.f8 [] false w args ∧ laidMetH Tryd.prog [("charterhouse/ptr.sizes", Rows.laid_charterhouse_ptr_sizes)] w) ∧ sizedMet enc Tryd.prog Tryd.f8 (OpenSpec.ofChange Rows.ptrPlacesSpec) false w args)
      (Rows.ptrPlacesSpec.post enc Tryd.prog Tryd.f8 false true false false) := by
  refine returnsInHanded_of_change_and (C := Tryd.checked) (X := fun w _ => laidMetH Tryd.prog [("charterhouse/ptr.sizes", Rows.laid_charterhouse_ptr_sizes)] w) (fun _ _ _ hh h => h.of_heap hh) own started (by kernel_rfl) Tryd.func8
    (ChangeSpec.witness_shaped (enc := enc) (C := Tryd.checked) (os := os) (X := fun w _ => laidMetH Tryd.prog [("charterhouse/ptr.sizes", Rows.laid_charterhouse_ptr_sizes)] w) false (World.doorLaid Tryd.prog 400 os) #[.slice none 0 0] 8 rfl (World.shaped_of_RefB (by kernel_rfl) (by kernel_rfl)) (by kernel_rfl) (by kernel_rfl) (by kernel_rfl) (door_met os _)) ?_
  intro W base args ds gs before hval0 hW _ _ hL _
  have hval : ∀ (j : Nat) t v, Tryd.f8.params[j]? = some t → args[j]? = some v → Value.okWide Tryd.prog W .any base t v := hval0
  have hW' := hW
  obtain ⟨p, q, hA0, hV, rfl, hfz, hnd⟩ := hW
  have hA : DataW.TrodAll enc Tryd.prog W 0 (fun _ => true) true Tryd.f8.params.toList args.toList ds p := hA0
  rw [Tryd.params8] at hA hval
  obtain ⟨v0, vs0, d0, ds0, p0, q0, hargs, rfl, rfl, h0, r0⟩ := trodAll_cons hA
  obtain ⟨rfl, rfl, rfl⟩ := trodAll_nil r0
  obtain rfl : args = #[v0] := by cases args; simp_all
  obtain ⟨rfl, rfl⟩ := trodVars_none hV
  obtain ⟨a0, len0, cap0, rfl⟩ := okWide_slice Tryd.underlying30 (hval 0 30 v0 rfl rfl)
  have k0 := h0
  have lt0 : ∀ x ∈ p0, x.block < W.heap.size := by obtain ⟨m, hm⟩ := k0; exact DataW.trod_lt m _ _ _ hm
  obtain ⟨L0, w0⟩ := open_ptrs h0
  clear hA0 hval0
  refine (ptrPlaces_walk a0 len0 cap0 L0 W (szs_of_laid hL) w0).mono fun e W' ⟨he, bel⟩ => ?_
  subst he
  exact ⟨_, rfl, _, _, _, [], _, [], hW', trodAll_mk1 (shut_bool Tryd.underlying4 _), (trodAll_cons_mk (Below.trod laidOut (by kernel_rfl) (of_decide_eq_true (by kernel_rfl)) k0 bel lt0) trodAll_mk0), rfl, bel.frame _, fun h => by cases h⟩

theorem over : Rows.PtrPlacesSaid :=
  OpenClaim.holds_of_wide 8 Tryd.f8 rfl rfl rfl rfl rfl rfl rfl ⟨rfl, rfl, rfl, rfl, rfl⟩ rfl rfl rfl rfl rfl (by kernel_rfl) Tryd.func8 (by kernel_rfl)
    (of_decide_eq_true (by kernel_rfl)) (by unfold Func.isWrapper; first | (rw [if_pos (by decide +kernel)]; kernel_rfl) | (rw [if_neg (by decide +kernel)]; exact ⟨rfl, rfl⟩))
    (fun os started H enc _ => lifted os started H enc)

/-- The statement. -/
theorem proved : Rows.PtrPlacesCardSaid :=
  Claim7.holds_tied_plain_at .later [] [.data] true _ false
    over (fun _ h => by cases h) (by kernel_rfl) (fun _ h => by cases h) ptrPlaces_row_tie rfl ⟨rfl, rfl⟩ (by kernel_rfl) rfl
    (fun f fn hf hfn => by
      obtain rfl : f = 8 := Option.some.inj ((show Tryd.prog.funcNamed "charterhouse/charterhouselaw10.PtrPlaces" = some 8 by kernel_rfl).symm.trans hf) |>.symm
      obtain rfl : fn = Tryd.f8 := (Option.some.inj (Tryd.func8.symm.trans hfn)).symm
      exact ⟨by kernel_rfl, fun j t ht => by
        rw [Tryd.params8] at ht
        have hm : t ∈ [30] := by simpa using Array.mem_of_getElem? ht
        have hall : ([30].all fun u => !Tryd.prog.wantsStandIn u) = true := by kernel_rfl
        exact (show Tryd.prog.wantsStandIn t = false by simpa using List.all_eq_true.1 hall t hm)⟩)
    (by kernel_rfl)
end Go.Proofs.YtlogglmdfnakkaaDoor.ptrPlaces
