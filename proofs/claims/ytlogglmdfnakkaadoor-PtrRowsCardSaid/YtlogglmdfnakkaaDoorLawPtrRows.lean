/-
  PtrRowsCardSaid: for any pointers and bytes (of more than 1,000 pointers or 10,000 bytes the law itself answers what its example answers) a row is read as its pointers, and none behind them, and what is read is that row. No condition but the tied one: ptr.sizes reads as its own initialiser lays it.
-/
import Derived.Test.YtlogglmdfnakkaaDoorLawPtrA
import Derived.Test.YtlogglmdfnakkaaDoorRowMath
namespace Go.Proofs.YtlogglmdfnakkaaDoor
open Go.RowKit Go.Shelf
set_option maxRecDepth 100000

theorem wellP {L : List Pt} {w : World} {B : Nat} {a : Option Addr} {len cap : Nat} (h : Pts w B a len cap L) : ∀ p ∈ L, WfP p := fun _ hp => h.wf hp
set_option maxHeartbeats 4000000 in
theorem ptrRows_walk (A0 : Option Addr) (n cap0 : Nat) (L : List Pt) (A : Option Addr) (len cap : Nat) (s : List UInt8) (w : World) (hz : Szs w) (hL : Pts w w.heap.size A0 n cap0 L) (hA : Bsl w w.heap.size A len cap s) : Calls Tryd.prog 6 #[.slice A0 n cap0, .slice A len cap] w fun e w' => e = .returned (.bool true) ∧ Below w.heap.size w w' := by
  have hmx : Tryd.prog.follows Departure.mixedOrders = true := by kernel_rfl
  have i0 : (0 : Int) ≤ (n : Int) := by omega
  have i1 : (n : Int) ≤ 9223372036854775807 := by have h1 := hL.2.1; have h2 := hL.2.2.1; unfold maxLen at h2; omega
  have j0 : (0 : Int) ≤ (len : Int) := by omega
  have j1 : (len : Int) ≤ 9223372036854775807 := by have h1 := hA.2.1; have h2 := hA.2.2.1; unfold maxLen at h2; omega
  have HAL := Lib.hid (fun W hz => alive_any W hz)
  have hrw := fun W hL hz => Row_any A0 n cap0 L W hL hz
  have hrt := fun W hB hz => Rows_any A len cap s W hB hz
  have hwl := wellP hL
  have hln := hL.1
  obtain ⟨sS, hS0⟩ : ∃ x, strOf s = x := ⟨_, rfl⟩
  have HSS := Lib.hid hS0
  clear hS0
  have HZ := Lib.hid hz
  have HL := Lib.hid hL
  have HA := Lib.hid hA
  have tok1 : True := trivial
  have tok2 : True := trivial
  clear hz hL hA
  by_cases hb1 : 1000 < n
  · have i2 : (1000 : Int) < (n : Int) := by omega
    clear hrw hrt hwl hln
    go_enter Tryd.func6, Tryd.ntmps6
    go_wp2_with (go_at_call 13
                 refine (HAL.out w HZ.out).mono ?_
                 rintro ev w1 ⟨rfl, b1⟩
                 have HB1 := Lib.hid b1
                 clear b1)
    go_ret
    exact ⟨rfl, HB1.out⟩
  · have i2 : ¬ (1000 : Int) < (n : Int) := by omega
    by_cases hb2 : 10000 < len
    · have j2 : (10000 : Int) < (len : Int) := by omega
      clear hrw hrt hwl hln
      go_enter Tryd.func6, Tryd.ntmps6
      go_wp2_with (go_at_call 13
                   refine (HAL.out w HZ.out).mono ?_
                   rintro ev w1 ⟨rfl, b1⟩
                   have HB1 := Lib.hid b1
                   clear b1)
      go_ret
      exact ⟨rfl, HB1.out⟩
    · have j2 : ¬ (10000 : Int) < (len : Int) := by omega
      rcases rowO_cases L with ⟨c1, hc1, hc10, _⟩ | ⟨h16, hmay, hrow⟩
      · rw [hc1] at hrw
        have hc1b : (c1 == 0) = false := by simpa using hc10
        have HRW := Lib.hid hrw
        clear hrw hc1 hc10 hwl hln tok2
        rcases rowsO_cases s with ⟨c, hc, hc0⟩ | ⟨h256, hmr, hok⟩
        · rw [hc] at hrt
          have hcb : (c == 0) = false := by simpa using hc0
          have hcn : (c != 0) = true := by simpa using hc0
          have HRT := Lib.hid hrt
          clear hrt hc
          go_enter Tryd.func6, Tryd.ntmps6
          go_wp2_with (first
            | (go_at_call 13
               refine (HAL.out w HZ.out).mono ?_
               rintro ev w1 ⟨rfl, b1⟩
               have HB1 := Lib.hid b1
               clear b1)
            | (go_at_call 10
               have _t := tok1
               clear _t tok1
               refine (HRW.out w1 (HL.out.step HB1.out) (HZ.out.step HB1.out)).mono ?_
               rintro ev w2 ⟨v2, rfl, o2, b2⟩
               have HB2 := Lib.hid (HB1.out.trans (b2.mono HB1.out.size))
               have o2' := o2
               obtain ⟨A2, C2, rfl, s2⟩ := own_to o2'
               have HS2 := Lib.hid s2
               clear o2 o2' b2 s2)
            | (go_at_call 11
               refine (HRT.out w2 (HA.out.step HB2.out) (HZ.out.step HB2.out)).mono ?_
               rintro ev w5 ⟨v5, rfl, p5, b5⟩
               have HB5 := Lib.hid (HB2.out.trans (b5.mono HB2.out.size))
               obtain ⟨A5, C5, rfl, q5⟩ := p5.pts
               clear p5 b5 q5)
            )

          go_ret
          exact ⟨rfl, HB5.out⟩
        · rw [hok] at hrt
          have hrx := fun a c W hL hz => Row_any a 16 c (rowsL s) W hL hz
          rw [rowO_rows h256 hmr] at hrx
          have hst : strOf s = sS := HSS.out
          have HRT := Lib.hid hrt
          have HRX := Lib.hid hrx
          have HS6 := Lib.hid hst
          have H256 := Lib.hid h256
          have HAL6 := Lib.hid hst
          clear hrt hrx hst hok hmr h256
          go_enter Tryd.func6, Tryd.ntmps6
          go_wp2_with (first
            | (go_at_call 13
               refine (HAL.out w HZ.out).mono ?_
               rintro ev w1 ⟨rfl, b1⟩
               have HB1 := Lib.hid b1
               clear b1)
            | (go_at_call 10
               have _t := tok1
               clear _t tok1
               refine (HRW.out w1 (HL.out.step HB1.out) (HZ.out.step HB1.out)).mono ?_
               rintro ev w2 ⟨v2, rfl, o2, b2⟩
               have HB2 := Lib.hid (HB1.out.trans (b2.mono HB1.out.size))
               have o2' := o2
               obtain ⟨A2, C2, rfl, s2⟩ := own_to o2'
               have HS2 := Lib.hid s2
               clear o2 o2' b2 s2)
            | (go_at_call 11
               refine (HRT.out w2 (HA.out.step HB2.out) (HZ.out.step HB2.out)).mono ?_
               rintro ev w5 ⟨v5, rfl, p5, b5⟩
               have HB5 := Lib.hid (HB2.out.trans (b5.mono HB2.out.size))
               obtain ⟨A5, C5, rfl, q5⟩ := p5.pts
               rw [rowsL_length] at q5
               have HQ5 := Lib.hid q5
               clear p5 b5 q5)
            | (go_at_call 10
               have hcc := HRX.out A5 C5 w5 HQ5.out (HZ.out.step HB5.out)
               refine hcc.mono ?_
               rintro ev w6 ⟨v6, rfl, o6, b6⟩
               have HB6 := Lib.hid (HB5.out.trans (b6.mono HB5.out.size))
               have o6' : w6.ownsRow w5.heap.size 5 1 v6 256 (vals s) := by have := o6; rw [H256.out] at this; exact this
               obtain ⟨A6, C6, rfl, s6⟩ := own_to o6'
               have cv6 := s6.conv
               have cva := (HA.out.step HB6.out).conv
               rw [HS6.out] at cv6
               rw [HAL6.out] at cva
               clear hcc o6 o6' b6 s6)
            )

          go_ret
          exact ⟨rfl, HB6.out⟩
      · rw [hrow] at hrw
        have hrs := fun a c W hB hz => Rows_any a 256 c (rowTo L L.length) W hB hz
        rw [rowsO_row h16 hmay hwl] at hrs
        have HLT := Lib.hid (rowTo_length L L.length (Nat.le_refl _) h16)
        have hget := fillL_get L
        have hlm : ∀ k, k < 16 → n ≤ k → L.getD k p0 = p0 := fun k _ hk => by rw [List.getD_eq_getElem?_getD, List.getElem?_eq_none (by omega)]; rfl
        have HRW := Lib.hid hrw
        have HRS := Lib.hid hrs
        have HGT := Lib.hid hget
        have HLM := Lib.hid hlm
        have k16 : ¬ (16 : Int) < (n : Int) := by omega
        have HRT0 := Lib.hid hrt
        clear hrw hrs hget hlm hrow hmay hwl hln h16 hrt
        go_enter Tryd.func6, Tryd.ntmps6
        go_wp2_with (first
          | (go_at_call 13
             refine (HAL.out w HZ.out).mono ?_
             rintro ev w1 ⟨rfl, b1⟩
             have HB1 := Lib.hid b1
             clear b1)
          | (go_at_call 10
             have _t := tok1
             clear _t tok1
             refine (HRW.out w1 (HL.out.step HB1.out) (HZ.out.step HB1.out)).mono ?_
             rintro ev w2 ⟨v2, rfl, o2, b2⟩
             have HB2 := Lib.hid (HB1.out.trans (b2.mono HB1.out.size))
             have o2' := o2
             rw [HLT.out] at o2'
             obtain ⟨A2, C2, rfl, s2⟩ := own_to o2'
             have HS2 := Lib.hid s2
             clear o2 o2' b2 s2)
          | (go_at_call 11
             have _t := tok2
             clear _t tok2
             have hcc := HRS.out A2 C2 w2 HS2.out (HZ.out.step HB2.out)
             refine hcc.mono ?_
             rintro ev w3 ⟨v3, rfl, p3, b3⟩
             have HB3 := Lib.hid (HB2.out.trans (b3.mono HB2.out.size))
             have q0 := p3.pts
             rw [fillL_length] at q0
             obtain ⟨A3, C3, rfl, q3⟩ := q0
             have HQ3 := Lib.hid q3
             clear hcc p3 b3 q3)
          )

        go_loopw [10] (fun i wr => ∃ k : Nat, k ≤ 16 ∧ i = .int .i64 k ∧ Below w3.heap.size w3 wr) (fun i _ => 16 - (intOf i).toNat)
        case atStart => exact ⟨0, by omega, rfl, Below.refl _ _⟩
        case round =>
          obtain ⟨k, hk, rfl, hb⟩ := hrel
          have HBR := Lib.hid (HB3.out.trans (hb.mono HB3.out.size))
          have HB3R := Lib.hid hb
          clear hb
          have k0 : (0 : Int) ≤ k := by omega
          by_cases hlt : k < 16
          · have k1 : (k : Int) < 16 := by omega
            obtain ⟨bm, om, rfl, _, _, d0, d1, d2, d3, d4⟩ := (HQ3.out.below HB3R.out).cells k hlt
            rw [HGT.out k hlt] at d0 d1 d2 d3 d4
            have hbm := HQ3.out.2.1
            by_cases hin : k < n
            · have k2 : (k : Int) < (n : Int) := by omega
              obtain ⟨bl, ol, rfl, _, _, c0, c1, c2, c3, c4⟩ := (HL.out.below HBR.out).cells k hin
              obtain ⟨P, hP⟩ : ∃ P, L.getD k p0 = P := ⟨_, rfl⟩
              rw [hP] at c0 c1 c2 c3 c4 d0 d1 d2 d3 d4
              clear hP
              obtain ⟨x, y, z, t, u⟩ := P
              have hself : ∀ W, (Op.equalIn 10000 28 (ptV (x, y, z, t, u)) (ptV (x, y, z, t, u))).run Tryd.prog W = .ok true W := fun W => by rw [eqPt, (eqP_iff _ _).2 rfl]
              dsimp only at c0 c1 c2 c3 c4 d0 d1 d2 d3 d4
              have hlt2 : decide ((k : Int) < (n : Int)) = true := decide_eq_true k2
              have hge2 : decide ((n : Int) ≤ (k : Int)) = false := decide_eq_false (by omega)
              have hge3 : ¬ (n : Int) ≤ (k : Int) := by omega
              have hge4 : ¬ n ≤ k := by omega
              have C0 : ∀ q, (wr.drewN q).cell? ⟨bl, ol + k * 5, none⟩ = some (.int .i64 x) := fun q => by simpa using c0
              have C1 : ∀ q, (wr.drewN q).cell? ⟨bl, ol + k * 5 + 1, none⟩ = some (.int .u32 (y : Int)) := fun q => by simpa using c1
              have C2 : ∀ q, (wr.drewN q).cell? ⟨bl, ol + k * 5 + 2, none⟩ = some (.int .u32 (z : Int)) := fun q => by simpa using c2
              have C3 : ∀ q, (wr.drewN q).cell? ⟨bl, ol + k * 5 + 3, none⟩ = some (.int .u32 (t : Int)) := fun q => by simpa using c3
              have C4 : ∀ q, (wr.drewN q).cell? ⟨bl, ol + k * 5 + 4, none⟩ = some (.int .u32 (u : Int)) := fun q => by simpa using c4
              have D0 : ∀ q, (wr.drewN q).cell? ⟨bm, om + k * 5, none⟩ = some (.int .i64 x) := fun q => by simpa using d0
              have D1 : ∀ q, (wr.drewN q).cell? ⟨bm, om + k * 5 + 1, none⟩ = some (.int .u32 (y : Int)) := fun q => by simpa using d1
              have D2 : ∀ q, (wr.drewN q).cell? ⟨bm, om + k * 5 + 2, none⟩ = some (.int .u32 (z : Int)) := fun q => by simpa using d2
              have D3 : ∀ q, (wr.drewN q).cell? ⟨bm, om + k * 5 + 3, none⟩ = some (.int .u32 (t : Int)) := fun q => by simpa using d3
              have D4 : ∀ q, (wr.drewN q).cell? ⟨bm, om + k * 5 + 4, none⟩ = some (.int .u32 (u : Int)) := fun q => by simpa using d4
              clear c0 c1 c2 c3 c4 d0 d1 d2 d3 d4
              go_wp2_with fail
              go_quiet (fail)
              go_wp2_with fail
              go_roundw
              case rel => exact ⟨k + 1, by omega, by go_num, below_drewN HB3R.out _⟩
              case measure => simp [intOf]; omega
            · have k2 : ¬ (k : Int) < (n : Int) := by omega
              have hP := HLM.out k hlt (by omega)
              rw [hP] at d0 d1 d2 d3 d4
              dsimp only at d0 d1 d2 d3 d4
              have hself : ∀ W, (Op.equalIn 10000 28 (.agg #[.int .i64 0, .int .u32 0, .int .u32 0, .int .u32 0, .int .u32 0]) (.agg #[.int .i64 0, .int .u32 0, .int .u32 0, .int .u32 0, .int .u32 0])).run Tryd.prog W = .ok true W := eqPt p0 p0
              have hlt2 : decide ((k : Int) < (n : Int)) = false := decide_eq_false k2
              have hge2 : decide ((n : Int) ≤ (k : Int)) = true := decide_eq_true (by omega)
              have hge3 : (n : Int) ≤ (k : Int) := by omega
              have hge4 : n ≤ k := by omega
              have D0 : ∀ q, (wr.drewN q).cell? ⟨bm, om + k * 5, none⟩ = some (.int .i64 0) := fun q => by simpa using d0
              have D1 : ∀ q, (wr.drewN q).cell? ⟨bm, om + k * 5 + 1, none⟩ = some (.int .u32 0) := fun q => by simpa using d1
              have D2 : ∀ q, (wr.drewN q).cell? ⟨bm, om + k * 5 + 2, none⟩ = some (.int .u32 0) := fun q => by simpa using d2
              have D3 : ∀ q, (wr.drewN q).cell? ⟨bm, om + k * 5 + 3, none⟩ = some (.int .u32 0) := fun q => by simpa using d3
              have D4 : ∀ q, (wr.drewN q).cell? ⟨bm, om + k * 5 + 4, none⟩ = some (.int .u32 0) := fun q => by simpa using d4
              clear d0 d1 d2 d3 d4 hP
              go_wp2_with fail
              go_quiet (fail)
              go_wp2_with fail
              go_roundw
              case rel => exact ⟨k + 1, by omega, by go_num, below_drewN HB3R.out _⟩
              case measure => simp [intOf]; omega
          · obtain rfl : k = 16 := by omega
            have hrt := HRT0.out
            clear hlt hk
            rcases rowsO_cases s with ⟨c, hc, hc0⟩ | ⟨h256, hmr, hok⟩
            · rw [hc] at hrt
              have hcb : (c == 0) = false := by simpa using hc0
              have hcn : (c != 0) = true := by simpa using hc0
              have HRT := Lib.hid hrt
              clear hrt hc

              go_wp2_with (first
                | (go_at_call 11
                   refine (HRT.out wr (HA.out.step HBR.out) (HZ.out.step HBR.out)).mono ?_
                   rintro ev w5 ⟨v5, rfl, p5, b5⟩
                   have HB5 := Lib.hid (HBR.out.trans (b5.mono HBR.out.size))
                   obtain ⟨A5, C5, rfl, q5⟩ := p5.pts
                   clear p5 b5 q5)
                )

              go_ret
              exact ⟨rfl, HB5.out⟩
            · rw [hok] at hrt
              have hrx := fun a c W hL hz => Row_any a 16 c (rowsL s) W hL hz
              rw [rowO_rows h256 hmr] at hrx
              have hst : strOf s = sS := HSS.out
              have HRT := Lib.hid hrt
              have HRX := Lib.hid hrx
              have HS6 := Lib.hid hst
              have H256 := Lib.hid h256
              have HAL6 := Lib.hid hst
              clear hrt hrx hst hok hmr h256

              go_wp2_with (first
                | (go_at_call 11
                   refine (HRT.out wr (HA.out.step HBR.out) (HZ.out.step HBR.out)).mono ?_
                   rintro ev w5 ⟨v5, rfl, p5, b5⟩
                   have HB5 := Lib.hid (HBR.out.trans (b5.mono HBR.out.size))
                   obtain ⟨A5, C5, rfl, q5⟩ := p5.pts
                   rw [rowsL_length] at q5
                   have HQ5 := Lib.hid q5
                   clear p5 b5 q5)
                | (go_at_call 10
                   have hcc := HRX.out A5 C5 w5 HQ5.out (HZ.out.step HB5.out)
                   refine hcc.mono ?_
                   rintro ev w6 ⟨v6, rfl, o6, b6⟩
                   have HB6 := Lib.hid (HB5.out.trans (b6.mono HB5.out.size))
                   have o6' : w6.ownsRow w5.heap.size 5 1 v6 256 (vals s) := by have := o6; rw [H256.out] at this; exact this
                   obtain ⟨A6, C6, rfl, s6⟩ := own_to o6'
                   have cv6 := s6.conv
                   have cva := (HA.out.step HB6.out).conv
                   rw [HS6.out] at cv6
                   rw [HAL6.out] at cva
                   clear hcc o6 o6' b6 s6)
                )

              go_ret
              exact ⟨rfl, HB6.out⟩
end Go.Proofs.YtlogglmdfnakkaaDoor
namespace Go.Proofs.YtlogglmdfnakkaaDoor.ptrRows
open Go.ChangeShapes Go.WideShapes Go.ChangeAt Go.RowKit
set_option linter.unusedVariables false

theorem own : ownKnob Tryd.prog.godebug = none := by kernel_rfl
theorem laidOut : laidOutB Tryd.prog = true := by kernel_rfl

set_option maxRecDepth 100000 in
theorem lifted (os : Os) (started : os.Started) (H : Type) (enc : TypeId × Value → H) :
    ReturnsInHanded {} Tryd.checked os 6 .any (fun w args => (Rows.ptrRowsSpec.pre enc Tryd.prog Tryd.f6 [] false w args ∧ laidMetH Tryd.prog [("charterhouse/ptr.sizes", Rows.laid_charterhouse_ptr_sizes)] w) ∧ sizedMet enc Tryd.prog Tryd.f6 (OpenSpec.ofChange Rows.ptrRowsSpec) false w args)
      (Rows.ptrRowsSpec.post enc Tryd.prog Tryd.f6 false true false false) := by
  refine returnsInHanded_of_change_and (C := Tryd.checked) (X := fun w _ => laidMetH Tryd.prog [("charterhouse/ptr.sizes", Rows.laid_charterhouse_ptr_sizes)] w) (fun _ _ _ hh h => h.of_heap hh) own started (by kernel_rfl) Tryd.func6
    (ChangeSpec.witness_shaped (enc := enc) (C := Tryd.checked) (os := os) (X := fun w _ => laidMetH Tryd.prog [("charterhouse/ptr.sizes", Rows.laid_charterhouse_ptr_sizes)] w) false (World.doorLaid Tryd.prog 400 os) #[.slice none 0 0, .slice none 0 0] 8 rfl (World.shaped_of_RefB (by kernel_rfl) (by kernel_rfl)) (by kernel_rfl) (by kernel_rfl) (by kernel_rfl) (door_met os _)) ?_
  intro W base args ds gs before hval0 hW _ _ hL _
  have hval : ∀ (j : Nat) t v, Tryd.f6.params[j]? = some t → args[j]? = some v → Value.okWide Tryd.prog W .any base t v := hval0
  have hW' := hW
  obtain ⟨p, q, hA0, hV, rfl, hfz, hnd⟩ := hW
  have hA : DataW.TrodAll enc Tryd.prog W 0 (fun _ => true) true Tryd.f6.params.toList args.toList ds p := hA0
  rw [Tryd.params6] at hA hval
  obtain ⟨v0, vs0, d0, ds0, p0, q0, hargs, rfl, rfl, h0, r0⟩ := trodAll_cons hA
  obtain ⟨v1, vs1, d1, ds1, p1, q1, rfl, rfl, rfl, h1, r1⟩ := trodAll_cons r0
  obtain ⟨rfl, rfl, rfl⟩ := trodAll_nil r1
  obtain rfl : args = #[v0, v1] := by cases args; simp_all
  obtain ⟨rfl, rfl⟩ := trodVars_none hV
  obtain ⟨a0, len0, cap0, rfl⟩ := okWide_slice Tryd.underlying30 (hval 0 30 v0 rfl rfl)
  have k0 := h0
  have lt0 : ∀ x ∈ p0, x.block < W.heap.size := by obtain ⟨m, hm⟩ := k0; exact DataW.trod_lt m _ _ _ hm
  obtain ⟨L0, w0⟩ := open_ptrs h0
  obtain ⟨a1, len1, cap1, rfl⟩ := okWide_slice Tryd.underlying22 (hval 1 22 v1 rfl rfl)
  have k1 := h1
  have lt1 : ∀ x ∈ p1, x.block < W.heap.size := by obtain ⟨m, hm⟩ := k1; exact DataW.trod_lt m _ _ _ hm
  obtain ⟨z1, w1⟩ : ∃ zs, IsRow .u8 W a1 len1 cap1 zs := by
    obtain ⟨fuel, hf⟩ := h1
    rcases open_ints Tryd.underlying22 Tryd.underlying5 (by kernel_rfl) hf with ⟨hcs, _⟩ | ⟨x, l, c, zs, hcs, _, hl, hm, hz, _, hcell, hwz⟩
    · simp [Value.cells] at hcs
      obtain ⟨rfl, rfl, rfl⟩ := hcs
      exact ⟨[], .inl ⟨rfl, rfl, rfl, rfl⟩⟩
    · simp [Value.cells] at hcs
      obtain ⟨rfl, rfl, rfl⟩ := hcs
      exact ⟨zs, .inr ⟨_, rfl, hl, hm, by simpa using hz, hcell, hwz⟩⟩
  clear hA0 hval0
  refine (ptrRows_walk a0 len0 cap0 L0 a1 len1 cap1 _ W (szs_of_laid hL) w0 (bsl_of_row w1)).mono fun e W' ⟨he, bel⟩ => ?_
  subst he
  exact ⟨_, rfl, _, _, _, [], _, [], hW', trodAll_mk1 (shut_bool Tryd.underlying4 _), (trodAll_cons_mk (Below.trod laidOut (by kernel_rfl) (of_decide_eq_true (by kernel_rfl)) k0 bel lt0) (trodAll_cons_mk (Below.trod laidOut (by kernel_rfl) (of_decide_eq_true (by kernel_rfl)) k1 bel lt1) trodAll_mk0)), rfl, bel.frame _, fun h => by cases h⟩

theorem over : Rows.PtrRowsSaid :=
  OpenClaim.holds_of_wide 6 Tryd.f6 rfl rfl rfl rfl rfl rfl rfl ⟨rfl, rfl, rfl, rfl, rfl⟩ rfl rfl rfl rfl rfl (by kernel_rfl) Tryd.func6 (by kernel_rfl)
    (of_decide_eq_true (by kernel_rfl)) (by unfold Func.isWrapper; first | (rw [if_pos (by decide +kernel)]; kernel_rfl) | (rw [if_neg (by decide +kernel)]; exact ⟨rfl, rfl⟩))
    (fun os started H enc _ => lifted os started H enc)

/-- The statement. -/
theorem proved : Rows.PtrRowsCardSaid :=
  Claim7.holds_tied_plain_at .later [] [.data] true _ false
    over (fun _ h => by cases h) (by kernel_rfl) (fun _ h => by cases h) ptrRows_row_tie rfl ⟨rfl, rfl⟩ (by kernel_rfl) rfl
    (fun f fn hf hfn => by
      obtain rfl : f = 6 := Option.some.inj ((show Tryd.prog.funcNamed "charterhouse/charterhouselaw10.PtrRows" = some 6 by kernel_rfl).symm.trans hf) |>.symm
      obtain rfl : fn = Tryd.f6 := (Option.some.inj (Tryd.func6.symm.trans hfn)).symm
      exact ⟨by kernel_rfl, fun j t ht => by
        rw [Tryd.params6] at ht
        have hm : t ∈ [30, 22] := by simpa using Array.mem_of_getElem? ht
        have hall : ([30, 22].all fun u => !Tryd.prog.wantsStandIn u) = true := by kernel_rfl
        exact (show Tryd.prog.wantsStandIn t = false by simpa using List.all_eq_true.1 hall t hm)⟩)
    (by kernel_rfl)
end Go.Proofs.YtlogglmdfnakkaaDoor.ptrRows
