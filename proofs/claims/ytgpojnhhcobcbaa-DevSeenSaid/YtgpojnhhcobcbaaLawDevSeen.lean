/-
  DevSeenSaid: for any disk, place, other block and bytes (of a disk that is great, or more than 10,000 bytes, or a disk that may not be, the law itself answers what its example answers) a block is seen as a flush leaves it, and as the last write has it that was put; another block is seen as before; what is flushed is seen the same. No condition.
-/
import Derived.Test.YtgpojnhhcobcbaaRows
import Derived.Test.YtgpojnhhcobcbaaDiskOpen
import Derived.Test.YtgpojnhhcobcbaaDevLawC
namespace Go.Proofs.Ytgpojnhhcobcbaa
open Go.RowKit Go.Shelf
set_option maxRecDepth 100000

theorem with_left_same (D : DkL) (p : Nat) (s : List UInt8) : leftD (withD D (p : Int) s) (fun _ => true) p = s := by
  obtain ⟨_, e2⟩ := wr_with D.2 (p : Int) s
  have hl : (withD D (p : Int) s).2.length = D.2.length + 1 := by show (D.2 ++ [((p : Int), s)]).length = _; simp
  have hw : wr_ (withD D (p : Int) s).2 D.2.length = ((p : Int), s) := e2
  rw [← leftI_all, hl, leftI_hit ⟨rfl, by rw [hw]⟩, hw]
theorem with_left_other (D : DkL) (p : Int) (q : Nat) (s : List UInt8) (h : p ≠ (q : Int)) : leftD (withD D p s) (fun _ => true) q = leftD D (fun _ => true) q := by
  obtain ⟨e1, e2⟩ := wr_with D.2 p s
  have hl : (withD D p s).2.length = D.2.length + 1 := by show (D.2 ++ [(p, s)]).length = _; simp
  have hw : wr_ (withD D p s).2 D.2.length = (p, s) := e2
  rw [← leftI_all, hl, leftI_miss (by rw [hw]; exact fun hh => h hh.2), ← leftI_all]
  have hlt : lastTo (withD D p s).2 (fun _ => true) (q : Int) D.2.length = lastTo D.2 (fun _ => true) (q : Int) D.2.length := lastTo_congr fun i hi => by
    have : wr_ (withD D p s).2 i = wr_ D.2 i := e1 i hi
    rw [this]
  unfold leftI
  rw [hlt]
  split
  · rename_i j hj
    exact congrArg Prod.snd (e1 j (lastTo_lt hj).1)
  · rfl
theorem flush_ok {D : DkL} (hm : MayD D) : flushO D = (keptD D (fun _ => true), 0) := by rw [flushO, if_pos hm]
set_option maxHeartbeats 8000000 in
theorem devSeen_at (x : DAt) (D : DkL) (p : Int) (q : Nat) (a : Option Addr) (n c : Nat) (s : List UInt8) (w : World) (hq : q < 256) (h : Dsk w w.heap.size x D) (hnear : Near D) (hs : Bsl w w.heap.size a n c s) :
    Calls Try.prog 10 #[dval x D, .int .i64 p, .int .u8 (q : Int), .slice a n c] w fun e w' => e = .returned (.bool true) ∧ Below w.heap.size w w' := by
  have hmx : Try.prog.follows Departure.mixedOrders = true := by kernel_rfl
  have n0 : (0 : Int) ≤ n := by omega
  have n1 : (n : Int) ≤ 9223372036854775807 := by have h1 := hs.2.1; have h2 := hs.2.2.1; unfold maxLen at h2; omega
  have q0 : (0 : Int) ≤ q := by omega
  have q1 : (q : Int) < 256 := by omega
  have hL0 := lawL_box w x D h
  have hs0 := hs.step (alloc_b w (.cells #[.slice x.ba D.1.length x.bc, .slice x.wa D.2.length x.wc] 25))
  obtain ⟨w0, hw0⟩ : ∃ w0, w.alloc (.cells #[.slice x.ba D.1.length x.bc, .slice x.wa D.2.length x.wc] 25) = w0 := ⟨_, rfl⟩
  rw [hw0] at hL0 hs0
  obtain ⟨B, hB⟩ : ∃ B, w.heap.size = B := ⟨_, rfl⟩
  rw [hB] at hL0 ⊢
  have HL := Lib.hid hL0
  have HS := Lib.hid hs0
  have HBB := Lib.hid hB
  have HA := Lib.hid (alive_any w0)
  have HNR := Lib.hid hnear
  simp only [dval]
  clear h hs hL0 hs0 hnear
  go_enter Try.func10, Try.ntmps10
  go_wp2_with fail
  clear hw0 hB
  refine HA.out.mono ?_
  rintro e w1 ⟨rfl, b1⟩
  have HL1 := Lib.hid (HL.out.step b1)
  have HS1 := Lib.hid (HS.out.step b1)
  have HG := Lib.hid (rdGreat_any x D w1 HL1.out.dsk HNR.out)
  have c0 := HL1.out.c0
  have c1 := HL1.out.c1
  simp only [dval] at HG
  clear b1 HL HS HA
  go_wp2_with fail
  clear c0 c1
  refine HG.out.mono ?_
  rintro e w2 ⟨b, rfl, hsm, b2⟩
  have HL2 := Lib.hid (HL1.out.step b2)
  have HS2 := Lib.hid (HS1.out.step b2)
  clear b2 HL1 HS1 HG
  cases b with
  | true =>
    go_wp2_with fail
    go_ret
    exact ⟨rfl, by rw [← HBB.out]; exact HL2.out.bel⟩
  | false =>
    clear hsm
    by_cases hk5 : (10000 : Int) < n
    · go_wp2_with fail
      go_ret
      exact ⟨rfl, by rw [← HBB.out]; exact HL2.out.bel⟩
    · have c0 := HL2.out.c0
      have c1 := HL2.out.c1
      have HC := Lib.hid (dCheck_any x D w2 HL2.out.dsk)
      simp only [dval] at HC
      go_wp2_with fail
      clear c0 c1
      refine HC.out.mono ?_
      rintro e w3 ⟨rfl, b3⟩
      have HL3 := Lib.hid (HL2.out.step b3)
      have HS3 := Lib.hid (HS2.out.step b3)
      clear b3 HL2 HS2 HC
      by_cases hm : MayD D
      · rw [checkO, if_pos hm]
        obtain ⟨F, hF⟩ : ∃ F, keptD D (fun _ => true) = F := ⟨_, rfl⟩
        have hfo := flush_ok hm
        rw [hF] at hfo
        have hF1 : F.1.length = 256 := by rw [← hF]; exact keptD_length _ _
        have hF2 : F.2.length = 0 := by rw [← hF]; rfl
        have hFm : MayD F := by rw [← hF]; exact keptD_may hm _
        obtain ⟨S, hS⟩ : ∃ S, leftD D (fun _ => true) q = S := ⟨_, rfl⟩
        have hFq : F.1.getD q [] = S := by rw [← hF, keptD_get _ _ _ hq, hS]
        have hr1 : readO D (q : Int) = (S, 0) := by rw [read_ok hm hq, hS]
        have hr2 : readO F (q : Int) = (S, 0) := by rw [read_ok hFm hq, left_still (List.eq_nil_of_length_eq_zero hF2), hFq]
        have hSl : S.length = 256 := by rw [← hS]; exact leftD_length hm _ hq
        have HFL := Lib.hid (dFlush_any x D w3 HL3.out.dsk)
        have c0 := HL3.out.c0
        have c1 := HL3.out.c1
        rw [hfo] at HFL
        simp only [dval] at HFL
        have HM := Lib.hid hm
        have HF1 := Lib.hid hF1
        have HF2 := Lib.hid hF2
        have HFQ := Lib.hid hFq
        have HR1 := Lib.hid hr1
        have HR2 := Lib.hid hr2
        have HSL := Lib.hid hSl
        have HSD := Lib.hid hS
        clear hm hF hfo hF1 hF2 hFm hS hFq hr1 hr2 hSl
        go_wp2_with fail
        clear c0 c1
        refine HFL.out.mono ?_
        rintro e w4 ⟨z, rfl, hz, b4⟩
        have hL4 := HL3.out.step b4
        have hP := hL4.put hz.dsk
        have ba := alloc_b w4 (.cells #[.slice z.ba F.1.length z.bc, .slice z.wa F.2.length z.wc] 25)
        have hL5 := hL4.step ba
        have hS5 := (HS3.out.step b4).step ba
        simp only [dval]
        rw [HF1.out, HF2.out] at hP hL5 hS5 ⊢
        obtain ⟨w5, hw5⟩ : ∃ w5, w4.alloc (.cells #[.slice z.ba 256 z.bc, .slice z.wa 0 z.wc] 25) = w5 := ⟨_, rfl⟩
        obtain ⟨g, hg⟩ : ∃ g, w4.heap.size = g := ⟨_, rfl⟩
        rw [hw5] at hP hL5 hS5
        rw [hg] at hP
        have HL5 := Lib.hid hL5
        have HS5 := Lib.hid hS5
        have HP5 := Lib.hid hP
        have HRD := Lib.hid (dRead_any x D q w5 hL5.dsk)
        rw [HR1.out] at HRD
        have c0 := hL5.c0
        have c1 := hL5.c1
        simp only [dval] at HRD
        clear b4 hz hL4 hP ba hL5 hS5 HL3 HS3 HFL
        go_wp2_with fail
        clear hw5 hg c0 c1
        refine HRD.out.mono ?_
        rintro e w6 ⟨xv, rfl, hxo, b6⟩
        simp only [HSL.out] at hxo
        obtain ⟨XA, xc, rfl⟩ := own_slice hxo
        have HX6 := Lib.hid (own_bsl hxo)
        have HL6 := Lib.hid (HL5.out.step b6)
        have HS6 := Lib.hid (HS5.out.step b6)
        have HP6 := Lib.hid (HP5.out.step b6)
        have HRF := Lib.hid (dRead_any z F q w6 HP6.out.dsk)
        rw [HR2.out] at HRF
        have c0 : w6.cell? ⟨g, 0, none⟩ = some (.slice z.ba 256 z.bc) := by have := HP6.out.c0; rwa [HF1.out] at this
        have c1 : w6.cell? ⟨g, 1, none⟩ = some (.slice z.wa 0 z.wc) := by have := HP6.out.c1; rwa [HF2.out] at this
        simp only [dval, HF1.out, HF2.out] at HRF
        clear hxo b6 HL5 HS5 HP5 HRD
        go_wp2_with fail
        clear c0 c1
        refine HRF.out.mono ?_
        rintro e w7 ⟨yv, rfl, hyo, b7⟩
        simp only [HSL.out] at hyo
        obtain ⟨YA, yc, rfl⟩ := own_slice hyo
        obtain ⟨wd, hwd⟩ : ∃ wd, w7.drew = wd := ⟨_, rfl⟩
        have bd : Below w7.heap.size w7 wd := by rw [← hwd]; exact (Below.refl _ w7).drew
        have b7d := b7.trans (bd.mono b7.size)
        have hys := (own_bsl hyo).step bd
        have hxs := HX6.out.step b7d
        have hP7 := HP6.out.step b7d
        obtain ⟨fb, fo, FA, fl, fc, t, hfb, _, hft, hfc, hfA⟩ := hP7.dsk.1.at_ (show q < F.1.length by rw [HF1.out]; exact hq)
        rw [HFQ.out] at hft
        subst hft
        have HL7 := Lib.hid (HL6.out.step b7d)
        have HS7 := Lib.hid (HS6.out.step b7d)
        have HX7 := Lib.hid hxs
        have V0 := fun X (hX : Below wd.heap.size wd X) => (hxs.below hX).conv
        have V1 := fun X (hX : Below wd.heap.size wd X) => (hys.below hX).conv
        have V2 := fun X (hX : Below wd.heap.size wd X) => (hfA.below hX).conv
        have s0 : wd.cell? ⟨g, 0, none⟩ = some (.slice z.ba 256 z.bc) := by have := hP7.c0; rwa [HF1.out] at this
        obtain ⟨za, zb, zc, zd⟩ := z
        obtain rfl : za = some ⟨fb, fo, none⟩ := hfb
        simp only at s0
        have C0 := fun X (hX : Below wd.heap.size wd X) => (hX.cell (p := ⟨g, 0, none⟩) (World.block_lt_of_cell? wd _ s0)).trans s0
        have C1 := fun X (hX : Below wd.heap.size wd X) => (hX.cell (p := ⟨fb, fo + q, none⟩) (World.block_lt_of_cell? wd _ hfc)).trans hfc
        have hSS : Below wd.heap.size wd wd := Below.refl _ _
        clear b7 bd b7d hyo hys hxs hP7 hfc hfA s0 HL6 HS6 HP6 HX6 HRF
        go_wp2_with fail
        refine wpS_start [0, 1, 2, 3, 4, 5, 6, 7, 8, 9, 10, 11, 12, 13, 14, 15, 16, 17, 18, 19, 20, 21, 22, 23, 24, 25, 26, 27] hmx rfl hwd ?_
        clear hwd
        iterate 28 (
          refine wpS_read (v := ?_) rfl (by kernel_rfl) (by kernel_rfl) (by kernel_rfl) (fun _ _ _ h => h) (.inl ⟨by rfl, ?_⟩) ?_
          rotate_left
          · intro X hX
            have hX0 := C0 X (hX _ hSS)
            have hX1 := C1 X (hX _ hSS)
            have hXa := V0 X (hX _ hSS)
            have hXb := V1 X (hX _ hSS)
            have hXc := V2 X (hX _ hSS)
            clear hX
            go_simp
            with_reducible rfl
          try simp only [Act.put, List.setIfInBounds_toArray, List.set_cons_zero, List.set_cons_succ])
        refine wpS_done (by kernel_rfl) ?_
        clear C0 C1 V0 V1 V2 hSS
        have hm := HM.out
        have hsl : s.length = n := HS7.out.1
        have HWR := Lib.hid (dWrite_any x D p a n c s wd HL7.out.dsk HS7.out)
        have c0 := HL7.out.c0
        have c1 := HL7.out.c1
        have m0 : (0 : Int) ≤ D.2.length := by omega
        have hno : ∀ (we : Int), (we = 2 ∨ we = 3 ∨ we = 9) → (we == 0) = false ∧ (we != 0) = true := by
          rintro we (rfl | rfl | rfl) <;> exact ⟨rfl, rfl⟩
        simp only [dval] at HWR
        by_cases hroom : (D.2.length < 4096 ∧ 0 ≤ p) ∧ p < 256 ∧ n = 256
        · obtain ⟨⟨r1, r2⟩, r3, rfl⟩ := hroom
          obtain ⟨k, rfl⟩ := Int.eq_ofNat_of_zero_le r2
          rw [write_ok hm ⟨r2, r3⟩ hsl (by omega)] at HWR
          have hKm : MayD (withD D (k : Int) s) := with_may hm ⟨r2, r3⟩ hsl (by omega)
          have i1 : (D.2.length : Int) < 4096 := by omega
          have i2 : ¬ ((k : Int) < 0) := by omega
          obtain ⟨K, hK⟩ : ∃ K, withD D (k : Int) s = K := ⟨_, rfl⟩
          obtain ⟨T, hT⟩ : ∃ T, leftD K (fun _ => true) q = T := ⟨_, rfl⟩
          rw [hK] at HWR hKm
          have hr3 : readO K (q : Int) = (T, 0) := by rw [read_ok hKm hq, hT]
          have hTl : T.length = 256 := by rw [← hT]; exact leftD_length hKm _ hq
          have HR3 := Lib.hid hr3
          have HTL := Lib.hid hTl
          have HK := Lib.hid hK
          have HT := Lib.hid hT
          clear hr3 hTl hKm hK hT hno hm
          go_wp2_with fail
          clear c0 c1
          refine HWR.out.mono ?_
          rintro e w8 ⟨u, rfl, hu, b8⟩
          have hL8 := HL7.out.step b8
          have hP8 := hL8.put hu.dsk
          have ba := alloc_b w8 (.cells #[.slice u.ba K.1.length u.bc, .slice u.wa K.2.length u.wc] 25)
          have hL9 := hL8.step ba
          have hS9 := (HS7.out.step b8).step ba
          have hX9 := (HX7.out.step b8).step ba
          obtain ⟨w9, hw9⟩ : ∃ w9, w8.alloc (.cells #[.slice u.ba K.1.length u.bc, .slice u.wa K.2.length u.wc] 25) = w9 := ⟨_, rfl⟩
          obtain ⟨gu, hgu⟩ : ∃ g, w8.heap.size = g := ⟨_, rfl⟩
          rw [hw9] at hP8 hL9 hS9 hX9
          rw [hgu] at hP8
          have HL9 := Lib.hid hL9
          have HS9 := Lib.hid hS9
          have HX9 := Lib.hid hX9
          have HRK := Lib.hid (dRead_any u K q w9 hP8.dsk)
          rw [HR3.out] at HRK
          have c0 := hL9.c0
          have c1 := hL9.c1
          have d0 := hP8.c0
          have d1 := hP8.c1
          simp only [dval] at HRK ⊢
          clear b8 hu hL8 hP8 ba hL9 hS9 hX9 HL7 HS7 HX7 HWR
          go_wp2_with fail
          clear hw9 hgu c0 c1 d0 d1
          refine HRK.out.mono ?_
          rintro e wa ⟨tv, rfl, hto, ba⟩
          simp only [HTL.out] at hto
          obtain ⟨TA, tc, rfl⟩ := own_slice hto
          have hvt := (own_bsl hto).conv
          have hvs := (HS9.out.step ba).conv
          have hvx := (HX9.out.step ba).conv
          have HLa := Lib.hid (HL9.out.step ba)
          clear hto ba HL9 HS9 HX9 HRK
          by_cases hqk : q = k
          · subst hqk
            have hts : T = s := by rw [← HT.out, ← HK.out]; exact with_left_same D q s
            rw [hts] at hvt
            clear hvx
            go_wp2_with fail
            go_ret
            exact ⟨rfl, by rw [← HBB.out]; exact HLa.out.bel⟩
          · have htx : T = S := by rw [← HT.out, ← HK.out, with_left_other D k q s (by omega)]; exact HSD.out
            rw [htx] at hvt
            have hne : ((q : Int) == (k : Int)) = false := by simp; omega
            clear hvs
            go_wp2_with fail
            go_ret
            exact ⟨rfl, by rw [← HBB.out]; exact HLa.out.bel⟩
        · obtain ⟨we, hwo, hwe⟩ : ∃ we, writeO D p s = (([], []), we) ∧ (we = 2 ∨ we = 3 ∨ we = 9) := by
            unfold writeO
            rw [if_pos hm]
            by_cases hp : 0 ≤ p ∧ p < 256
            · rw [if_pos hp]
              by_cases hl : s.length = 256
              · rw [if_pos hl]
                by_cases hf : D.2.length = 4096
                · rw [if_pos hf]
                  exact ⟨9, rfl, .inr (.inr rfl)⟩
                · exact absurd ⟨⟨by have := hm.2.1; omega, hp.1⟩, hp.2, by omega⟩ hroom
              · rw [if_neg hl]
                exact ⟨3, rfl, .inr (.inl rfl)⟩
            · rw [if_neg hp]
              exact ⟨2, rfl, .inl rfl⟩
          obtain ⟨hw1, hw2⟩ := hno we hwe
          rw [hwo] at HWR
          clear hno hwo hwe hm
          go_wp2_with fail
          clear c0 c1
          refine HWR.out.mono ?_
          rintro e w8 ⟨u, rfl, hu, b8⟩
          have hL8 := HL7.out.step b8
          have hP8 := hL8.put hu.dsk
          have ba := alloc_b w8 (.cells #[.slice u.ba 0 u.bc, .slice u.wa 0 u.wc] 25)
          have hL9 := hL8.step ba
          simp only [dval, List.length_nil] at hP8 ⊢
          obtain ⟨w9, hw9⟩ : ∃ w9, w8.alloc (.cells #[.slice u.ba 0 u.bc, .slice u.wa 0 u.wc] 25) = w9 := ⟨_, rfl⟩
          obtain ⟨gu, hgu⟩ : ∃ g, w8.heap.size = g := ⟨_, rfl⟩
          rw [hw9] at hP8 hL9
          rw [hgu] at hP8
          have HL9 := Lib.hid hL9
          have c0 := hL9.c0
          have c1 := hL9.c1
          have d0 : w9.cell? ⟨gu, 0, none⟩ = some (.slice u.ba 0 u.bc) := hP8.c0
          clear b8 hu hL8 hP8 ba hL9 HL7 HS7 HX7 HWR
          by_cases i1 : (D.2.length : Int) < 4096
          · by_cases i2 : p < 0
            · go_wp2_with fail
              go_ret
              exact ⟨rfl, by rw [← HBB.out]; exact HL9.out.bel⟩
            · by_cases i3 : p < 256
              · have i4 : ((n : Int) == 256) = false := by simp; intro h; exact hroom ⟨⟨by omega, by omega⟩, i3, by omega⟩
                clear hroom
                go_wp2_with fail
                go_ret
                exact ⟨rfl, by rw [← HBB.out]; exact HL9.out.bel⟩
              · go_wp2_with fail
                go_ret
                exact ⟨rfl, by rw [← HBB.out]; exact HL9.out.bel⟩
          · go_wp2_with fail
            go_ret
            exact ⟨rfl, by rw [← HBB.out]; exact HL9.out.bel⟩
      · rw [checkO, if_neg hm]
        go_wp2_with fail
        go_ret
        exact ⟨rfl, by rw [← HBB.out]; exact HL3.out.bel⟩
theorem devSeen_walk (x : DAt) (D : DkL) (p o : Int) (a : Option Addr) (n c : Nat) (s : List UInt8) (w : World) (h : Dsk w w.heap.size x D) (hnear : Near D) (_hp : (Lit.int .i64 p).wf = true) (ho : (Lit.int .u8 o).wf = true) (hs : Bsl w w.heap.size a n c s) :
    Calls Try.prog 10 #[dval x D, .int .i64 p, .int .u8 o, .slice a n c] w fun e w' => e = .returned (.bool true) ∧ Below w.heap.size w w' := by
  obtain ⟨v, rfl⟩ := u8_of ho
  exact devSeen_at x D p v.toNat a n c s w v.toNat_lt h hnear hs
end Go.Proofs.Ytgpojnhhcobcbaa
namespace Go.Proofs.Ytgpojnhhcobcbaa.devSeen
open Go.ChangeShapes Go.WideShapes Go.ChangeAt Go.RowKit
set_option linter.unusedVariables false

theorem own : ownKnob Try.prog.godebug = none := by kernel_rfl
theorem laidOut : laidOutB Try.prog = true := by kernel_rfl

set_option maxRecDepth 100000 in
theorem lifted (os : Os) (started : os.Started) (H : Type) (enc : TypeId × Value → H) :
    ReturnsInHanded {} Try.checked os 10 .any (Rows.devSeenSpec.pre6 enc Try.prog Try.f10 Rows.devSeenRow.domain false) (Rows.devSeenSpec.post enc Try.prog Try.f10 false true false false) := by
  refine returnsInHanded_of_change_sized (C := Try.checked) own started (by kernel_rfl) Try.func10
    (ChangeSpec.witness6 (enc := enc) (C := Try.checked) false ⟨#[], #[.agg #[.slice none 0 0, .slice none 0 0], .int .i64 0, .int .u8 0, .slice none 0 0], []⟩ 8 (by kernel_rfl) (by kernel_rfl) (by kernel_rfl) (by kernel_rfl)) ?_
  intro W base args ds gs before hval0 hW hcnd hsz _
  have hval : ∀ (j : Nat) t v, Try.f10.params[j]? = some t → args[j]? = some v → Value.okWide Try.prog W .any base t v := hval0
  have hW' := hW
  obtain ⟨p, q, hA0, hV, rfl, hfz, hnd⟩ := hW
  have hA : DataW.TrodAll enc Try.prog W 0 (fun _ => true) true Try.f10.params.toList args.toList ds p := hA0
  rw [Try.params10] at hA hval
  obtain ⟨v0, vs0, d0, ds0, p0, q0, hargs, rfl, rfl, h0, r0⟩ := trodAll_cons hA
  obtain ⟨v1, vs1, d1, ds1, p1, q1, rfl, rfl, rfl, h1, r1⟩ := trodAll_cons r0
  obtain ⟨v2, vs2, d2, ds2, p2, q2, rfl, rfl, rfl, h2, r2⟩ := trodAll_cons r1
  obtain ⟨v3, vs3, d3, ds3, p3, q3, rfl, rfl, rfl, h3, r3⟩ := trodAll_cons r2
  obtain ⟨rfl, rfl, rfl⟩ := trodAll_nil r3
  obtain rfl : args = #[v0, v1, v2, v3] := by cases args; simp_all
  obtain ⟨rfl, rfl⟩ := trodVars_none hV
  have k0 := h0
  have lt0 : ∀ x ∈ p0, x.block < W.heap.size := by obtain ⟨m, hm⟩ := k0; exact DataW.trod_lt m _ _ _ hm
  obtain ⟨x0, D0, rfl, w0, m0⟩ := open_disk (hval 0 25 v0 rfl rfl) h0 (fun n hn => by
    have := List.all_eq_true.1 hsz n (DataW.weights_mem_each (j := 0) (t := 25) (by kernel_rfl) rfl n hn)
    simpa using this)
  obtain ⟨a1, rfl, rfl, rfl, w1⟩ := open_int Try.underlying3 (hval 1 3 v1 rfl rfl) h1
  obtain ⟨a2, rfl, rfl, rfl, w2⟩ := open_int Try.underlying5 (hval 2 5 v2 rfl rfl) h2
  obtain ⟨a3, len3, cap3, rfl⟩ := okWide_slice Try.underlying30 (hval 3 30 v3 rfl rfl)
  have k3 := h3
  have lt3 : ∀ x ∈ p3, x.block < W.heap.size := by obtain ⟨m, hm⟩ := k3; exact DataW.trod_lt m _ _ _ hm
  obtain ⟨z3, w3⟩ : ∃ zs, IsRow .u8 W a3 len3 cap3 zs := by
    obtain ⟨fuel, hf⟩ := h3
    rcases open_ints Try.underlying30 Try.underlying5 (by kernel_rfl) hf with ⟨hcs, _⟩ | ⟨x, l, c, zs, hcs, _, hl, hm, hz, _, hcell, hwz⟩
    · simp [Value.cells] at hcs
      obtain ⟨rfl, rfl, rfl⟩ := hcs
      exact ⟨[], .inl ⟨rfl, rfl, rfl, rfl⟩⟩
    · simp [Value.cells] at hcs
      obtain ⟨rfl, rfl, rfl⟩ := hcs
      exact ⟨zs, .inr ⟨_, rfl, hl, hm, by simpa using hz, hcell, hwz⟩⟩
  clear hA0 hval0
  refine (devSeen_walk x0 D0 a1 a2 a3 len3 cap3 _ W w0 m0 w1 w2 (bsl_of_row w3)).mono fun e W' ⟨he, bel⟩ => ?_
  subst he
  exact ⟨_, rfl, _, _, _, [], _, [], hW', trodAll_mk1 (shut_bool Try.underlying4 _), (trodAll_cons_mk (Below.trod laidOut (by kernel_rfl) (of_decide_eq_true (by kernel_rfl)) k0 bel lt0) (trodAll_cons_mk (shut_int Try.underlying3 w1) (trodAll_cons_mk (shut_int Try.underlying5 w2) (trodAll_cons_mk (Below.trod laidOut (by kernel_rfl) (of_decide_eq_true (by kernel_rfl)) k3 bel lt3) trodAll_mk0)))), rfl, bel.frame _, fun h => by cases h⟩

theorem over : Rows.devSeenRow.holds Try.pinned (OpenSpec.ofChange Rows.devSeenSpec) :=
  OpenClaim.holds_of_wide 10 Try.f10 rfl rfl rfl rfl rfl rfl rfl ⟨rfl, rfl, rfl, rfl, rfl⟩ rfl rfl rfl rfl rfl (by kernel_rfl) Try.func10 (by kernel_rfl)
    (of_decide_eq_true (by kernel_rfl)) (by unfold Func.isWrapper; first | (rw [if_pos (by decide +kernel)]; kernel_rfl) | (rw [if_neg (by decide +kernel)]; exact ⟨rfl, rfl⟩))
    (fun os started H enc _ => lifted os started H enc)

/-- The statement. -/
theorem proved : Rows.DevSeenSaid := over
end Go.Proofs.Ytgpojnhhcobcbaa.devSeen
