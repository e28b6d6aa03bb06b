/-
  DevNamesSaid: the limits and errors have their numbers, and the chapter's examples are so. No condition: it has no argument.
-/
import Derived.Test.YtgpojnhhcobcbaaRows
import Derived.Test.YtgpojnhhcobcbaaDevLawC
namespace Go.Proofs.Ytgpojnhhcobcbaa
open Go.RowKit Go.Shelf
set_option maxRecDepth 100000

theorem lawL_new {w w' : World} {x : DAt} {D : DkL} (hb : Below w.heap.size w w') (hd : Dsk w' w'.heap.size x D) : LawL w (w'.heap.size + 1) w'.heap.size x D (w'.alloc (.cells #[.slice x.ba D.1.length x.bc, .slice x.wa D.2.length x.wc] 25)) :=
  have b := alloc_b w' (.cells #[.slice x.ba D.1.length x.bc, .slice x.wa D.2.length x.wc] 25)
  ⟨Blk.new w' _ _, hb.size, Nat.lt_succ_self _, by rw [World.size_alloc]; exact Nat.le_refl _, by have := hd.step b; rwa [World.size_alloc] at this, hb.trans (b.mono hb.size)⟩
theorem from_one (W : World) (g c : Nat) (hc : 256 ≤ c) : (Instr.slice 30 (.slice (some ⟨g, 0, none⟩) 256 c) (some (.int .i64 1)) none none).run Try.prog W = .ok (.slice (some ⟨g, 1, none⟩) 255 (c - 1)) W := by
  rw [run_slice_l W 30 _ _ _ (by kernel_rfl) .i64 _ (by omega) (by omega)]
  have hz : (Go.sizeOf (Try.prog.elem 30)).run Try.prog W = .ok 1 W := by kernel_rfl
  rw [hz]
  have e : ¬ c = 1 := by omega
  simp [Result.andThen, sliced, Addr.add, e]
theorem names_flush {D : DkL} (hm : MayD D) : flushO D = (keptD D (fun _ => true), 0) := by rw [flushO, if_pos hm]
theorem names_left : leftD (withD newD 20 (List.replicate 256 7)) (fun _ => true) 20 = List.replicate 256 7 := rfl
theorem names_turned : (turnedD (keptD (withD newD 20 (List.replicate 256 7)) (fun _ => true)) 20 3 1).1.getD 20 [] = (List.replicate 256 7).set 3 6 := by
  have h : (keptD (withD newD 20 (List.replicate 256 7)) (fun _ => true)).1.getD 20 [] = List.replicate 256 7 := by rw [keptD_get _ _ _ (by omega)]; exact names_left
  show (List.set _ _ _).getD 20 [] = _
  rw [getD_set _ _ _ _ _ (by rw [keptD_length]; omega), if_pos rfl, h]
  rfl
set_option maxHeartbeats 8000000 in
theorem devNames_walk (w : World) : Calls Try.prog 3 #[] w fun e w' => e = .returned (.bool true) ∧ Below w.heap.size w w' := by
  have hmx : Try.prog.follows Departure.mixedOrders = true := by kernel_rfl
  have hn := dNew_any w
  have hl1 := names_left
  have hl2 := names_turned
  obtain ⟨D1, hD1⟩ : ∃ D1, withD newD 20 (List.replicate 256 7) = D1 := ⟨_, rfl⟩
  have hm1 : MayD D1 := by rw [← hD1]; exact with_may newD_may (by omega) (of_len 7) (by decide)
  have hk1 : D1.2.length = 1 := by rw [← hD1]; rfl
  rw [hD1] at hl1 hl2
  obtain ⟨F, hF⟩ : ∃ F, keptD D1 (fun _ => true) = F := ⟨_, rfl⟩
  have hmF : MayD F := by rw [← hF]; exact keptD_may hm1 _
  rw [hF] at hl2
  obtain ⟨T, hT⟩ : ∃ T, turnedD F 20 3 1 = T := ⟨_, rfl⟩
  have hT2 : T.2 = [] := by rw [← hT, ← hF]; rfl
  have hmT : MayD T := by rw [← hT]; exact turned_may hmF
  rw [hT] at hl2
  have hw1 : ∀ (x : DAt) (a : Option Addr) (c : Nat) (W : World), Dsk W W.heap.size x newD → Bsl W W.heap.size a 256 c (List.replicate 256 7) → Calls Try.prog 12 #[dval x newD, .int .i64 20, .slice a 256 c] W (ToldD (D1, 0) W) := fun x a c W h1 h2 => by
    have := dWrite_any x newD 20 a 256 c (List.replicate 256 7) W h1 h2
    rwa [write_ok newD_may (by omega) (of_len 7) (by decide), hD1] at this
  have hw2 : ∀ (x : DAt) (a : Option Addr) (c : Nat) (s : List UInt8) (W : World), Dsk W W.heap.size x D1 → Bsl W W.heap.size a 256 c s → Calls Try.prog 12 #[dval x D1, .int .i64 256, .slice a 256 c] W (ToldD (([], []), 2) W) := fun x a c s W h1 h2 => by
    have := dWrite_any x D1 256 a 256 c s W h1 h2
    rwa [writeO, if_pos hm1, if_neg (by omega)] at this
  have hw3 : ∀ (x : DAt) (a : Option Addr) (c : Nat) (s : List UInt8) (W : World), Dsk W W.heap.size x D1 → Bsl W W.heap.size a 255 c s → Calls Try.prog 12 #[dval x D1, .int .i64 1, .slice a 255 c] W (ToldD (([], []), 3) W) := fun x a c s W h1 h2 => by
    have := dWrite_any x D1 1 a 255 c s W h1 h2
    rwa [writeO, if_pos hm1, if_pos (by omega), if_neg (by have := h2.1; omega)] at this
  have hf : ∀ (x : DAt) (W : World), Dsk W W.heap.size x D1 → Calls Try.prog 15 #[dval x D1] W (ToldD (F, 0) W) := fun x W h1 => by
    have := dFlush_any x D1 W h1
    rwa [names_flush hm1, hF] at this
  have ht : ∀ (x : DAt) (W : World), Dsk W W.heap.size x F → Calls Try.prog 16 #[dval x F, .int .i64 20, .int .i64 3, .int .u8 1] W (ToldD (T, 0) W) := fun x W h1 => by
    have := dTamper_yes x F 20 3 1 W h1 hmF (by omega) (by omega)
    rwa [hT] at this
  obtain ⟨s7, hs7⟩ : ∃ s : List UInt8, List.replicate 256 7 = s := ⟨_, rfl⟩
  have hs7l : s7.length = 256 := by rw [← hs7]; exact of_len 7
  have hr1 : ∀ (x : DAt) (W : World), Dsk W W.heap.size x D1 → Calls Try.prog 17 #[dval x D1, .int .i64 20] W (ToldL (s7, 0) W) := fun x W h1 => by
    have := dRead_any x D1 (20 : Nat) W h1
    rwa [read_ok hm1 (by omega), hl1, hs7] at this
  have hr2 : ∀ (x : DAt) (W : World), Dsk W W.heap.size x T → Calls Try.prog 17 #[dval x T, .int .i64 20] W (ToldL (s7.set 3 6, 0) W) := fun x W h1 => by
    have := dRead_any x T (20 : Nat) W h1
    rwa [read_ok hmT (by omega), left_still hT2, hl2, hs7] at this
  have hc : ∀ (x : DAt) (W : World), Dsk W W.heap.size x D1 → Calls Try.prog 18 #[dval x D1, .slice none 0 0] W (ToldD (([], []), 2) W) := fun x W h1 => by
    have := dCrash_any x D1 none 0 0 [] W h1 ⟨rfl, Nat.le_refl _, Nat.zero_le _, fun h => absurd h (Nat.lt_irrefl _)⟩
    rwa [crashO, if_pos hm1, if_neg (by rw [hk1]; decide)] at this
  have hck : ∀ W, Calls Try.prog 20 #[.agg #[.slice none 0 0, .slice none 0 0]] W (fun e w' => e = .returned (.int .i64 8) ∧ Below W.heap.size W w') := fun W => by
    have := dCheck_any ⟨none, 0, none, 0⟩ ([], []) W ⟨bls_nil _ _, wts_nil _ _⟩
    rwa [checkO, if_neg (fun h => by have := h.1.1; cases this)] at this
  have ho7 : ∀ W, Calls Try.prog 14 #[.int .u8 7] W (fun e w' => ∃ v, e = .returned v ∧ w'.ownsRow W.heap.size 5 1 v 256 (vals s7) ∧ Below W.heap.size W w') := fun W => by have := of_any 7 W; rwa [hs7] at this
  have y2 : (s7.set 3 6).getD 2 0 = 7 := by rw [← hs7]; rfl
  have y3 : (s7.set 3 6).getD 3 0 = 6 := by rw [← hs7]; rfl
  have yl : (s7.set 3 6).length = 256 := by rw [List.length_set]; exact hs7l
  obtain ⟨sy, hsy⟩ : ∃ s : List UInt8, s7.set 3 6 = s := ⟨_, rfl⟩
  rw [hsy] at hr2 y2 y3 yl
  rw [hs7] at hw1
  simp only [dval] at hw1 hw2 hw3 hf ht hr1 hr2 hc
  have HN := Lib.hid hn
  have HW1 := Lib.hid hw1
  have HW2 := Lib.hid hw2
  have HW3 := Lib.hid hw3
  have HF := Lib.hid hf
  have HT := Lib.hid ht
  have HR1 := Lib.hid hr1
  have HR2 := Lib.hid hr2
  have HC := Lib.hid hc
  have HCK := Lib.hid hck
  have HO7 := Lib.hid ho7
  have HY := Lib.hid (And.intro y2 (And.intro y3 yl))
  have HSL := Lib.hid hs7l
  clear hn hw1 hw2 hw3 hf ht hr1 hr2 hc hck ho7 y2 y3 yl hs7l hsy hs7 hmT hT2 hT hl1 hl2 hmF hF hk1 hm1 hD1
  go_enter Try.func3, Try.ntmps3
  go_wp2_with fail
  refine HN.out.mono ?_
  rintro e w1 ⟨x1, rfl, hl1, b1⟩
  have HD1 := Lib.hid hl1.dsk
  have HB1 := Lib.hid b1
  clear hl1 b1 HN
  go_wp2_with fail
  refine (HO7.out w1).mono ?_
  rintro e w2 ⟨v2, rfl, ho2, b2⟩
  obtain ⟨A2, c2, rfl⟩ := own_slice ho2
  have HS2 := Lib.hid (own_bsl ho2)
  have HD2 := Lib.hid (HD1.out.step b2)
  have HB2 := Lib.hid (HB1.out.trans (b2.mono HB1.out.size))
  clear ho2 b2 HD1 HB1
  simp only [dval]
  go_wp2_with fail
  refine (HW1.out x1 A2 c2 w2 HD2.out HS2.out).mono ?_
  rintro e w3 ⟨x3, rfl, ho3, b3⟩
  have hL := lawL_new (HB2.out.trans (b3.mono HB2.out.size)) ho3.dsk
  obtain ⟨w4, hw4⟩ : ∃ w4, w3.alloc (.cells #[.slice x3.ba D1.1.length x3.bc, .slice x3.wa D1.2.length x3.wc] 25) = w4 := ⟨_, rfl⟩
  obtain ⟨g1, hg1⟩ : ∃ g, w3.heap.size = g := ⟨_, rfl⟩
  rw [hw4, hg1] at hL
  have c0 := hL.c0
  have c1 := hL.c1
  have HL4 := Lib.hid hL
  have HF4 := Lib.hid (HF.out x3 w4 hL.dsk)
  simp only [dval]
  clear ho3 b3 hL HD2 HB2 HS2 HW1 HF
  go_wp2_with fail
  clear hw4 hg1 c0 c1
  refine HF4.out.mono ?_
  rintro e w5 ⟨x5, rfl, ho5, b5⟩
  have hL := HL4.out.step b5
  have hP := hL.put ho5.dsk
  have hL6 := hL.step (alloc_b w5 (.cells #[.slice x5.ba F.1.length x5.bc, .slice x5.wa F.2.length x5.wc] 25))
  obtain ⟨w6, hw6⟩ : ∃ w6, w5.alloc (.cells #[.slice x5.ba F.1.length x5.bc, .slice x5.wa F.2.length x5.wc] 25) = w6 := ⟨_, rfl⟩
  obtain ⟨g3, hg3⟩ : ∃ g, w5.heap.size = g := ⟨_, rfl⟩
  rw [hw6] at hP hL6
  rw [hg3] at hP
  have c0 := hP.c0
  have c1 := hP.c1
  have HL6 := Lib.hid hL6
  have HT6 := Lib.hid (HT.out x5 w6 hP.dsk)
  simp only [dval]
  clear ho5 b5 hL hP hL6 HL4 HF4 HT
  go_wp2_with fail
  clear hw6 hg3 c0 c1
  refine HT6.out.mono ?_
  rintro e w7 ⟨x7, rfl, ho7, b7⟩
  have hL := HL6.out.step b7
  have hP := hL.put ho7.dsk
  have hL8 := hL.step (alloc_b w7 (.cells #[.slice x7.ba T.1.length x7.bc, .slice x7.wa T.2.length x7.wc] 25))
  obtain ⟨w8, hw8⟩ : ∃ w8, w7.alloc (.cells #[.slice x7.ba T.1.length x7.bc, .slice x7.wa T.2.length x7.wc] 25) = w8 := ⟨_, rfl⟩
  obtain ⟨g5, hg5⟩ : ∃ g, w7.heap.size = g := ⟨_, rfl⟩
  rw [hw8] at hP hL8
  rw [hg5] at hP
  have HP8 := Lib.hid hP
  have HL8 := Lib.hid hL8
  have c0 := hL8.c0
  have c1 := hL8.c1
  have HR8 := Lib.hid (HR1.out x3 w8 hL8.dsk)
  simp only [dval]
  clear ho7 b7 hL hP hL8 HL6 HT6 HR1
  go_wp2_with fail
  clear hw8 hg5 c0 c1
  refine HR8.out.mono ?_
  rintro e w9 ⟨xv, rfl, hxo, b9⟩
  simp only [HSL.out] at hxo
  obtain ⟨XA, xc, rfl⟩ := own_slice hxo
  have HX9 := Lib.hid (own_bsl hxo)
  have HL9 := Lib.hid (HL8.out.step b9)
  have HP9 := Lib.hid (HP8.out.step b9)
  have HRT := Lib.hid (HR2.out x7 w9 HP9.out.dsk)
  have c0 := HP9.out.c0
  have c1 := HP9.out.c1
  clear hxo b9 HL8 HP8 HR8 HR2
  go_wp2_with fail
  clear c0 c1
  refine HRT.out.mono ?_
  rintro e w10 ⟨yv, rfl, hyo, b10⟩
  simp only [HY.out.2.2] at hyo
  obtain ⟨yb, yc, rfl⟩ := own_pos hyo (by omega)
  have HX10 := Lib.hid (HX9.out.step b10)
  have HY10 := Lib.hid (own_bsl hyo)
  have HL10 := Lib.hid (HL9.out.step b10)
  have c0 := HL10.out.c0
  have c1 := HL10.out.c1
  have HC10 := Lib.hid (HC.out x3 w10 HL10.out.dsk)
  clear hyo b10 HL9 HP9 HX9 HRT HC
  go_wp2_with fail
  clear c0 c1
  refine HC10.out.mono ?_
  rintro e w11 ⟨x11, rfl, ho11, b11⟩
  have ba := b11.trans ((alloc_b w11 (.cells #[.slice x11.ba 0 x11.bc, .slice x11.wa 0 x11.wc] 25)).mono b11.size)
  obtain ⟨w12, hw12⟩ : ∃ w12, w11.alloc (.cells #[.slice x11.ba 0 x11.bc, .slice x11.wa 0 x11.wc] 25) = w12 := ⟨_, rfl⟩
  rw [hw12] at ba
  have HLA := Lib.hid (HL10.out.step ba)
  have HX12 := Lib.hid (HX10.out.step ba)
  have HY12 := Lib.hid (HY10.out.step ba)
  simp only [dval, List.length_nil]
  clear ho11 b11 ba HL10 HX10 HY10 HC10
  go_wp2_with fail
  clear hw12
  go_cut [13, 14] from 48 to 53 (fun u v wx => (∃ g, u = .pointer (some ⟨g, 0, none⟩)) ∧ v = .int .i64 2 ∧ Below w12.heap.size w12 wx)
  case first =>
    obtain ⟨wd, hwd⟩ : ∃ wd, w12.drew = wd := ⟨_, rfl⟩
    have HBd := Lib.hid (show Below w12.heap.size w12 wd by rw [← hwd]; exact (Below.refl _ _).drew)
    have HLD := Lib.hid (HLA.out.step HBd.out)
    have c0 := HLD.out.c0
    have c1 := HLD.out.c1
    have C0 := fun X (hX : Below wd.heap.size wd X) => (hX.cell (p := ⟨g1, 0, none⟩) (World.block_lt_of_cell? wd _ c0)).trans c0
    have C1 := fun X (hX : Below wd.heap.size wd X) => (hX.cell (p := ⟨g1, 1, none⟩) (World.block_lt_of_cell? wd _ c1)).trans c1
    have hbwd : Below wd.heap.size wd wd := Below.refl _ _
    clear c0 c1
    refine wpI_start (Below wd.heap.size wd) [0, 1, 6, 2, 3, 4, 5, 7, 8] hmx rfl hwd ?_
    clear hwd
    refine wpI_read (v := ?_) hbwd rfl (by kernel_rfl) (by kernel_rfl) (by kernel_rfl) (fun _ _ _ h => h) (.inl ⟨by rfl, ?_⟩) ?_
    rotate_left
    · intro X hX
      have hXa := C0 X hX
      have hXb := C1 X hX
      clear hX
      go_simp
      with_reducible rfl
    try simp only [Act.put, List.setIfInBounds_toArray, List.set_cons_zero, List.set_cons_succ]
    clear C0 C1
    refine wpI_fork rfl rfl (by kernel_rfl) (fun K hK => ?_) (fun K hK => ?_)
    · go_simp
      refine (HO7.out wd).mono ?_
      rintro e wa ⟨vo, rfl, ho, bq⟩
      obtain ⟨go, co, rfl⟩ := own_pos ho (by omega)
      have hbwa := hbwd.trans (bq.mono hbwd.size)
      refine hK _ _ hbwa ?_
      clear hK K
      have hswa := own_bsl ho
      clear ho bq
      try simp only [Act.put, List.setIfInBounds_toArray, List.set_cons_zero, List.set_cons_succ]
      refine wpI_turn [2, 6, 3, 4, 5, 7, 8] rfl ?_
      refine wpI_fork rfl rfl (by kernel_rfl) (fun K hK => ?_) (fun K hK => ?_)
      · have hcw := HW2.out x3 (some ⟨go, 0, none⟩) co _ wa (HLD.out.dsk.step hbwa) hswa
        go_simp
        refine hcw.mono ?_
        rintro e wb ⟨u, rfl, hu, bq⟩
        have hbwb := hbwa.trans (bq.mono hbwa.size)
        refine hK _ _ hbwb ?_
        clear hK K hu hcw bq
        simp only [dval, List.length_nil]
        try simp only [Act.put, List.setIfInBounds_toArray, List.set_cons_zero, List.set_cons_succ]
        refine wpI_turn [3, 4, 5, 6, 7, 8] rfl ?_
        iterate 3 (
          refine wpI_read (v := ?_) hbwb rfl (by kernel_rfl) (by kernel_rfl) (by kernel_rfl) (fun _ _ _ h => h) (.inl ⟨by rfl, ?_⟩) ?_
          rotate_left
          · intro X hX
            clear hX
            go_simp
            with_reducible rfl
          try simp only [Act.put, List.setIfInBounds_toArray, List.set_cons_zero, List.set_cons_succ])
        refine wpI_lone rfl (by kernel_rfl) (fun K hK => ?_)
        go_simp
        have bq := alloc_b wb (.cells #[.slice none 0 0, .slice none 0 0] 25)
        have hxwc := Blk.new wb 25 #[.slice none 0 0, .slice none 0 0]
        obtain ⟨wc, hnwc⟩ : ∃ wc, wb.alloc (.cells #[.slice none 0 0, .slice none 0 0] 25) = wc := ⟨_, rfl⟩
        obtain ⟨g, hg⟩ : ∃ g, wb.heap.size = g := ⟨_, rfl⟩
        have hgl : wd.heap.size ≤ g := by rw [← hg]; exact hbwb.size
        rw [hnwc] at bq hxwc ⊢
        rw [hg] at hxwc ⊢
        have hbwc := hbwb.trans (bq.mono hbwb.size)
        refine hK _ _ hbwc ?_
        clear hK K bq hnwc hg
        try simp only [Act.put, List.setIfInBounds_toArray, List.set_cons_zero, List.set_cons_succ]
        refine wpI_lone rfl (by kernel_rfl) (fun K hK => ?_)
        have d0 := hxwc.cell 0
        have d1 := hxwc.cell 1
        have hfz := fun i => hxwc.frozen i
        go_simp
        have hbwd := (hbwc.setCell (p := ⟨g, 0, none⟩) hgl (.slice u.ba 0 u.bc)).setCell (p := ⟨g, 1, none⟩) hgl (.slice u.wa 0 u.wc)
        obtain ⟨wd, hnwd⟩ : ∃ wd, ((wc.setCell ⟨g, 0, none⟩ (.slice u.ba 0 u.bc)).setCell ⟨g, 1, none⟩ (.slice u.wa 0 u.wc)) = wd := ⟨_, rfl⟩
        rw [hnwd] at hbwd ⊢
        refine hK _ _ hbwd ?_
        clear hK K d0 d1 hfz hnwd hxwc
        try simp only [Act.put, List.setIfInBounds_toArray, List.set_cons_zero, List.set_cons_succ]
        iterate 1 (
          refine wpI_read (v := ?_) hbwd rfl (by kernel_rfl) (by kernel_rfl) (by kernel_rfl) (fun _ _ _ h => h) (.inl ⟨by rfl, ?_⟩) ?_
          rotate_left
          · intro X hX
            clear hX
            go_simp
            with_reducible rfl
          try simp only [Act.put, List.setIfInBounds_toArray, List.set_cons_zero, List.set_cons_succ])
        refine wpI_done (by kernel_rfl) ?_
        go_wp2_with fail
        go_meet
        exact ⟨⟨_, rfl⟩, rfl, HBd.out.trans (hbwd.mono HBd.out.size)⟩
      · go_simp
        have bq := alloc_b wa (.cells #[.slice none 0 0, .slice none 0 0] 25)
        have hxwb := Blk.new wa 25 #[.slice none 0 0, .slice none 0 0]
        obtain ⟨wb, hnwb⟩ : ∃ wb, wa.alloc (.cells #[.slice none 0 0, .slice none 0 0] 25) = wb := ⟨_, rfl⟩
        obtain ⟨g, hg⟩ : ∃ g, wa.heap.size = g := ⟨_, rfl⟩
        have hgl : wd.heap.size ≤ g := by rw [← hg]; exact hbwa.size
        rw [hnwb] at bq hxwb ⊢
        rw [hg] at hxwb ⊢
        have hbwb := hbwa.trans (bq.mono hbwa.size)
        have hswb := hswa.step bq
        refine hK _ _ hbwb ?_
        clear hK K bq hnwb hg
        try simp only [Act.put, List.setIfInBounds_toArray, List.set_cons_zero, List.set_cons_succ]
        refine wpI_lone rfl (by kernel_rfl) (fun K hK => ?_)
        have hcw := HW2.out x3 (some ⟨go, 0, none⟩) co _ wb (HLD.out.dsk.step hbwb) hswb
        go_simp
        refine hcw.mono ?_
        rintro e wc ⟨u, rfl, hu, bq⟩
        have hbwc := hbwb.trans (bq.mono hbwb.size)
        have hxwc := hxwb.below bq hxwb.lt
        refine hK _ _ hbwc ?_
        clear hK K hu hcw bq
        simp only [dval, List.length_nil]
        try simp only [Act.put, List.setIfInBounds_toArray, List.set_cons_zero, List.set_cons_succ]
        iterate 3 (
          refine wpI_read (v := ?_) hbwc rfl (by kernel_rfl) (by kernel_rfl) (by kernel_rfl) (fun _ _ _ h => h) (.inl ⟨by rfl, ?_⟩) ?_
          rotate_left
          · intro X hX
            clear hX
            go_simp
            with_reducible rfl
          try simp only [Act.put, List.setIfInBounds_toArray, List.set_cons_zero, List.set_cons_succ])
        refine wpI_lone rfl (by kernel_rfl) (fun K hK => ?_)
        have d0 := hxwc.cell 0
        have d1 := hxwc.cell 1
        have hfz := fun i => hxwc.frozen i
        go_simp
        have hbwd := (hbwc.setCell (p := ⟨g, 0, none⟩) hgl (.slice u.ba 0 u.bc)).setCell (p := ⟨g, 1, none⟩) hgl (.slice u.wa 0 u.wc)
        obtain ⟨wd, hnwd⟩ : ∃ wd, ((wc.setCell ⟨g, 0, none⟩ (.slice u.ba 0 u.bc)).setCell ⟨g, 1, none⟩ (.slice u.wa 0 u.wc)) = wd := ⟨_, rfl⟩
        rw [hnwd] at hbwd ⊢
        refine hK _ _ hbwd ?_
        clear hK K d0 d1 hfz hnwd hxwc
        try simp only [Act.put, List.setIfInBounds_toArray, List.set_cons_zero, List.set_cons_succ]
        iterate 1 (
          refine wpI_read (v := ?_) hbwd rfl (by kernel_rfl) (by kernel_rfl) (by kernel_rfl) (fun _ _ _ h => h) (.inl ⟨by rfl, ?_⟩) ?_
          rotate_left
          · intro X hX
            clear hX
            go_simp
            with_reducible rfl
          try simp only [Act.put, List.setIfInBounds_toArray, List.set_cons_zero, List.set_cons_succ])
        refine wpI_done (by kernel_rfl) ?_
        go_wp2_with fail
        go_meet
        exact ⟨⟨_, rfl⟩, rfl, HBd.out.trans (hbwd.mono HBd.out.size)⟩
    · go_simp
      have bq := alloc_b wd (.cells #[.slice none 0 0, .slice none 0 0] 25)
      have hxwa := Blk.new wd 25 #[.slice none 0 0, .slice none 0 0]
      obtain ⟨wa, hnwa⟩ : ∃ wa, wd.alloc (.cells #[.slice none 0 0, .slice none 0 0] 25) = wa := ⟨_, rfl⟩
      obtain ⟨g, hg⟩ : ∃ g, wd.heap.size = g := ⟨_, rfl⟩
      have hgl : wd.heap.size ≤ g := by rw [← hg]; exact hbwd.size
      rw [hnwa] at bq hxwa ⊢
      rw [hg] at hxwa ⊢
      have hbwa := hbwd.trans (bq.mono hbwd.size)
      refine hK _ _ hbwa ?_
      clear hK K bq hnwa hg
      try simp only [Act.put, List.setIfInBounds_toArray, List.set_cons_zero, List.set_cons_succ]
      refine wpI_lone rfl (by kernel_rfl) (fun K hK => ?_)
      go_simp
      refine (HO7.out wa).mono ?_
      rintro e wb ⟨vo, rfl, ho, bq⟩
      obtain ⟨go, co, rfl⟩ := own_pos ho (by omega)
      have hbwb := hbwa.trans (bq.mono hbwa.size)
      have hxwb := hxwa.below bq hxwa.lt
      refine hK _ _ hbwb ?_
      clear hK K
      have hswb := own_bsl ho
      clear ho bq
      try simp only [Act.put, List.setIfInBounds_toArray, List.set_cons_zero, List.set_cons_succ]
      refine wpI_lone rfl (by kernel_rfl) (fun K hK => ?_)
      have hcw := HW2.out x3 (some ⟨go, 0, none⟩) co _ wb (HLD.out.dsk.step hbwb) hswb
      go_simp
      refine hcw.mono ?_
      rintro e wc ⟨u, rfl, hu, bq⟩
      have hbwc := hbwb.trans (bq.mono hbwb.size)
      have hxwc := hxwb.below bq hxwb.lt
      refine hK _ _ hbwc ?_
      clear hK K hu hcw bq
      simp only [dval, List.length_nil]
      try simp only [Act.put, List.setIfInBounds_toArray, List.set_cons_zero, List.set_cons_succ]
      iterate 3 (
        refine wpI_read (v := ?_) hbwc rfl (by kernel_rfl) (by kernel_rfl) (by kernel_rfl) (fun _ _ _ h => h) (.inl ⟨by rfl, ?_⟩) ?_
        rotate_left
        · intro X hX
          clear hX
          go_simp
          with_reducible rfl
        try simp only [Act.put, List.setIfInBounds_toArray, List.set_cons_zero, List.set_cons_succ])
      refine wpI_lone rfl (by kernel_rfl) (fun K hK => ?_)
      have d0 := hxwc.cell 0
      have d1 := hxwc.cell 1
      have hfz := fun i => hxwc.frozen i
      go_simp
      have hbwd := (hbwc.setCell (p := ⟨g, 0, none⟩) hgl (.slice u.ba 0 u.bc)).setCell (p := ⟨g, 1, none⟩) hgl (.slice u.wa 0 u.wc)
      obtain ⟨wd, hnwd⟩ : ∃ wd, ((wc.setCell ⟨g, 0, none⟩ (.slice u.ba 0 u.bc)).setCell ⟨g, 1, none⟩ (.slice u.wa 0 u.wc)) = wd := ⟨_, rfl⟩
      rw [hnwd] at hbwd ⊢
      refine hK _ _ hbwd ?_
      clear hK K d0 d1 hfz hnwd hxwc
      try simp only [Act.put, List.setIfInBounds_toArray, List.set_cons_zero, List.set_cons_succ]
      iterate 1 (
        refine wpI_read (v := ?_) hbwd rfl (by kernel_rfl) (by kernel_rfl) (by kernel_rfl) (fun _ _ _ h => h) (.inl ⟨by rfl, ?_⟩) ?_
        rotate_left
        · intro X hX
          clear hX
          go_simp
          with_reducible rfl
        try simp only [Act.put, List.setIfInBounds_toArray, List.set_cons_zero, List.set_cons_succ])
      refine wpI_done (by kernel_rfl) ?_
      go_wp2_with fail
      go_meet
      exact ⟨⟨_, rfl⟩, rfl, HBd.out.trans (hbwd.mono HBd.out.size)⟩
  obtain ⟨⟨g13, rfl⟩, rfl, hb⟩ := hcut
  have hLc := HLA.out.step hb
  have HXc := Lib.hid (HX12.out.step hb)
  have HYc := Lib.hid (HY12.out.step hb)
  clear hb HLA HX12 HY12
  have HLA := Lib.hid hLc
  clear hLc
  go_wp2_with fail
  obtain ⟨w13, hw13⟩ : ∃ w13, wc = w13 := ⟨_, rfl⟩
  subst hw13
  go_cut [15, 16] from 54 to 60 (fun u v wx => (∃ g, u = .pointer (some ⟨g, 0, none⟩)) ∧ v = .int .i64 3 ∧ Below wc.heap.size wc wx)
  case first =>
    obtain ⟨wd, hwd⟩ : ∃ wd, wc.drew = wd := ⟨_, rfl⟩
    have HBd := Lib.hid (show Below wc.heap.size wc wd by rw [← hwd]; exact (Below.refl _ _).drew)
    have HLD := Lib.hid (HLA.out.step HBd.out)
    have c0 := HLD.out.c0
    have c1 := HLD.out.c1
    have C0 := fun X (hX : Below wd.heap.size wd X) => (hX.cell (p := ⟨g1, 0, none⟩) (World.block_lt_of_cell? wd _ c0)).trans c0
    have C1 := fun X (hX : Below wd.heap.size wd X) => (hX.cell (p := ⟨g1, 1, none⟩) (World.block_lt_of_cell? wd _ c1)).trans c1
    have hbwd : Below wd.heap.size wd wd := Below.refl _ _
    clear c0 c1
    refine wpI_start (Below wd.heap.size wd) [0, 1, 7, 2, 3, 4, 5, 6, 8, 9] hmx rfl hwd ?_
    clear hwd
    refine wpI_read (v := ?_) hbwd rfl (by kernel_rfl) (by kernel_rfl) (by kernel_rfl) (fun _ _ _ h => h) (.inl ⟨by rfl, ?_⟩) ?_
    rotate_left
    · intro X hX
      have hXa := C0 X hX
      have hXb := C1 X hX
      clear hX
      go_simp
      with_reducible rfl
    try simp only [Act.put, List.setIfInBounds_toArray, List.set_cons_zero, List.set_cons_succ]
    clear C0 C1
    refine wpI_fork rfl rfl (by kernel_rfl) (fun K hK => ?_) (fun K hK => ?_)
    · go_simp
      refine (HO7.out wd).mono ?_
      rintro e wa ⟨vo, rfl, ho, bq⟩
      obtain ⟨go, co, rfl⟩ := own_pos ho (by omega)
      have hbwa := hbwd.trans (bq.mono hbwd.size)
      refine hK _ _ hbwa ?_
      clear hK K
      have hswa := own_bsl ho
      clear ho bq
      try simp only [Act.put, List.setIfInBounds_toArray, List.set_cons_zero, List.set_cons_succ]
      have hsl := fun X => from_one X go co hswa.2.1
      refine wpI_turn [2, 7, 3, 4, 5, 6, 8, 9] rfl ?_
      iterate 1 (
        refine wpI_read (v := ?_) hbwa rfl (by kernel_rfl) (by kernel_rfl) (by kernel_rfl) (fun _ _ _ h => h) (.inl ⟨by rfl, ?_⟩) ?_
        rotate_left
        · intro X hX
          have hX0 := hsl X
          clear hX
          go_simp
          with_reducible rfl
        try simp only [Act.put, List.setIfInBounds_toArray, List.set_cons_zero, List.set_cons_succ])
      clear hsl
      have hqwa := hswa.win 1 255 (by omega)
      rw [Nat.zero_add] at hqwa
      clear hswa
      have hswa := hqwa
      clear hqwa
      refine wpI_turn [3, 7, 4, 5, 6, 8, 9] rfl ?_
      refine wpI_fork rfl rfl (by kernel_rfl) (fun K hK => ?_) (fun K hK => ?_)
      · have hcw := HW3.out x3 (some ⟨go, 1, none⟩) (co - 1) _ wa (HLD.out.dsk.step hbwa) hswa
        go_simp
        refine hcw.mono ?_
        rintro e wb ⟨u, rfl, hu, bq⟩
        have hbwb := hbwa.trans (bq.mono hbwa.size)
        refine hK _ _ hbwb ?_
        clear hK K hu hcw bq
        simp only [dval, List.length_nil]
        try simp only [Act.put, List.setIfInBounds_toArray, List.set_cons_zero, List.set_cons_succ]
        refine wpI_turn [4, 5, 6, 7, 8, 9] rfl ?_
        iterate 3 (
          refine wpI_read (v := ?_) hbwb rfl (by kernel_rfl) (by kernel_rfl) (by kernel_rfl) (fun _ _ _ h => h) (.inl ⟨by rfl, ?_⟩) ?_
          rotate_left
          · intro X hX
            clear hX
            go_simp
            with_reducible rfl
          try simp only [Act.put, List.setIfInBounds_toArray, List.set_cons_zero, List.set_cons_succ])
        refine wpI_lone rfl (by kernel_rfl) (fun K hK => ?_)
        go_simp
        have bq := alloc_b wb (.cells #[.slice none 0 0, .slice none 0 0] 25)
        have hxwc := Blk.new wb 25 #[.slice none 0 0, .slice none 0 0]
        obtain ⟨wc, hnwc⟩ : ∃ wc, wb.alloc (.cells #[.slice none 0 0, .slice none 0 0] 25) = wc := ⟨_, rfl⟩
        obtain ⟨g, hg⟩ : ∃ g, wb.heap.size = g := ⟨_, rfl⟩
        have hgl : wd.heap.size ≤ g := by rw [← hg]; exact hbwb.size
        rw [hnwc] at bq hxwc ⊢
        rw [hg] at hxwc ⊢
        have hbwc := hbwb.trans (bq.mono hbwb.size)
        refine hK _ _ hbwc ?_
        clear hK K bq hnwc hg
        try simp only [Act.put, List.setIfInBounds_toArray, List.set_cons_zero, List.set_cons_succ]
        refine wpI_lone rfl (by kernel_rfl) (fun K hK => ?_)
        have d0 := hxwc.cell 0
        have d1 := hxwc.cell 1
        have hfz := fun i => hxwc.frozen i
        go_simp
        have hbwd := (hbwc.setCell (p := ⟨g, 0, none⟩) hgl (.slice u.ba 0 u.bc)).setCell (p := ⟨g, 1, none⟩) hgl (.slice u.wa 0 u.wc)
        obtain ⟨wd, hnwd⟩ : ∃ wd, ((wc.setCell ⟨g, 0, none⟩ (.slice u.ba 0 u.bc)).setCell ⟨g, 1, none⟩ (.slice u.wa 0 u.wc)) = wd := ⟨_, rfl⟩
        rw [hnwd] at hbwd ⊢
        refine hK _ _ hbwd ?_
        clear hK K d0 d1 hfz hnwd hxwc
        try simp only [Act.put, List.setIfInBounds_toArray, List.set_cons_zero, List.set_cons_succ]
        iterate 1 (
          refine wpI_read (v := ?_) hbwd rfl (by kernel_rfl) (by kernel_rfl) (by kernel_rfl) (fun _ _ _ h => h) (.inl ⟨by rfl, ?_⟩) ?_
          rotate_left
          · intro X hX
            clear hX
            go_simp
            with_reducible rfl
          try simp only [Act.put, List.setIfInBounds_toArray, List.set_cons_zero, List.set_cons_succ])
        refine wpI_done (by kernel_rfl) ?_
        go_wp2_with fail
        go_meet
        exact ⟨⟨_, rfl⟩, rfl, HBd.out.trans (hbwd.mono HBd.out.size)⟩
      · go_simp
        have bq := alloc_b wa (.cells #[.slice none 0 0, .slice none 0 0] 25)
        have hxwb := Blk.new wa 25 #[.slice none 0 0, .slice none 0 0]
        obtain ⟨wb, hnwb⟩ : ∃ wb, wa.alloc (.cells #[.slice none 0 0, .slice none 0 0] 25) = wb := ⟨_, rfl⟩
        obtain ⟨g, hg⟩ : ∃ g, wa.heap.size = g := ⟨_, rfl⟩
        have hgl : wd.heap.size ≤ g := by rw [← hg]; exact hbwa.size
        rw [hnwb] at bq hxwb ⊢
        rw [hg] at hxwb ⊢
        have hbwb := hbwa.trans (bq.mono hbwa.size)
        have hswb := hswa.step bq
        refine hK _ _ hbwb ?_
        clear hK K bq hnwb hg
        try simp only [Act.put, List.setIfInBounds_toArray, List.set_cons_zero, List.set_cons_succ]
        refine wpI_lone rfl (by kernel_rfl) (fun K hK => ?_)
        have hcw := HW3.out x3 (some ⟨go, 1, none⟩) (co - 1) _ wb (HLD.out.dsk.step hbwb) hswb
        go_simp
        refine hcw.mono ?_
        rintro e wc ⟨u, rfl, hu, bq⟩
        have hbwc := hbwb.trans (bq.mono hbwb.size)
        have hxwc := hxwb.below bq hxwb.lt
        refine hK _ _ hbwc ?_
        clear hK K hu hcw bq
        simp only [dval, List.length_nil]
        try simp only [Act.put, List.setIfInBounds_toArray, List.set_cons_zero, List.set_cons_succ]
        iterate 3 (
          refine wpI_read (v := ?_) hbwc rfl (by kernel_rfl) (by kernel_rfl) (by kernel_rfl) (fun _ _ _ h => h) (.inl ⟨by rfl, ?_⟩) ?_
          rotate_left
          · intro X hX
            clear hX
            go_simp
            with_reducible rfl
          try simp only [Act.put, List.setIfInBounds_toArray, List.set_cons_zero, List.set_cons_succ])
        refine wpI_lone rfl (by kernel_rfl) (fun K hK => ?_)
        have d0 := hxwc.cell 0
        have d1 := hxwc.cell 1
        have hfz := fun i => hxwc.frozen i
        go_simp
        have hbwd := (hbwc.setCell (p := ⟨g, 0, none⟩) hgl (.slice u.ba 0 u.bc)).setCell (p := ⟨g, 1, none⟩) hgl (.slice u.wa 0 u.wc)
        obtain ⟨wd, hnwd⟩ : ∃ wd, ((wc.setCell ⟨g, 0, none⟩ (.slice u.ba 0 u.bc)).setCell ⟨g, 1, none⟩ (.slice u.wa 0 u.wc)) = wd := ⟨_, rfl⟩
        rw [hnwd] at hbwd ⊢
        refine hK _ _ hbwd ?_
        clear hK K d0 d1 hfz hnwd hxwc
        try simp only [Act.put, List.setIfInBounds_toArray, List.set_cons_zero, List.set_cons_succ]
        iterate 1 (
          refine wpI_read (v := ?_) hbwd rfl (by kernel_rfl) (by kernel_rfl) (by kernel_rfl) (fun _ _ _ h => h) (.inl ⟨by rfl, ?_⟩) ?_
          rotate_left
          · intro X hX
            clear hX
            go_simp
            with_reducible rfl
          try simp only [Act.put, List.setIfInBounds_toArray, List.set_cons_zero, List.set_cons_succ])
        refine wpI_done (by kernel_rfl) ?_
        go_wp2_with fail
        go_meet
        exact ⟨⟨_, rfl⟩, rfl, HBd.out.trans (hbwd.mono HBd.out.size)⟩
    · go_simp
      have bq := alloc_b wd (.cells #[.slice none 0 0, .slice none 0 0] 25)
      have hxwa := Blk.new wd 25 #[.slice none 0 0, .slice none 0 0]
      obtain ⟨wa, hnwa⟩ : ∃ wa, wd.alloc (.cells #[.slice none 0 0, .slice none 0 0] 25) = wa := ⟨_, rfl⟩
      obtain ⟨g, hg⟩ : ∃ g, wd.heap.size = g := ⟨_, rfl⟩
      have hgl : wd.heap.size ≤ g := by rw [← hg]; exact hbwd.size
      rw [hnwa] at bq hxwa ⊢
      rw [hg] at hxwa ⊢
      have hbwa := hbwd.trans (bq.mono hbwd.size)
      refine hK _ _ hbwa ?_
      clear hK K bq hnwa hg
      try simp only [Act.put, List.setIfInBounds_toArray, List.set_cons_zero, List.set_cons_succ]
      refine wpI_lone rfl (by kernel_rfl) (fun K hK => ?_)
      go_simp
      refine (HO7.out wa).mono ?_
      rintro e wb ⟨vo, rfl, ho, bq⟩
      obtain ⟨go, co, rfl⟩ := own_pos ho (by omega)
      have hbwb := hbwa.trans (bq.mono hbwa.size)
      have hxwb := hxwa.below bq hxwa.lt
      refine hK _ _ hbwb ?_
      clear hK K
      have hswb := own_bsl ho
      clear ho bq
      try simp only [Act.put, List.setIfInBounds_toArray, List.set_cons_zero, List.set_cons_succ]
      have hsl := fun X => from_one X go co hswb.2.1
      iterate 1 (
        refine wpI_read (v := ?_) hbwb rfl (by kernel_rfl) (by kernel_rfl) (by kernel_rfl) (fun _ _ _ h => h) (.inl ⟨by rfl, ?_⟩) ?_
        rotate_left
        · intro X hX
          have hX0 := hsl X
          clear hX
          go_simp
          with_reducible rfl
        try simp only [Act.put, List.setIfInBounds_toArray, List.set_cons_zero, List.set_cons_succ])
      clear hsl
      have hqwb := hswb.win 1 255 (by omega)
      rw [Nat.zero_add] at hqwb
      clear hswb
      have hswb := hqwb
      clear hqwb
      refine wpI_lone rfl (by kernel_rfl) (fun K hK => ?_)
      have hcw := HW3.out x3 (some ⟨go, 1, none⟩) (co - 1) _ wb (HLD.out.dsk.step hbwb) hswb
      go_simp
      refine hcw.mono ?_
      rintro e wc ⟨u, rfl, hu, bq⟩
      have hbwc := hbwb.trans (bq.mono hbwb.size)
      have hxwc := hxwb.below bq hxwb.lt
      refine hK _ _ hbwc ?_
      clear hK K hu hcw bq
      simp only [dval, List.length_nil]
      try simp only [Act.put, List.setIfInBounds_toArray, List.set_cons_zero, List.set_cons_succ]
      iterate 3 (
        refine wpI_read (v := ?_) hbwc rfl (by kernel_rfl) (by kernel_rfl) (by kernel_rfl) (fun _ _ _ h => h) (.inl ⟨by rfl, ?_⟩) ?_
        rotate_left
        · intro X hX
          clear hX
          go_simp
          with_reducible rfl
        try simp only [Act.put, List.setIfInBounds_toArray, List.set_cons_zero, List.set_cons_succ])
      refine wpI_lone rfl (by kernel_rfl) (fun K hK => ?_)
      have d0 := hxwc.cell 0
      have d1 := hxwc.cell 1
      have hfz := fun i => hxwc.frozen i
      go_simp
      have hbwd := (hbwc.setCell (p := ⟨g, 0, none⟩) hgl (.slice u.ba 0 u.bc)).setCell (p := ⟨g, 1, none⟩) hgl (.slice u.wa 0 u.wc)
      obtain ⟨wd, hnwd⟩ : ∃ wd, ((wc.setCell ⟨g, 0, none⟩ (.slice u.ba 0 u.bc)).setCell ⟨g, 1, none⟩ (.slice u.wa 0 u.wc)) = wd := ⟨_, rfl⟩
      rw [hnwd] at hbwd ⊢
      refine hK _ _ hbwd ?_
      clear hK K d0 d1 hfz hnwd hxwc
      try simp only [Act.put, List.setIfInBounds_toArray, List.set_cons_zero, List.set_cons_succ]
      iterate 1 (
        refine wpI_read (v := ?_) hbwd rfl (by kernel_rfl) (by kernel_rfl) (by kernel_rfl) (fun _ _ _ h => h) (.inl ⟨by rfl, ?_⟩) ?_
        rotate_left
        · intro X hX
          clear hX
          go_simp
          with_reducible rfl
        try simp only [Act.put, List.setIfInBounds_toArray, List.set_cons_zero, List.set_cons_succ])
      refine wpI_done (by kernel_rfl) ?_
      go_wp2_with fail
      go_meet
      exact ⟨⟨_, rfl⟩, rfl, HBd.out.trans (hbwd.mono HBd.out.size)⟩
  obtain ⟨⟨g15, rfl⟩, rfl, hb⟩ := hcut
  have HX14 := Lib.hid (HXc.out.step hb)
  have HY14 := Lib.hid (HYc.out.step hb)
  have HB14 := Lib.hid (HLA.out.step hb).bel
  obtain ⟨wf, hwf⟩ : ∃ wf, wc = wf := ⟨_, rfl⟩
  rw [hwf] at HX14 HY14 HB14 ⊢
  clear hb HLA HXc HYc hwf
  go_wp2_with fail
  obtain ⟨wd, hwd⟩ : ∃ wd, wf.drew = wd := ⟨_, rfl⟩
  have bd : Below wf.heap.size wf wd := by rw [← hwd]; exact (Below.refl _ _).drew
  have hys := HY14.out.step bd
  have hxs := HX14.out.step bd
  have HB15 := Lib.hid (HB14.out.trans (bd.mono HB14.out.size))
  have y2 := hys.cellD 2 (by omega)
  have y3 := hys.cellD 3 (by omega)
  rw [HY.out.1, Nat.zero_add] at y2
  rw [HY.out.2.1, Nat.zero_add] at y3
  have C2 := fun X (hX : Below wd.heap.size wd X) => (hX.cell (p := ⟨yb, 2, none⟩) (World.block_lt_of_cell? wd _ y2)).trans y2
  have C3 := fun X (hX : Below wd.heap.size wd X) => (hX.cell (p := ⟨yb, 3, none⟩) (World.block_lt_of_cell? wd _ y3)).trans y3
  have V0 := fun X (hX : Below wd.heap.size wd X) => (hxs.below hX).conv
  have hS : Below wd.heap.size wd wd := Below.refl _ _
  clear bd hys hxs y2 y3 HX14 HY14 HB14
  refine wpS_start [0, 1, 2, 3, 4, 5, 6, 7, 8, 9, 10, 11, 12, 13, 14, 15, 16, 17, 18, 19, 20, 21, 22, 23, 24, 25, 26, 27, 28, 29, 30, 31, 32, 33, 34, 35, 36, 37, 38, 39] hmx rfl hwd ?_
  clear hwd
  iterate 1 (
    refine wpS_read (v := ?_) rfl (by kernel_rfl) (by kernel_rfl) (by kernel_rfl) (fun _ _ _ h => h) (.inl ⟨by rfl, ?_⟩) ?_
    rotate_left
    · intro X hX
      clear hX
      go_simp
      with_reducible rfl
    try simp only [Act.put, List.setIfInBounds_toArray, List.set_cons_zero, List.set_cons_succ])
  refine wpS_lone rfl (by kernel_rfl) (fun K hK => ?_)
  go_simp
  refine (alive_any wd).mono ?_
  rintro e wa ⟨rfl, ba⟩
  refine hK _ _ (Stays.of_below ba) ?_
  clear hK K hS
  have hS : Below wd.heap.size wd wa := ba
  try simp only [Act.put, List.setIfInBounds_toArray, List.set_cons_zero, List.set_cons_succ]
  iterate 4 (
    refine wpS_read (v := ?_) rfl (by kernel_rfl) (by kernel_rfl) (by kernel_rfl) (fun _ _ _ h => h) (.inl ⟨by rfl, ?_⟩) ?_
    rotate_left
    · intro X hX
      have hX0 := V0 X (hX _ hS)
      clear hX
      go_simp
      with_reducible rfl
    try simp only [Act.put, List.setIfInBounds_toArray, List.set_cons_zero, List.set_cons_succ])
  refine wpS_lone rfl (by kernel_rfl) (fun K hK => ?_)
  go_simp
  refine (HO7.out wa).mono ?_
  rintro e wb ⟨vo, rfl, ho, bb⟩
  obtain ⟨go, co, rfl⟩ := own_pos ho (by omega)
  have hbs := own_bsl ho
  have V1 := fun X (hX : Below wb.heap.size wb X) => (hbs.below hX).conv
  refine hK _ _ (Stays.of_below bb) ?_
  clear hK K
  have hS2 : Below wd.heap.size wd wb := hS.trans (bb.mono hS.size)
  clear hS ba bb ho hbs
  have hS := hS2
  have hSb : Below wb.heap.size wb wb := Below.refl _ _
  try simp only [Act.put, List.setIfInBounds_toArray, List.set_cons_zero, List.set_cons_succ]
  iterate 1 (
    refine wpS_read (v := ?_) rfl (by kernel_rfl) (by kernel_rfl) (by kernel_rfl) (fun _ _ _ h => h) (.inl ⟨by rfl, ?_⟩) ?_
    rotate_left
    · intro X hX
      have hXv := V1 X (hX _ hSb)
      clear hX
      go_simp
      with_reducible rfl
    try simp only [Act.put, List.setIfInBounds_toArray, List.set_cons_zero, List.set_cons_succ])
  iterate 28 (
    refine wpS_read (v := ?_) rfl (by kernel_rfl) (by kernel_rfl) (by kernel_rfl) (fun _ _ _ h => h) (.inl ⟨by rfl, ?_⟩) ?_
    rotate_left
    · intro X hX
      have hX0 := C2 X (hX _ hS)
      have hX1 := C3 X (hX _ hS)
      clear hX
      go_simp
      with_reducible rfl
    try simp only [Act.put, List.setIfInBounds_toArray, List.set_cons_zero, List.set_cons_succ])
  refine wpS_lone rfl (by kernel_rfl) (fun K hK => ?_)
  go_simp
  refine (HCK.out wb).mono ?_
  rintro e wz ⟨rfl, bz⟩
  refine hK _ _ (Stays.of_below bz) ?_
  clear hK K
  have HZ := Lib.hid (HB15.out.trans ((hS.trans (bz.mono hS.size)).mono HB15.out.size))
  clear bz
  try simp only [Act.put, List.setIfInBounds_toArray, List.set_cons_zero, List.set_cons_succ]
  iterate 3 (
    refine wpS_read (v := ?_) rfl (by kernel_rfl) (by kernel_rfl) (by kernel_rfl) (fun _ _ _ h => h) (.inl ⟨by rfl, ?_⟩) ?_
    rotate_left
    · intro X hX
      clear hX
      go_simp
      with_reducible rfl
    try simp only [Act.put, List.setIfInBounds_toArray, List.set_cons_zero, List.set_cons_succ])
  refine wpS_done (by kernel_rfl) ?_
  go_wp2_with fail
  go_ret
  exact ⟨rfl, HZ.out⟩
end Go.Proofs.Ytgpojnhhcobcbaa
namespace Go.Proofs.Ytgpojnhhcobcbaa.devNames
open Go.ChangeShapes Go.WideShapes Go.ChangeAt Go.RowKit
set_option linter.unusedVariables false

theorem own : ownKnob Try.prog.godebug = none := by kernel_rfl
theorem laidOut : laidOutB Try.prog = true := by kernel_rfl

set_option maxRecDepth 100000 in
theorem lifted (os : Os) (started : os.Started) (H : Type) (enc : TypeId × Value → H) :
    ReturnsInHanded {} Try.checked os 3 .any (Rows.devNamesSpec.pre6 enc Try.prog Try.f3 Rows.devNamesRow.domain false) (Rows.devNamesSpec.post enc Try.prog Try.f3 false true false false) := by
  refine returnsInHanded_of_change (C := Try.checked) own started (by kernel_rfl) Try.func3
    (ChangeSpec.witness6 (enc := enc) (C := Try.checked) false ⟨#[], #[], []⟩ 8 (by kernel_rfl) (by kernel_rfl) (by kernel_rfl) (by kernel_rfl)) ?_
  intro W base args ds gs before hval0 hW hcnd _
  have hval : ∀ (j : Nat) t v, Try.f3.params[j]? = some t → args[j]? = some v → Value.okWide Try.prog W .any base t v := hval0
  have hW' := hW
  obtain ⟨p, q, hA0, hV, rfl, hfz, hnd⟩ := hW
  have hA : DataW.TrodAll enc Try.prog W 0 (fun _ => true) true Try.f3.params.toList args.toList ds p := hA0
  rw [Try.params3] at hA hval
  obtain ⟨rfl, rfl, rfl⟩ := trodAll_none hA
  obtain ⟨rfl, rfl⟩ := trodVars_none hV
  clear hA0 hval0
  refine (devNames_walk  W).mono fun e W' ⟨he, bel⟩ => ?_
  subst he
  exact ⟨_, rfl, _, _, _, [], _, [], hW', trodAll_mk1 (shut_bool Try.underlying4 _), rfl, rfl, bel.frame _, fun h => by cases h⟩

theorem over : Rows.devNamesRow.holds Try.pinned (OpenSpec.ofChange Rows.devNamesSpec) :=
  OpenClaim.holds_of_wide 3 Try.f3 rfl rfl rfl rfl rfl rfl rfl ⟨rfl, rfl, rfl, rfl, rfl⟩ rfl rfl rfl rfl rfl (by kernel_rfl) Try.func3 (by kernel_rfl)
    (of_decide_eq_true (by kernel_rfl)) (by unfold Func.isWrapper; first | (rw [if_pos (by decide +kernel)]; kernel_rfl) | (rw [if_neg (by decide +kernel)]; exact ⟨rfl, rfl⟩))
    (fun os started H enc _ => lifted os started H enc)

/-- The statement. -/
theorem proved : Rows.DevNamesSaid := over
end Go.Proofs.Ytgpojnhhcobcbaa.devNames
