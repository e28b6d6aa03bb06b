/-
  DevMarkSaid: for any disk, marks, and which of them (of a disk that is great, or more than 5,000 marks, or a number that is no mark's, the law itself answers what its example answers) one mark more turns one block at most: that of its write, and to what that one had, or not at all. No condition.
-/
import Derived.Test.YtgpojnhhcobcbaaRows
import Derived.Test.YtgpojnhhcobcbaaDiskOpen
import Derived.Test.YtgpojnhhcobcbaaDevMarks
namespace Go.Proofs.Ytgpojnhhcobcbaa
open Go.RowKit Go.Shelf
set_option maxRecDepth 100000

theorem crash_no {D : DkL} {ks : List Bool} (h : ¬ (MayD D ∧ ks.length = D.2.length)) : crashO D ks = (([], []), if MayD D then 2 else 8) := by
  unfold crashO
  by_cases hm : MayD D
  · rw [if_pos hm, if_pos hm, if_neg (fun hl => h ⟨hm, hl⟩)]
  · rw [if_neg hm, if_neg hm]
set_option maxHeartbeats 8000000 in
theorem devMark_walk (x : DAt) (D : DkL) (a : Option Addr) (n c : Nat) (s : List Bool) (p : Int) (w : World) (h : Dsk w w.heap.size x D) (hnear : Near D) (hs : Mks w w.heap.size a n c s) (_hp : (Lit.int .i64 p).wf = true) :
    Calls Try.prog 8 #[dval x D, .slice a n c, .int .i64 p] w fun e w' => e = .returned (.bool true) ∧ Below w.heap.size w w' := by
  have hmx : Try.prog.follows Departure.mixedOrders = true := by kernel_rfl
  have hsl := hs.1
  have n0 : (0 : Int) ≤ n := by omega
  have n1 := hs.len_le
  have hL0 := lawL_box w x D h
  have hs0 := hs.step (alloc_b w (.cells #[.slice x.ba D.1.length x.bc, .slice x.wa D.2.length x.wc] 25))
  obtain ⟨w0, hw0⟩ : ∃ w0, w.alloc (.cells #[.slice x.ba D.1.length x.bc, .slice x.wa D.2.length x.wc] 25) = w0 := ⟨_, rfl⟩
  rw [hw0] at hL0 hs0
  obtain ⟨B, hB⟩ : ∃ B, w.heap.size = B := ⟨_, rfl⟩
  rw [hB] at hL0 ⊢
  have HL := Lib.hid hL0
  have HS := Lib.hid hs0
  have HBB := Lib.hid hB
  have HA := Lib.hid (alive_any w0)
  have HNR := Lib.hid hnear
  simp only [dval]
  clear h hs hL0 hs0 hnear
  go_enter Try.func8, Try.ntmps8
  go_wp2_with fail
  clear hw0 hB
  refine HA.out.mono ?_
  rintro e w1 ⟨rfl, b1⟩
  have HL1 := Lib.hid (HL.out.step b1)
  have HS1 := Lib.hid (HS.out.step b1)
  have HG := Lib.hid (rdGreat_any x D w1 HL1.out.dsk HNR.out)
  have c0 := HL1.out.c0
  have c1 := HL1.out.c1
  simp only [dval] at HG
  clear b1 HL HS HA
  go_wp2_with fail
  clear c0 c1
  refine HG.out.mono ?_
  rintro e w2 ⟨b, rfl, hsm, b2⟩
  have HL2 := Lib.hid (HL1.out.step b2)
  have HS2 := Lib.hid (HS1.out.step b2)
  clear b2 HL1 HS1 HG
  cases b with
  | true =>
    go_wp2_with fail
    go_ret
    exact ⟨rfl, by rw [← HBB.out]; exact HL2.out.bel⟩
  | false =>
    clear hsm
    by_cases hk5 : (5000 : Int) < n
    · go_wp2_with fail
      go_ret
      exact ⟨rfl, by rw [← HBB.out]; exact HL2.out.bel⟩
    · by_cases hp0 : p < 0
      · go_wp2_with fail
        go_ret
        exact ⟨rfl, by rw [← HBB.out]; exact HL2.out.bel⟩
      · by_cases hpn : (n : Int) ≤ p
        · go_wp2_with fail
          go_ret
          exact ⟨rfl, by rw [← HBB.out]; exact HL2.out.bel⟩
        · obtain ⟨r, rfl⟩ := Int.eq_ofNat_of_zero_le (show 0 ≤ p by omega)
          have hr : r < n := by omega
          have r0 : (0 : Int) ≤ r := by omega
          have r1 : (r : Int) < n := by omega
          go_wp2_with (at_builtin
                       refine wpList_append_marks rfl (.const (.slice none 0 0)) (.tmp 39) rfl rfl _ a n c s rfl HS2.out (by omega) (by omega) ?_
                       intro g c' w3 ho3 b3
                       have hcell := own_cell ho3 r hr
                       have hgl : w2.heap.size ≤ g := (own_lt ho3).1
                       obtain ⟨cs, hbk⟩ := own_blk ho3
                       have hfz := hbk.frozen r
                       have b34 : Below w2.heap.size w2 (w3.setCell ⟨g, r, none⟩ (.bool true)) := b3.setCell (p := ⟨g, r, none⟩) hgl _
                       have hmk := own_marks (own_set_mark (q := r) ho3 true)
                       obtain ⟨w4, hw4⟩ : ∃ w4, w3.setCell ⟨g, r, none⟩ (.bool true) = w4 := ⟨_, rfl⟩
                       rw [hw4] at b34 hmk
                       have hL4 := HL2.out.step b34
                       have HL4 := Lib.hid hL4
                       have HS4 := Lib.hid (HS2.out.step b34)
                       have HM4 := Lib.hid hmk
                       have c0 := hL4.c0
                       have c1 := hL4.c1
                       have HC1 := Lib.hid (dCrash_any x D a n c s w4 hL4.dsk HS4.out)
                       simp only [dval] at HC1
                       clear hgl hbk b34 hmk hL4 b3 ho3)
          clear hw4 hcell hfz c0 c1
          obtain ⟨K, ke, hko⟩ : ∃ K e, crashO D s = (K, e) := ⟨_, _, rfl⟩
          obtain ⟨M, me, hmo⟩ : ∃ K e, crashO D (s.set r true) = (K, e) := ⟨_, _, rfl⟩
          rw [hko] at HC1
          refine HC1.out.mono ?_
          rintro e w5 ⟨u, rfl, hu, b5⟩
          have hL5 := HL4.out.step b5
          have hU := hL5.put hu.dsk
          have ba := alloc_b w5 (.cells #[.slice u.ba K.1.length u.bc, .slice u.wa K.2.length u.wc] 25)
          have hL6 := hL5.step ba
          have hM6 := (HM4.out.step b5).step ba
          obtain ⟨w6, hw6⟩ : ∃ w6, w5.alloc (.cells #[.slice u.ba K.1.length u.bc, .slice u.wa K.2.length u.wc] 25) = w6 := ⟨_, rfl⟩
          obtain ⟨gu, hgu⟩ : ∃ g, w5.heap.size = g := ⟨_, rfl⟩
          rw [hw6] at hU hL6 hM6
          rw [hgu] at hU
          have HL6 := Lib.hid hL6
          have HU6 := Lib.hid hU
          have HC2 := Lib.hid (dCrash_any x D (some ⟨g, 0, none⟩) n c' (s.set r true) w6 hL6.dsk hM6)
          rw [hmo] at HC2
          have c0 := hL6.c0
          have c1 := hL6.c1
          simp only [dval] at HC2 ⊢
          clear b5 hu hL5 hU ba hL6 hM6 HL4 HS4 HM4 HC1
          go_wp2_with fail
          clear hw6 hgu c0 c1
          refine HC2.out.mono ?_
          rintro e w7 ⟨v, rfl, hv, b7⟩
          have hL7 := HL6.out.step b7
          have hV := hL7.put hv.dsk
          have ba := alloc_b w7 (.cells #[.slice v.ba M.1.length v.bc, .slice v.wa M.2.length v.wc] 25)
          have hL8 := hL7.step ba
          have hU8 := (HU6.out.step b7).step ba
          obtain ⟨w8, hw8⟩ : ∃ w8, w7.alloc (.cells #[.slice v.ba M.1.length v.bc, .slice v.wa M.2.length v.wc] 25) = w8 := ⟨_, rfl⟩
          obtain ⟨gv, hgv⟩ : ∃ g, w7.heap.size = g := ⟨_, rfl⟩
          rw [hw8] at hV hL8 hU8
          rw [hgv] at hV
          have HL8 := Lib.hid hL8
          have HU8 := Lib.hid hU8
          have HV8 := Lib.hid hV
          simp only [dval]
          clear b7 hv hL7 hV ba hL8 hU8 HL6 HU6 HC2
          by_cases hok : MayD D ∧ s.length = D.2.length
          · obtain ⟨hm, hlk⟩ := hok
            have hrs : r < s.length := by omega
            have hl2 : (s.set r true).length = D.2.length := by rw [List.length_set]; exact hlk
            rw [crash_ok hm hlk] at hko
            rw [crash_ok hm hl2] at hmo
            obtain ⟨hK, rfl⟩ := Prod.mk.inj hko
            obtain ⟨hM, rfl⟩ := Prod.mk.inj hmo
            have hK1 : K.1.length = 256 := by rw [← hK]; exact keptD_length _ _
            have hM1 : M.1.length = 256 := by rw [← hM]; exact keptD_length _ _
            have hK2 : K.2.length = 0 := by rw [← hK]; rfl
            have hM2 : M.2.length = 0 := by rw [← hM]; rfl
            have hmore : ∀ j, j < 256 → K.1.getD j [] = M.1.getD j [] ∨ ((wr_ D.2 r).1 = (j : Int) ∧ M.1.getD j [] = (wr_ D.2 r).2) := fun j hj => by
              rw [← hK, ← hM, keptD_get _ _ _ hj, keptD_get _ _ _ hj]
              exact mark_more hrs j
            obtain ⟨b, off, pw, A, l, cw, t, hbe, _, ht, hpw, hca, hcd, hA⟩ := HL8.out.dsk.2.at_ (show r < D.2.length by omega)
            rw [ht] at hmore
            have hal := HL8.out.step (alloc_b w8 (.cells #[.int .i64 pw, .slice A l cw] 55))
            have hau := HU8.out.step (alloc_b w8 (.cells #[.int .i64 pw, .slice A l cw] 55))
            have hav := HV8.out.step (alloc_b w8 (.cells #[.int .i64 pw, .slice A l cw] 55))
            have haA := hA.step (alloc_b w8 (.cells #[.int .i64 pw, .slice A l cw] 55))
            have hwx := Blk.new w8 55 #[.int .i64 pw, .slice A l cw]
            obtain ⟨w9, hw9⟩ : ∃ w9, w8.alloc (.cells #[.int .i64 pw, .slice A l cw] 55) = w9 := ⟨_, rfl⟩
            obtain ⟨gw, hgw⟩ : ∃ g, w8.heap.size = g := ⟨_, rfl⟩
            rw [hw9] at hal hau hav haA hwx
            rw [hgw] at hwx
            have HB9 := Lib.hid hal.bel
            have HU9 := Lib.hid hau
            have HV9 := Lib.hid hav
            have HA9 := Lib.hid haA
            have HW9 := Lib.hid hwx
            have HMO := Lib.hid hmore
            have c1 := HL8.out.c1
            have hr2 : (r : Int) < D.2.length := by omega
            obtain ⟨ba, bc, wa, wc⟩ := x
            obtain rfl : wa = some ⟨b, off, none⟩ := hbe
            simp only at c1 ⊢
            simp only [hK1, hK2, hM1, hM2] at hw8 ⊢
            have HK1 := Lib.hid (And.intro hK1 hM1)
            clear hal hau hav haA hwx hmore ht hA hK hM hK1 hM1 hK2 hM2 hko hmo hm hlk hrs hl2 HU8 HV8 HL8
            go_wp2_with fail
            clear hw8 hgv hw9 hgw hca hcd c1
            go_loopw [14] (fun i wr => ∃ j : Nat, j ≤ 256 ∧ i = .int .i64 j ∧ Hid (LawL w (gu + 1) gu u K wr) ∧ Hid (LawL w (gv + 1) gv v M wr) ∧ Hid (Blk wr gw 55 #[.int .i64 pw, .slice A l cw]) ∧ Hid (Bsl wr wr.heap.size A l cw t) ∧ Hid (Below w.heap.size w wr)) (fun i _ => 256 - (intOf i).toNat)
            case atStart => exact ⟨0, Nat.zero_le _, rfl, HU9, HV9, HW9, HA9, HB9⟩
            case round =>
              obtain ⟨j, hj, rfl, HUr, HVr, HWr, HAr, HBr⟩ := hrel
              clear HU9 HV9 HW9 HA9 HB9
              have j0 : (0 : Int) ≤ j := by omega
              by_cases hlt : j < 256
              · have j1 : (j : Int) < 256 := by omega
                obtain ⟨wd, hwd⟩ : ∃ wd, wr.drew = wd := ⟨_, rfl⟩
                obtain ⟨we, hwe⟩ : ∃ we, wd.drew = we := ⟨_, rfl⟩
                have bd : Below wr.heap.size wr wd := by rw [← hwd]; exact (Below.refl _ wr).drew
                have be : Below wr.heap.size wr we := by rw [← hwe]; exact bd.drew
                have hu := HUr.out.step bd
                have hv := HVr.out.step bd
                obtain ⟨b1, o1, A1, l1, c1, s1, h1e, _, h1t, h1c, h1A⟩ := hu.dsk.1.at_ (show j < K.1.length by rw [HK1.out.1]; exact hlt)
                obtain ⟨b2, o2, A2, l2, c2, s2, h2e, _, h2t, h2c, h2A⟩ := hv.dsk.1.at_ (show j < M.1.length by rw [HK1.out.2]; exact hlt)
                have hmj := HMO.out j hlt
                rw [h1t, h2t] at hmj
                have U0 := hu.c0
                have V0 := hv.c0
                rw [HK1.out.1] at U0
                rw [HK1.out.2] at V0
                obtain ⟨ua, ub, uc, ud⟩ := u
                obtain ⟨va, vb, vc, vd⟩ := v
                obtain rfl : ua = some ⟨b1, o1, none⟩ := h1e
                obtain rfl : va = some ⟨b2, o2, none⟩ := h2e
                simp only at U0 V0
                have hww := HWr.out.below bd HWr.out.lt
                have W0 := hww.cell 0
                have W1 := hww.cell 1
                have hbt := HAr.out.step bd
                have C0 := fun X (hX : Below wd.heap.size wd X) => (hX.cell (p := ⟨gu, 0, none⟩) (World.block_lt_of_cell? wd _ U0)).trans U0
                have C1 := fun X (hX : Below wd.heap.size wd X) => (hX.cell (p := ⟨gv, 0, none⟩) (World.block_lt_of_cell? wd _ V0)).trans V0
                have C2 := fun X (hX : Below wd.heap.size wd X) => (hX.cell (p := ⟨b1, o1 + j, none⟩) (World.block_lt_of_cell? wd _ h1c)).trans h1c
                have C3 := fun X (hX : Below wd.heap.size wd X) => (hX.cell (p := ⟨b2, o2 + j, none⟩) (World.block_lt_of_cell? wd _ h2c)).trans h2c
                have C4 := fun X (hX : Below wd.heap.size wd X) => (hX.cell (p := ⟨gw, 0, none⟩) (World.block_lt_of_cell? wd _ W0)).trans W0
                have C5 := fun X (hX : Below wd.heap.size wd X) => (hX.cell (p := ⟨gw, 1, none⟩) (World.block_lt_of_cell? wd _ W1)).trans W1
                have Z0 := fun X (hX : Below wd.heap.size wd X) => (h1A.below hX).conv
                have Z1 := fun X (hX : Below wd.heap.size wd X) => (h2A.below hX).conv
                have Z2 := fun X (hX : Below wd.heap.size wd X) => (hbt.below hX).conv
                have hSS : Below wd.heap.size wd wd := Below.refl _ _
                have hSe : Below wd.heap.size wd we := by rw [← hwe]; exact (Below.refl _ wd).drew
                have HUe := Lib.hid (HUr.out.step be)
                have HVe := Lib.hid (HVr.out.step be)
                have HWe := Lib.hid (HWr.out.below be HWr.out.lt)
                have HAe := Lib.hid (HAr.out.step be)
                have HBe := Lib.hid (HBr.out.trans (be.mono HBr.out.size))
                have hst := str_same s1 s2
                clear bd be hu hv h1t h2t h1c h2c h1A h2A U0 V0 hww W0 W1 hbt HUr HVr HWr HAr HBr
                by_cases hss : s1 = s2
                · subst hss
                  clear hmj hst
                  go_wp2_with fail
                  refine wpS_start [0, 1, 2, 3, 4, 5, 6, 7, 8, 9, 10, 11, 12, 13] hmx rfl hwd ?_
                  clear hwd
                  iterate 14 (
                    refine wpS_read (v := ?_) rfl (by kernel_rfl) (by kernel_rfl) (by kernel_rfl) (fun _ _ _ h => h) (.inl ⟨by rfl, ?_⟩) ?_
                    rotate_left
                    · intro X hX
                      have hX0 := C0 X (hX _ hSS)
                      have hX1 := C1 X (hX _ hSS)
                      have hX2 := C2 X (hX _ hSS)
                      have hX3 := C3 X (hX _ hSS)
                      have hX4 := Z0 X (hX _ hSS)
                      have hX5 := Z1 X (hX _ hSS)
                      clear hX
                      go_simp
                      with_reducible rfl
                    try simp only [Act.put, List.setIfInBounds_toArray, List.set_cons_zero, List.set_cons_succ])
                  refine wpS_done (by kernel_rfl) ?_
                  go_wp2_with fail
                  refine wpS_start [0, 1, 2, 3, 4, 5, 6, 7, 8, 9, 10, 11, 12, 13, 14, 15, 16, 17, 18, 19] hmx rfl hwe ?_
                  clear hwe
                  iterate 3 (
                    refine wpS_read (v := ?_) rfl (by kernel_rfl) (by kernel_rfl) (by kernel_rfl) (fun _ _ _ h => h) (.inl ⟨by rfl, ?_⟩) ?_
                    rotate_left
                    · intro X hX
                      clear hX
                      go_simp
                      with_reducible rfl
                    try simp only [Act.put, List.setIfInBounds_toArray, List.set_cons_zero, List.set_cons_succ])
                  iterate 16 (
                    refine wpS_read (v := undef) rfl (by kernel_rfl) (by kernel_rfl) (by kernel_rfl) (fun _ _ _ h => h) (.inr ⟨by rfl, rfl⟩) ?_
                    try simp only [Act.put, List.setIfInBounds_toArray, List.set_cons_zero, List.set_cons_succ])
                  refine wpS_read (v := ?_) rfl (by kernel_rfl) (by kernel_rfl) (by kernel_rfl) (fun _ _ _ h => h) (.inl ⟨by rfl, ?_⟩) ?_
                  rotate_left
                  · intro X hX
                    clear hX
                    go_simp
                    with_reducible rfl
                  try simp only [Act.put, List.setIfInBounds_toArray, List.set_cons_zero, List.set_cons_succ]
                  refine wpS_done (by kernel_rfl) ?_
                  go_wp2_with fail
                  go_roundw
                  case rel => exact ⟨j + 1, by omega, by go_num, HUe, HVe, HWe, HAe, HBe⟩
                  case measure => simp [intOf]; omega
                · obtain ⟨rfl, rfl⟩ := hmj.resolve_left hss
                  rw [decide_eq_false hss] at hst
                  clear hmj
                  go_wp2_with fail
                  refine wpS_start [0, 1, 2, 3, 4, 5, 6, 7, 8, 9, 10, 11, 12, 13] hmx rfl hwd ?_
                  clear hwd
                  iterate 14 (
                    refine wpS_read (v := ?_) rfl (by kernel_rfl) (by kernel_rfl) (by kernel_rfl) (fun _ _ _ h => h) (.inl ⟨by rfl, ?_⟩) ?_
                    rotate_left
                    · intro X hX
                      have hX0 := C0 X (hX _ hSS)
                      have hX1 := C1 X (hX _ hSS)
                      have hX2 := C2 X (hX _ hSS)
                      have hX3 := C3 X (hX _ hSS)
                      have hX4 := Z0 X (hX _ hSS)
                      have hX5 := Z1 X (hX _ hSS)
                      clear hX
                      go_simp
                      with_reducible rfl
                    try simp only [Act.put, List.setIfInBounds_toArray, List.set_cons_zero, List.set_cons_succ])
                  refine wpS_done (by kernel_rfl) ?_
                  go_wp2_with fail
                  refine wpS_start [0, 1, 2, 3, 4, 5, 6, 7, 8, 9, 10, 11, 12, 13, 14, 15, 16, 17, 18, 19] hmx rfl hwe ?_
                  clear hwe
                  iterate 20 (
                    refine wpS_read (v := ?_) rfl (by kernel_rfl) (by kernel_rfl) (by kernel_rfl) (fun _ _ _ h => h) (.inl ⟨by rfl, ?_⟩) ?_
                    rotate_left
                    · intro X hX
                      have hX1 := C1 X (hX _ hSe)
                      have hX3 := C3 X (hX _ hSe)
                      have hX4 := C4 X (hX _ hSe)
                      have hX5 := C5 X (hX _ hSe)
                      have hXa := Z1 X (hX _ hSe)
                      have hXb := Z2 X (hX _ hSe)
                      clear hX
                      go_simp
                      with_reducible rfl
                    try simp only [Act.put, List.setIfInBounds_toArray, List.set_cons_zero, List.set_cons_succ])
                  refine wpS_done (by kernel_rfl) ?_
                  go_wp2_with fail
                  go_roundw
                  case rel => exact ⟨j + 1, by omega, by go_num, HUe, HVe, HWe, HAe, HBe⟩
                  case measure => simp [intOf]; omega
              · obtain rfl : j = 256 := by omega
                go_wp2_with fail
                go_ret
                exact ⟨rfl, by rw [← HBB.out]; exact HBr.out⟩
          · have hok' : ¬ (MayD D ∧ (s.set r true).length = D.2.length) := by rw [List.length_set]; exact hok
            have hke := crash_no hok
            have hme := crash_no hok'
            obtain ⟨e, he, hne⟩ : ∃ e : Int, (if MayD D then (2 : Int) else 8) = e ∧ (e = 2 ∨ e = 8) := by
              by_cases hm : MayD D
              · exact ⟨2, if_pos hm, .inl rfl⟩
              · exact ⟨8, if_neg hm, .inr rfl⟩
            rw [he] at hke hme
            rw [hko] at hke
            rw [hmo] at hme
            cases hke
            cases hme
            have HB8 := Lib.hid HL8.out.bel
            clear HL8 HU8 HV8 hko hmo hok hok' he
            simp only [List.length_nil] at hw8 ⊢
            rcases hne with rfl | rfl
            · go_wp2_with fail
              go_ret
              exact ⟨rfl, by rw [← HBB.out]; exact HB8.out⟩
            · go_wp2_with fail
              go_ret
              exact ⟨rfl, by rw [← HBB.out]; exact HB8.out⟩
end Go.Proofs.Ytgpojnhhcobcbaa
namespace Go.Proofs.Ytgpojnhhcobcbaa.devMark
open Go.ChangeShapes Go.WideShapes Go.ChangeAt Go.RowKit
set_option linter.unusedVariables false

theorem own : ownKnob Try.prog.godebug = none := by kernel_rfl
theorem laidOut : laidOutB Try.prog = true := by kernel_rfl

set_option maxRecDepth 100000 in
theorem lifted (os : Os) (started : os.Started) (H : Type) (enc : TypeId × Value → H) :
    ReturnsInHanded {} Try.checked os 8 .any (Rows.devMarkSpec.pre6 enc Try.prog Try.f8 Rows.devMarkRow.domain false) (Rows.devMarkSpec.post enc Try.prog Try.f8 false true false false) := by
  refine returnsInHanded_of_change_sized (C := Try.checked) own started (by kernel_rfl) Try.func8
    (ChangeSpec.witness6 (enc := enc) (C := Try.checked) false ⟨#[], #[.agg #[.slice none 0 0, .slice none 0 0], .slice none 0 0, .int .i64 0], []⟩ 8 (by kernel_rfl) (by kernel_rfl) (by kernel_rfl) (by kernel_rfl)) ?_
  intro W base args ds gs before hval0 hW hcnd hsz _
  have hval : ∀ (j : Nat) t v, Try.f8.params[j]? = some t → args[j]? = some v → Value.okWide Try.prog W .any base t v := hval0
  have hW' := hW
  obtain ⟨p, q, hA0, hV, rfl, hfz, hnd⟩ := hW
  have hA : DataW.TrodAll enc Try.prog W 0 (fun _ => true) true Try.f8.params.toList args.toList ds p := hA0
  rw [Try.params8] at hA hval
  obtain ⟨v0, vs0, d0, ds0, p0, q0, hargs, rfl, rfl, h0, r0⟩ := trodAll_cons hA
  obtain ⟨v1, vs1, d1, ds1, p1, q1, rfl, rfl, rfl, h1, r1⟩ := trodAll_cons r0
  obtain ⟨v2, vs2, d2, ds2, p2, q2, rfl, rfl, rfl, h2, r2⟩ := trodAll_cons r1
  obtain ⟨rfl, rfl, rfl⟩ := trodAll_nil r2
  obtain rfl : args = #[v0, v1, v2] := by cases args; simp_all
  obtain ⟨rfl, rfl⟩ := trodVars_none hV
  have k0 := h0
  have lt0 : ∀ x ∈ p0, x.block < W.heap.size := by obtain ⟨m, hm⟩ := k0; exact DataW.trod_lt m _ _ _ hm
  obtain ⟨x0, D0, rfl, w0, m0⟩ := open_disk (hval 0 25 v0 rfl rfl) h0 (fun n hn => by
    have := List.all_eq_true.1 hsz n (DataW.weights_mem_each (j := 0) (t := 25) (by kernel_rfl) rfl n hn)
    simpa using this)
  obtain ⟨a1, len1, cap1, rfl⟩ := okWide_slice Try.underlying49 (hval 1 49 v1 rfl rfl)
  have k1 := h1
  have lt1 : ∀ x ∈ p1, x.block < W.heap.size := by obtain ⟨m, hm⟩ := k1; exact DataW.trod_lt m _ _ _ hm
  obtain ⟨s1, w1⟩ := open_marks h1
  obtain ⟨a2, rfl, rfl, rfl, w2⟩ := open_int Try.underlying3 (hval 2 3 v2 rfl rfl) h2
  clear hA0 hval0
  refine (devMark_walk x0 D0 a1 len1 cap1 s1 a2 W w0 m0 w1 w2).mono fun e W' ⟨he, bel⟩ => ?_
  subst he
  exact ⟨_, rfl, _, _, _, [], _, [], hW', trodAll_mk1 (shut_bool Try.underlying4 _), (trodAll_cons_mk (Below.trod laidOut (by kernel_rfl) (of_decide_eq_true (by kernel_rfl)) k0 bel lt0) (trodAll_cons_mk (Below.trod laidOut (by kernel_rfl) (of_decide_eq_true (by kernel_rfl)) k1 bel lt1) (trodAll_cons_mk (shut_int Try.underlying3 w2) trodAll_mk0))), rfl, bel.frame _, fun h => by cases h⟩

theorem over : Rows.devMarkRow.holds Try.pinned (OpenSpec.ofChange Rows.devMarkSpec) :=
  OpenClaim.holds_of_wide 8 Try.f8 rfl rfl rfl rfl rfl rfl rfl ⟨rfl, rfl, rfl, rfl, rfl⟩ rfl rfl rfl rfl rfl (by kernel_rfl) Try.func8 (by kernel_rfl)
    (of_decide_eq_true (by kernel_rfl)) (by unfold Func.isWrapper; first | (rw [if_pos (by decide +kernel)]; kernel_rfl) | (rw [if_neg (by decide +kernel)]; exact ⟨rfl, rfl⟩))
    (fun os started H enc _ => lifted os started H enc)

/-- The statement. -/
theorem proved : Rows.DevMarkSaid := over
end Go.Proofs.Ytgpojnhhcobcbaa.devMark
