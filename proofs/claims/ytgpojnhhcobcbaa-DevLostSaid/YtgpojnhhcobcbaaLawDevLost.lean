/-
  DevLostSaid: for any disk and marks (of a disk that is great, or more than 5,000 marks, the law itself answers what its example answers) a crash leaves what a flush does of the disk on which those writes alone wait whose mark is true. No condition.
-/
import Derived.Test.YtgpojnhhcobcbaaRows
import Derived.Test.YtgpojnhhcobcbaaDiskOpen
import Derived.Test.YtgpojnhhcobcbaaDevLess
namespace Go.Proofs.Ytgpojnhhcobcbaa
open Go.RowKit Go.Shelf
set_option maxRecDepth 100000

theorem lost_no {D : DkL} {ks : List Bool} (h : ¬ (MayD D ∧ ks.length = D.2.length)) : crashO D ks = (([], []), if MayD D then 2 else 8) := by
  unfold crashO
  by_cases hm : MayD D
  · rw [if_pos hm, if_pos hm, if_neg (fun hl => h ⟨hm, hl⟩)]
  · rw [if_neg hm, if_neg hm]
set_option maxHeartbeats 8000000 in
theorem devLost_walk (x : DAt) (D : DkL) (a : Option Addr) (n c : Nat) (s : List Bool) (w : World) (h : Dsk w w.heap.size x D) (hnear : Near D) (hs : Mks w w.heap.size a n c s) :
    Calls Try.prog 9 #[dval x D, .slice a n c] w fun e w' => e = .returned (.bool true) ∧ Below w.heap.size w w' := by
  have hmx : Try.prog.follows Departure.mixedOrders = true := by kernel_rfl
  have hsl := hs.1
  have n0 : (0 : Int) ≤ n := by omega
  have n1 := hs.len_le
  have hL0 := lawL_box w x D h
  have HS := Lib.hid hs
  obtain ⟨w0, hw0⟩ : ∃ w0, w.alloc (.cells #[.slice x.ba D.1.length x.bc, .slice x.wa D.2.length x.wc] 25) = w0 := ⟨_, rfl⟩
  rw [hw0] at hL0
  obtain ⟨B, hB⟩ : ∃ B, w.heap.size = B := ⟨_, rfl⟩
  rw [hB] at hL0 ⊢
  have HL := Lib.hid hL0
  have HBB := Lib.hid hB
  have HA := Lib.hid (alive_any w0)
  have HNR := Lib.hid hnear
  simp only [dval]
  clear h hs hL0 hnear
  go_enter Try.func9, Try.ntmps9
  go_wp2_with fail
  clear hw0 hB
  refine HA.out.mono ?_
  rintro e w1 ⟨rfl, b1⟩
  have HL1 := Lib.hid (HL.out.step b1)
  have HG := Lib.hid (rdGreat_any x D w1 HL1.out.dsk HNR.out)
  have c0 := HL1.out.c0
  have c1 := HL1.out.c1
  simp only [dval] at HG
  clear b1 HL HA
  go_wp2_with fail
  clear c0 c1
  refine HG.out.mono ?_
  rintro e w2 ⟨g, rfl, hsm, b2⟩
  have HL2 := Lib.hid (HL1.out.step b2)
  clear b2 HL1 HG
  cases g with
  | true =>
    go_wp2_with fail
    go_ret
    exact ⟨rfl, by rw [← HBB.out]; exact HL2.out.bel⟩
  | false =>
    clear hsm
    by_cases hk5 : (5000 : Int) < n
    · go_wp2_with fail
      go_ret
      exact ⟨rfl, by rw [← HBB.out]; exact HL2.out.bel⟩
    · have HC := Lib.hid (dCrash_any x D a n c s w2 HL2.out.dsk (HS.out.step HL2.out.bel))
      have c0 := HL2.out.c0
      have c1 := HL2.out.c1
      simp only [dval] at HC
      go_wp2_with fail
      clear c0 c1
      obtain ⟨K, ke, hko⟩ : ∃ K e, crashO D s = (K, e) := ⟨_, _, rfl⟩
      rw [hko] at HC
      refine HC.out.mono ?_
      rintro e w3 ⟨u, rfl, hu, b3⟩
      have hL3 := HL2.out.step b3
      have hU := hL3.put hu.dsk
      have ba := alloc_b w3 (.cells #[.slice u.ba K.1.length u.bc, .slice u.wa K.2.length u.wc] 25)
      have hL4 := hL3.step ba
      obtain ⟨w4, hw4⟩ : ∃ w4, w3.alloc (.cells #[.slice u.ba K.1.length u.bc, .slice u.wa K.2.length u.wc] 25) = w4 := ⟨_, rfl⟩
      obtain ⟨gk, hgk⟩ : ∃ g, w3.heap.size = g := ⟨_, rfl⟩
      rw [hw4] at hU hL4
      rw [hgk] at hU
      have HL4 := Lib.hid hL4
      have HU4 := Lib.hid hU
      simp only [dval]
      clear b3 hu hL3 hU ba hL4 HL2 HC
      by_cases hok : MayD D ∧ s.length = D.2.length
      · obtain ⟨hm, hlk⟩ := hok
        rw [crash_ok hm hlk] at hko
        obtain ⟨hK, rfl⟩ := Prod.mk.inj hko
        have hfl := less_flush (mk := fun i => s.getD i false) hm
        rw [hK] at hfl
        obtain ⟨mk, hmk⟩ : ∃ mk : Nat → Bool, (fun i => s.getD i false) = mk := ⟨_, rfl⟩
        have hmk' : ∀ i, s.getD i false = mk i := fun i => by rw [← hmk]
        rw [hmk] at hfl
        have hm2 : D.2.length ≤ 4096 := hm.2.1
        have HFL := Lib.hid hfl
        have HMK := Lib.hid hmk'
        have HN := Lib.hid (show D.2.length = n by omega)
        have HLE := Lib.hid (fun i => less_len D.2 mk i)
        have c0 := HL4.out.c0
        have c1 := HL4.out.c1
        clear hmk hmk' hK hko hfl
        go_wp2_with fail
        have hg8 := Blk.new w4 25 #[.slice x.ba D.1.length x.bc, .slice none 0 0]
        have b8 := alloc_b w4 (.cells #[.slice x.ba D.1.length x.bc, .slice none 0 0] 25)
        obtain ⟨w5, hw5⟩ : ∃ w5, w4.alloc (.cells #[.slice x.ba D.1.length x.bc, .slice none 0 0] 25) = w5 := ⟨_, rfl⟩
        obtain ⟨gl, hgl⟩ : ∃ g, w4.heap.size = g := ⟨_, rfl⟩
        rw [hw5] at hg8 b8 ⊢
        rw [hgl] at hg8 ⊢
        have hL5 := HL4.out.step b8
        have hU5 := HU4.out.step b8
        have hgl1 : B + 1 ≤ gl := by rw [← hgl]; exact HL4.out.2.2.2.1
        have hgl2 : gk + 1 ≤ gl := by rw [← hgl]; exact HU4.out.2.2.2.1
        obtain ⟨base, hbase⟩ : ∃ b, w5.heap.size = b := ⟨_, rfl⟩
        have hglb : gl < base := by rw [← hbase]; exact hg8.lt
        have HL5 := Lib.hid hL5
        have HU5 := Lib.hid hU5
        have HG5 := Lib.hid hg8
        have HZ5 := Lib.hid (Nat.le_of_eq hbase.symm)
        have HGL := Lib.hid (And.intro hgl1 (And.intro hgl2 hglb))
        have HW5 : Hid (WRowC w5 (B + 1) base (.slice none 0 0) (lessW D.2 mk 0)) := Lib.hid (wrow_nil _ _)
        have hM5 : MayD (D.1, lessW D.2 mk D.2.length) := less_may hm
        have HM5 := Lib.hid hM5
        clear hm hlk hm2 b8 hg8 hL5 hU5 hgl1 hgl2 hglb hbase hM5 hsl
        clear hw4 hw5 hgk hgl c0 c1
        go_loopw [9] (fun i wr => ∃ (j : Nat) (A : Option Addr) (ca : Nat), j ≤ n ∧ i = .int .i64 j ∧ Hid (LawL w (B + 1) B x D wr) ∧ Hid (LawL w (gk + 1) gk u K wr) ∧
          Hid (Blk wr gl 25 #[.slice x.ba D.1.length x.bc, .slice A (lessW D.2 mk j).length ca]) ∧ Hid (WRowC wr (B + 1) base (.slice A (lessW D.2 mk j).length ca) (lessW D.2 mk j)) ∧ Hid (base ≤ wr.heap.size)) (fun i _ => n - (intOf i).toNat)
        case atStart => exact ⟨0, none, 0, Nat.zero_le _, rfl, HL5, HU5, HG5, HW5, HZ5⟩
        case round =>
          obtain ⟨j, A, ca, hj, rfl, HLr, HUr, HGr, HWr, HZr⟩ := hrel
          clear HL5 HU5 HG5 HW5 HZ5
          have j0 : (0 : Int) ≤ j := by omega
          by_cases hlt : j < n
          · have j1 : (j : Int) < n := by omega
            obtain ⟨b2, o2, rfl, _, hcm⟩ := (HS.out.step HLr.out.bel).2.2.2 (by omega)
            have hcj := hcm j hlt
            rw [HMK.out] at hcj
            clear hcm
            cases hb : mk j with
            | false =>
              rw [hb] at hcj
              have hno := less_no (ws := D.2) hb
              have HGn : Hid (Blk wr gl 25 #[.slice x.ba D.1.length x.bc, .slice A (lessW D.2 mk (j + 1)).length ca]) := Lib.hid (by rw [hno]; exact HGr.out)
              have HWn : Hid (WRowC wr (B + 1) base (.slice A (lessW D.2 mk (j + 1)).length ca) (lessW D.2 mk (j + 1))) := Lib.hid (by rw [hno]; exact HWr.out)
              clear hno hb
              go_wp2_with fail
              go_roundw
              case rel => exact ⟨j + 1, A, ca, by omega, by go_num, HLr, HUr, HGn, HWn, HZr⟩
              case measure => simp [intOf]; omega
            | true =>
              rw [hb] at hcj
              have HY := Lib.hid (less_yes (ws := D.2) hb)
              clear hb
              go_wp2_with fail
              obtain ⟨wd, hwd⟩ : ∃ wd, wr.drew = wd := ⟨_, rfl⟩
              have bd : Below wr.heap.size wr wd := by rw [← hwd]; exact (Below.refl _ wr).drew
              have hLd := HLr.out.step bd
              have hUd := HUr.out.step bd
              have hGd := HGr.out.below bd HGr.out.lt
              have hWd := HWr.out.below bd
              obtain ⟨b3, o3, pj, A3, l3, c3, s3, hbe3, _, hl3, hwf3, hca, hcd, hA3⟩ := hLd.2.2.2.2.1.2.at_ (show j < D.2.length by rw [HN.out]; exact hlt)
              have d1 := hLd.c1
              rw [HN.out] at d1
              obtain ⟨xa, xb, xc, xd⟩ := x
              simp only at hbe3 d1 hGd ⊢
              subst hbe3
              have g1 := hGd.cell 1
              rw [hl3] at HY
              obtain ⟨L, hL⟩ : ∃ L, lessW D.2 mk j = L := ⟨_, rfl⟩
              have hLj := HLE.out j
              rw [hL] at HY hGd hWd g1 hLj
              have C0 := fun X (hX : Below wd.heap.size wd X) => (hX.cell (p := ⟨gl, 1, none⟩) (World.block_lt_of_cell? wd _ g1)).trans g1
              have C1 := fun X (hX : Below wd.heap.size wd X) => (hX.cell (p := ⟨B, 1, none⟩) (World.block_lt_of_cell? wd _ d1)).trans d1
              have C2 := fun X (hX : Below wd.heap.size wd X) => (hX.cell (p := ⟨b3, o3 + j * 2, none⟩) (World.block_lt_of_cell? wd _ hca)).trans hca
              have C3 := fun X (hX : Below wd.heap.size wd X) => (hX.cell (p := ⟨b3, o3 + j * 2 + 1, none⟩) (World.block_lt_of_cell? wd _ hcd)).trans hcd
              have hSS : Below wd.heap.size wd wd := Below.refl _ _
              have HLd := Lib.hid hLd
              have HUd := Lib.hid hUd
              have HGd := Lib.hid hGd
              have HWd := Lib.hid hWd
              have HA3 := Lib.hid hA3
              have HW3 := Lib.hid hwf3
              have HZd := Lib.hid (Nat.le_trans HZr.out bd.size)
              have hLL := Lib.hid (show L.length + 1 ≤ 1000000 by omega)
              clear bd hLd hUd hGd hWd hl3 hca hcd hA3 hwf3 d1 g1 HLr HUr HGr HWr HZr hcj hLj
              refine wpF_start (fun _ => false) [0, 1, 2, 3, 4, 5, 6, 7, 8, 9, 10] hmx rfl hwd ?_
              clear hwd
              iterate 7 (
                refine wpF_read (v := ?_) rfl rfl (by kernel_rfl) (by kernel_rfl) (by kernel_rfl) (fun _ _ _ h => h) (.inl ⟨by rfl, ?_⟩) ?_
                rotate_left
                · intro X hX
                  have hX0 := C0 X (hX _ hSS)
                  have hX1 := C1 X (hX _ hSS)
                  have hX2 := C2 X (hX _ hSS)
                  have hX3 := C3 X (hX _ hSS)
                  clear hX
                  go_simp
                  with_reducible rfl
                try simp only [Act.put, List.setIfInBounds_toArray, List.set_cons_zero, List.set_cons_succ])
              clear C0 C1 C2 C3 hSS
              refine wpF_lone rfl (by kernel_rfl) (fun K hK => ?_)
              go_simp
              have b4 := alloc_b wd (.cells #[.int .i64 pj, .slice A3 l3 c3] 55)
              have hx4 := Blk.new wd 55 #[.int .i64 pj, .slice A3 l3 c3]
              obtain ⟨w4', hw4'⟩ : ∃ w4', wd.alloc (.cells #[.int .i64 pj, .slice A3 l3 c3] 55) = w4' := ⟨_, rfl⟩
              obtain ⟨gx, hgx⟩ : ∃ g, wd.heap.size = g := ⟨_, rfl⟩
              have HL4' := Lib.hid (HLd.out.step (hw4' ▸ b4))
              have HU4' := Lib.hid (HUd.out.step (hw4' ▸ b4))
              have HG4' := Lib.hid (HGd.out.below (hw4' ▸ b4) HGd.out.lt)
              have HW4' := Lib.hid (HWd.out.below (hw4' ▸ b4))
              have HA4' := Lib.hid (HA3.out.below (b4.mono HLd.out.2.2.2.1))
              rw [hw4'] at b4 hx4 HA4' ⊢
              have HZ4' := Lib.hid (Nat.le_trans HZd.out b4.size)
              rw [hgx] at hx4 ⊢
              have HX4' := Lib.hid hx4
              refine hK _ _ (Stays.of_below b4) ?_
              clear hK K b4 hx4 HLd HUd HGd HWd HA3 HZd hw4' hgx
              try simp only [Act.put, List.setIfInBounds_toArray, List.set_cons_zero, List.set_cons_succ]
              refine wpF_append_wrow rfl (by kernel_rfl) (by kernel_rfl) rfl (.tmp 48) (.tmp 54) rfl base (C := B + 1) (by have := HGL.out; omega) (.slice A L.length ca) L rfl HW4'.out [.int .i64 pj, .slice A3 l3 c3] [(pj, s3)] ⟨gx, 0, none⟩ 1 1 rfl rfl rfl (fun k u hu => ?_) (fun i hi => ?_) hLL.out HZ4'.out ?_
              · rcases k with _ | _ | k
                · cases hu
                  have := HX4'.out.cell 0
                  simpa [Addr.add] using this
                · cases hu
                  have := HX4'.out.cell 1
                  simpa [Addr.add] using this
                · simp at hu
              · obtain rfl : i = 0 := by simp at hi; exact hi
                have hl := HA4'.out.1
                subst hl
                exact ⟨HW3.out, rfl, A3, c3, rfl, BslO.of HA4'.out HL4'.out.2.2.2.1⟩
              intro v5 w5' hr5 hg5 hty
              have hG5 : Blk w5' gl 25 #[.slice xa D.1.length xb, .slice A L.length ca] := (hg5.block gl HG4'.out.lt fun e => by
                obtain ⟨_, t', cs', h1, h2⟩ := hty gl e.symm
                exact HG4'.out.ne h1 (by rw [h2]; decide) rfl).trans HG4'.out
              have hgb := HGL.out
              have hL5 := HL4'.out.rows hg5 (fun r e => by have := (hty r e).1; omega)
              have hU5 := HU4'.out.rows hg5 (fun r e => by have := (hty r e).1; omega)
              obtain ⟨A5, c5, rfl, _⟩ := hr5.wts
              rw [← HY.out] at hr5 ⊢
              have gs : w5'.grownBy (w5'.setCell ⟨gl, 1, none⟩ (.slice A5 (lessW D.2 mk (j + 1)).length c5)) (some gl) := only_setCell (World.grownBy.refl w5' _) (.inl rfl) _
              have hW6 := hr5.row gs (by omega) hG5 (by decide) (by decide)
              have hG6 := hG5.set_ 1 (.slice A5 (lessW D.2 mk (j + 1)).length c5)
              have hL6 := hL5.rows gs (fun r e => by cases e; omega)
              have hU6 := hU5.rows gs (fun r e => by cases e; omega)
              have hZ6 := Nat.le_trans (Nat.le_trans HZ4'.out hg5.size) gs.size
              have hu3 := hG5.cell 1
              have hf3 := hG5.frozen 1
              try simp only [Act.put, List.setIfInBounds_toArray, List.set_cons_zero, List.set_cons_succ]
              obtain ⟨m5, hm5⟩ : ∃ m, (lessW D.2 mk (j + 1)).length = m := ⟨_, rfl⟩
              obtain ⟨w6', hw6'⟩ : ∃ w6', w5'.setCell ⟨gl, 1, none⟩ (.slice A5 m5 c5) = w6' := ⟨_, rfl⟩
              rw [hm5] at hW6 hG6 hL6 hU6 hZ6 ⊢
              rw [hw6'] at hW6 hG6 hL6 hU6 hZ6
              have HW6 := Lib.hid hW6
              have HG6 := Lib.hid hG6
              have HL6 := Lib.hid hL6
              have HU6 := Lib.hid hU6
              have HZ6 := Lib.hid hZ6
              have HM5' := Lib.hid hm5
              clear hr5 hg5 hty hG5 hgb hL5 hU5 gs hW6 hG6 hL6 hU6 hZ6 hm5 HL4' HU4' HG4' HW4' HA4' HZ4' HX4'
              refine wpF_read (v := ?_) rfl rfl (by kernel_rfl) (by kernel_rfl) (by kernel_rfl) (fun _ _ _ h => h) (.inl ⟨by rfl, ?_⟩) ?_
              rotate_left
              · intro X hX
                clear hX
                go_simp
                with_reducible rfl
              try simp only [Act.put, List.setIfInBounds_toArray, List.set_cons_zero, List.set_cons_succ]
              refine wpF_last rfl (by kernel_rfl) (by kernel_rfl) (fun K hK => ?_)
              go_simp
              refine hK _ _ ?_
              clear hK K hu3 hf3 hw6'
              try simp only [Act.put, List.setIfInBounds_toArray, List.set_cons_zero, List.set_cons_succ]
              refine wpF_done (by kernel_rfl) ?_
              go_wp2_with fail
              have hm := HM5'.out
              subst hm
              go_roundw
              case rel => exact ⟨j + 1, A5, c5, by omega, by go_num, HL6, HU6, HG6, HW6, HZ6⟩
              case measure => simp [intOf]; omega
          · obtain rfl : j = n := by omega
            have c0 := HGr.out.cell 0
            have c1 := HGr.out.cell 1
            have hdw : Dsk wr wr.heap.size ⟨x.ba, x.bc, A, ca⟩ (D.1, lessW D.2 mk j) := by
              obtain ⟨A', c', e, hw⟩ := HWr.out.wts
              cases e
              exact ⟨HLr.out.dsk.1, hw⟩
            have hfl := dFlush_any ⟨x.ba, x.bc, A, ca⟩ (D.1, lessW D.2 mk j) wr hdw
            have hfe := HFL.out
            rw [HN.out] at hfe
            rw [hfe] at hfl
            simp only [dval] at hfl
            have HFW := Lib.hid hfl
            clear hdw hfl hfe
            go_wp2_with fail
            clear c0 c1
            refine HFW.out.mono ?_
            rintro e w6 ⟨v, rfl, hv, b6⟩
            have hU6 := HUr.out.step b6
            have hV := hU6.put hv.dsk
            have ba := alloc_b w6 (.cells #[.slice v.ba K.1.length v.bc, .slice v.wa K.2.length v.wc] 25)
            have hU7 := hU6.step ba
            obtain ⟨w7, hw7⟩ : ∃ w7, w6.alloc (.cells #[.slice v.ba K.1.length v.bc, .slice v.wa K.2.length v.wc] 25) = w7 := ⟨_, rfl⟩
            obtain ⟨gv, hgv⟩ : ∃ g, w6.heap.size = g := ⟨_, rfl⟩
            rw [hw7] at hV hU7
            rw [hgv] at hV
            have c0 := hU7.c0
            have c1 := hU7.c1
            have d0 := hV.c0
            have d1 := hV.c1
            have HSM := Lib.hid (dSame_any u K v K w7 hU7.dsk hV.dsk true ⟨fun _ => rfl, fun _ => rfl⟩)
            have HB7 := Lib.hid hU7.bel
            simp only [dval] at HSM ⊢
            clear b6 hv hU6 hV ba hU7 HLr HUr HGr HWr HFW
            go_wp2_with fail
            clear hw7 hgv c0 c1 d0 d1
            refine HSM.out.mono ?_
            rintro e w8 ⟨rfl, b8⟩
            have HB8 := Lib.hid (HB7.out.trans (b8.mono HB7.out.size))
            clear b8
            go_wp2_with fail
            go_ret
            exact ⟨rfl, by rw [← HBB.out]; exact HB8.out⟩
      · have hke := lost_no hok
        rw [hko] at hke
        obtain ⟨e, he, hne⟩ : ∃ e : Int, (if MayD D then (2 : Int) else 8) = e ∧ (e = 2 ∨ e = 8) := by
          by_cases hm : MayD D
          · exact ⟨2, if_pos hm, .inl rfl⟩
          · exact ⟨8, if_neg hm, .inr rfl⟩
        rw [he] at hke
        cases hke
        have HB4 := Lib.hid HU4.out.bel
        clear HL4 HU4 hko hok he
        simp only [List.length_nil] at hw4 ⊢
        rcases hne with rfl | rfl
        · go_wp2_with fail
          go_ret
          exact ⟨rfl, by rw [← HBB.out]; exact HB4.out⟩
        · go_wp2_with fail
          go_ret
          exact ⟨rfl, by rw [← HBB.out]; exact HB4.out⟩
end Go.Proofs.Ytgpojnhhcobcbaa
namespace Go.Proofs.Ytgpojnhhcobcbaa.devLost
open Go.ChangeShapes Go.WideShapes Go.ChangeAt Go.RowKit
set_option linter.unusedVariables false

theorem own : ownKnob Try.prog.godebug = none := by kernel_rfl
theorem laidOut : laidOutB Try.prog = true := by kernel_rfl

set_option maxRecDepth 100000 in
theorem lifted (os : Os) (started : os.Started) (H : Type) (enc : TypeId × Value → H) :
    ReturnsInHanded {} Try.checked os 9 .any (Rows.devLostSpec.pre6 enc Try.prog Try.f9 Rows.devLostRow.domain false) (Rows.devLostSpec.post enc Try.prog Try.f9 false true false false) := by
  refine returnsInHanded_of_change_sized (C := Try.checked) own started (by kernel_rfl) Try.func9
    (ChangeSpec.witness6 (enc := enc) (C := Try.checked) false ⟨#[], #[.agg #[.slice none 0 0, .slice none 0 0], .slice none 0 0], []⟩ 8 (by kernel_rfl) (by kernel_rfl) (by kernel_rfl) (by kernel_rfl)) ?_
  intro W base args ds gs before hval0 hW hcnd hsz _
  have hval : ∀ (j : Nat) t v, Try.f9.params[j]? = some t → args[j]? = some v → Value.okWide Try.prog W .any base t v := hval0
  have hW' := hW
  obtain ⟨p, q, hA0, hV, rfl, hfz, hnd⟩ := hW
  have hA : DataW.TrodAll enc Try.prog W 0 (fun _ => true) true Try.f9.params.toList args.toList ds p := hA0
  rw [Try.params9] at hA hval
  obtain ⟨v0, vs0, d0, ds0, p0, q0, hargs, rfl, rfl, h0, r0⟩ := trodAll_cons hA
  obtain ⟨v1, vs1, d1, ds1, p1, q1, rfl, rfl, rfl, h1, r1⟩ := trodAll_cons r0
  obtain ⟨rfl, rfl, rfl⟩ := trodAll_nil r1
  obtain rfl : args = #[v0, v1] := by cases args; simp_all
  obtain ⟨rfl, rfl⟩ := trodVars_none hV
  have k0 := h0
  have lt0 : ∀ x ∈ p0, x.block < W.heap.size := by obtain ⟨m, hm⟩ := k0; exact DataW.trod_lt m _ _ _ hm
  obtain ⟨x0, D0, rfl, w0, m0⟩ := open_disk (hval 0 25 v0 rfl rfl) h0 (fun n hn => by
    have := List.all_eq_true.1 hsz n (DataW.weights_mem_each (j := 0) (t := 25) (by kernel_rfl) rfl n hn)
    simpa using this)
  obtain ⟨a1, len1, cap1, rfl⟩ := okWide_slice Try.underlying49 (hval 1 49 v1 rfl rfl)
  have k1 := h1
  have lt1 : ∀ x ∈ p1, x.block < W.heap.size := by obtain ⟨m, hm⟩ := k1; exact DataW.trod_lt m _ _ _ hm
  obtain ⟨s1, w1⟩ := open_marks h1
  clear hA0 hval0
  refine (devLost_walk x0 D0 a1 len1 cap1 s1 W w0 m0 w1).mono fun e W' ⟨he, bel⟩ => ?_
  subst he
  exact ⟨_, rfl, _, _, _, [], _, [], hW', trodAll_mk1 (shut_bool Try.underlying4 _), (trodAll_cons_mk (Below.trod laidOut (by kernel_rfl) (of_decide_eq_true (by kernel_rfl)) k0 bel lt0) (trodAll_cons_mk (Below.trod laidOut (by kernel_rfl) (of_decide_eq_true (by kernel_rfl)) k1 bel lt1) trodAll_mk0)), rfl, bel.frame _, fun h => by cases h⟩

theorem over : Rows.devLostRow.holds Try.pinned (OpenSpec.ofChange Rows.devLostSpec) :=
  OpenClaim.holds_of_wide 9 Try.f9 rfl rfl rfl rfl rfl rfl rfl ⟨rfl, rfl, rfl, rfl, rfl⟩ rfl rfl rfl rfl rfl (by kernel_rfl) Try.func9 (by kernel_rfl)
    (of_decide_eq_true (by kernel_rfl)) (by unfold Func.isWrapper; first | (rw [if_pos (by decide +kernel)]; kernel_rfl) | (rw [if_neg (by decide +kernel)]; exact ⟨rfl, rfl⟩))
    (fun os started H enc _ => lifted os started H enc)

/-- The statement. -/
theorem proved : Rows.DevLostSaid := over
end Go.Proofs.Ytgpojnhhcobcbaa.devLost
