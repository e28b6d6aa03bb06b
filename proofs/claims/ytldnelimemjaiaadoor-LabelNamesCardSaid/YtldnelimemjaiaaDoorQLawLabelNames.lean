/-
  LabelNamesCardSaid: the limits and errors have their numbers, and the chapter's examples are so. No condition but the tied one: ptr.sizes reads as its own initialiser lays it.
-/
import Derived.Test.YtldnelimemjaiaaDoorRows
import Derived.Test.YtldnelimemjaiaaDoorPkLB5
namespace Go.Proofs.YtldnelimemjaiaaDoor
open Go.RowKit Go.Shelf
set_option maxRecDepth 100000

/-- The disk on which the labels of the first k Gens were put. -/
def dN : Nat → DkL
  | 0 => newD
  | k + 1 => withD (dN k) (((k + 1) % 4 : Nat) : Int) (blockL (oneL (k + 1)))
theorem dN_may : ∀ k, k ≤ 6 → MayD (dN k) ∧ (dN k).2.length = k
  | 0, _ => ⟨newD_may, rfl⟩
  | k + 1, h => by
    obtain ⟨h1, h2⟩ := dN_may k (by omega)
    refine ⟨with_may h1 (by omega) (blockL_length _) (by omega), ?_⟩
    show ((dN k).2 ++ [_]).length = k + 1
    rw [List.length_append, h2]
    rfl
theorem dN_put (k : Nat) (h : k < 6) : putO (dN k) (oneL (k + 1)) = (dN (k + 1), 0) := by
  obtain ⟨h1, h2⟩ := dN_may k (by omega)
  exact putO_ok h1 (may_oneL (by omega)) (by omega)
theorem dN_seen (k q : Nat) (h : k < 6) : seenL (dN (k + 1)) q = if q = (k + 1) % 4 then some (oneL (k + 1)) else seenL (dN k) q := seenL_with (may_oneL (by omega)) (wf_oneL (by omega)) q
theorem dN_find : findO (dN 5) = ([oneL 5, oneL 4, oneL 3, oneL 2], 0) := by
  have h : ∀ q, q < 4 → seenL (dN 5) q = (fun q => if q = 1 then some (oneL 5) else if q = 0 then some (oneL 4) else if q = 3 then some (oneL 3) else if q = 2 then some (oneL 2) else none) q := fun q hq => by
    rw [dN_seen 4 q (by omega), dN_seen 3 q (by omega), dN_seen 2 q (by omega), dN_seen 1 q (by omega), dN_seen 0 q (by omega), show seenL (dN 0) q = none from seenL_new (by omega)]
    match q, hq with
    | 0, _ => rfl
    | 1, _ => rfl
    | 2, _ => rfl
    | 3, _ => rfl
  rw [findO, if_pos (dN_may 5 (by omega)).1, findL, standL_congr h]
  rfl
theorem find_new : findO newD = ([], 0) := by
  have h : ∀ q, q < 4 → seenL newD q = (fun _ => none) q := fun q hq => seenL_new (by omega)
  rw [findO, if_pos newD_may, findL, standL_congr h]
  rfl
theorem put_nought : putO newD (oneL 0) = (([], []), 8) := by
  unfold putO
  rw [if_pos newD_may, if_neg (fun h => by have := h.1.1; simp [oneL] at this)]
theorem put_none : putO newD (1, 1, p0) = (([], []), 8) := by
  unfold putO
  rw [if_pos newD_may, if_neg (fun h => h.2.2.1 rfl)]
set_option maxHeartbeats 16000000 in
theorem labelNames_walk (w : World) (hz : Szs w) : Calls Tryd.prog 3 #[] w fun e w' => e = .returned (.bool true) ∧ Below w.heap.size w w' := by
  have hmx : Tryd.prog.follows Departure.mixedOrders = true := by kernel_rfl
  have HA := Lib.hid (lAlive_any w hz)
  have HPOS := Lib.hid hz.1
  have hnw := fun W => dNew_any W
  have hfn := fun W x (h1 : Szs W) (h2 : Dsk W W.heap.size x newD) => lFind_any x newD W h2 h1
  have hp0 := fun W x (h1 : Szs W) (h2 : Dsk W W.heap.size x newD) => lPut_any x newD (oneL 0) W h2 (wf_oneL (by omega)) h1
  have HP1 : Hid (∀ W x, Szs W → Dsk W W.heap.size x newD → Calls Tryd.prog 10 #[dval x newD, .agg #[.int .u32 1, .int .u32 1, .int .i64 0, .int .u32 0, .int .u32 0, .int .u32 0, .int .u32 0]] W (ToldD (([], []), 8) W)) := Lib.hid fun W x h1 h2 => by
    have := lPut_any x newD (1, 1, p0) W h2 ⟨by decide, by decide, wf_p0⟩ h1
    rw [put_none] at this
    exact this
  have HPN : Hid (∀ j, 1 ≤ j → j < 6 → ∀ W x, Szs W → Dsk W W.heap.size x (dN (j - 1)) → Calls Tryd.prog 10 #[dval x (dN (j - 1)), lbV (oneL j)] W (ToldD (dN j, 0) W)) := Lib.hid fun j h1 h2 W x h3 h4 => by
    have := lPut_any x (dN (j - 1)) (oneL j) W h4 (wf_oneL (by omega)) h3
    obtain ⟨k, rfl⟩ : ∃ k, j = k + 1 := ⟨j - 1, by omega⟩
    rw [Nat.add_sub_cancel] at this ⊢
    rwa [dN_put k (by omega)] at this
  have HFN5 : Hid (∀ W x, Szs W → Dsk W W.heap.size x (dN 5) → Calls Tryd.prog 8 #[dval x (dN 5)] W (OutLs ([oneL 5, oneL 4, oneL 3, oneL 2], 0) W)) := Lib.hid fun W x h1 h2 => by
    have := lFind_any x (dN 5) W h2 h1
    rwa [dN_find] at this
  have HO0 : Hid (∀ W, Calls Tryd.prog 11 #[.int .u32 0] W fun e w' => e = .returned (lbV (oneL 0)) ∧ Below W.heap.size W w') := Lib.hid fun W => one_any 0 W
  have HON := Lib.hid one_any
  have HS7 : Hid (∀ W, Calls Tryd.prog 12 #[.int .u32 7] W fun e w' => e = .returned (.int .i64 3) ∧ W = w') := Lib.hid fun W => lSlot_any 7 (by omega) W
  rw [find_new] at hfn
  rw [put_nought] at hp0
  have HD0 := Lib.hid (show dN 0 = newD from rfl)
  obtain ⟨N0, hN0⟩ : ∃ N, newD = N := ⟨_, rfl⟩
  simp only [hN0] at hnw hfn hp0 HP1 HD0
  obtain ⟨D, hD⟩ : ∃ D, dN = D := ⟨_, rfl⟩
  simp only [hD] at HPN HFN5 HD0
  simp only [dval] at hfn hp0 HP1 HPN HFN5
  have HNW := Lib.hid hnw
  have HFN := Lib.hid hfn
  have HP0 := Lib.hid hp0
  have HZ := Lib.hid hz
  have HBW := Lib.hid (Below.refl w.heap.size w)
  have hoo : ∃ o0 o2 o3 o4 o5 : Lb, oneL 0 = o0 ∧ oneL 2 = o2 ∧ oneL 3 = o3 ∧ oneL 4 = o4 ∧ oneL 5 = o5 := ⟨_, _, _, _, _, rfl, rfl, rfl, rfl, rfl⟩
  clear hnw hfn hp0 hz hN0 hD hoo
  go_enter Tryd.func3, Tryd.ntmps3
  go_wp2_with fail
  refine HA.out.mono ?_
  rintro ev w1 ⟨rfl, b1⟩
  replace HBW := Lib.hid (Below.trans HBW.out ((b1).mono (Below.size HBW.out)))
  replace HZ := Lib.hid (HZ.out.step b1)
  clear b1 HA
  go_wp2_with fail
  refine (HNW.out w1).mono ?_
  rintro ev w2 ⟨x2, rfl, l_, b_⟩
  have HD_ := Lib.hid l_.dsk
  replace HBW := Lib.hid (Below.trans HBW.out ((b_).mono (Below.size HBW.out)))
  replace HZ := Lib.hid (HZ.out.step b_)
  clear l_ b_
  simp only [dval]
  go_wp2_with fail
  refine (HFN.out w2 x2 HZ.out HD_.out).mono ?_
  rintro ev w3 ⟨v, rfl, r, b_⟩
  obtain ⟨a3, k3, rfl, _⟩ := r.lbs
  replace HBW := Lib.hid (Below.trans HBW.out ((b_).mono (Below.size HBW.out)))
  replace HZ := Lib.hid (HZ.out.step b_)
  clear b_ r HD_
  simp only [List.length_nil]
  go_wp2_with fail
  refine (HNW.out w3).mono ?_
  rintro ev w4 ⟨x4, rfl, l_, b_⟩
  have HD_ := Lib.hid l_.dsk
  replace HBW := Lib.hid (Below.trans HBW.out ((b_).mono (Below.size HBW.out)))
  replace HZ := Lib.hid (HZ.out.step b_)
  clear l_ b_
  simp only [dval]
  go_wp2_with fail
  refine (HO0.out w4).mono ?_
  rintro ev w5 ⟨rfl, b_⟩
  replace HD_ := Lib.hid (HD_.out.step b_)
  replace HBW := Lib.hid (Below.trans HBW.out ((b_).mono (Below.size HBW.out)))
  replace HZ := Lib.hid (HZ.out.step b_)
  clear b_
  go_wp2_with fail
  refine (HP0.out w5 x4 HZ.out HD_.out).mono ?_
  rintro ev w6 ⟨x6, rfl, o_, b_⟩
  replace HBW := Lib.hid (Below.trans HBW.out ((b_).mono (Below.size HBW.out)))
  replace HZ := Lib.hid (HZ.out.step b_)
  simp only [dval, List.length_nil]
  have ba := alloc_b w6 (.cells #[.slice x6.ba 0 x6.bc, .slice x6.wa 0 x6.wc] 30)
  replace HBW := Lib.hid (Below.trans HBW.out ((ba).mono (Below.size HBW.out)))
  replace HZ := Lib.hid (HZ.out.step ba)
  obtain ⟨w7, hw7⟩ : ∃ x, w6.alloc (.cells #[.slice x6.ba 0 x6.bc, .slice x6.wa 0 x6.wc] 30) = x := ⟨_, rfl⟩
  rw [hw7] at HBW HZ
  clear b_ o_ ba HD_
  go_wp2_with fail
  clear hw7
  refine (HNW.out w7).mono ?_
  rintro ev w8 ⟨x8, rfl, l_, b_⟩
  have HD_ := Lib.hid l_.dsk
  replace HBW := Lib.hid (Below.trans HBW.out ((b_).mono (Below.size HBW.out)))
  replace HZ := Lib.hid (HZ.out.step b_)
  clear l_ b_
  simp only [dval]
  go_wp2_with fail
  refine (HP1.out w8 x8 HZ.out HD_.out).mono ?_
  rintro ev w9 ⟨x9, rfl, o_, b_⟩
  replace HBW := Lib.hid (Below.trans HBW.out ((b_).mono (Below.size HBW.out)))
  replace HZ := Lib.hid (HZ.out.step b_)
  simp only [dval, List.length_nil]
  have ba := alloc_b w9 (.cells #[.slice x9.ba 0 x9.bc, .slice x9.wa 0 x9.wc] 30)
  replace HBW := Lib.hid (Below.trans HBW.out ((ba).mono (Below.size HBW.out)))
  replace HZ := Lib.hid (HZ.out.step ba)
  obtain ⟨wA, hwA⟩ : ∃ x, w9.alloc (.cells #[.slice x9.ba 0 x9.bc, .slice x9.wa 0 x9.wc] 30) = x := ⟨_, rfl⟩
  rw [hwA] at HBW HZ
  clear b_ o_ ba HD_
  go_wp2_with fail
  clear hwA
  refine (HNW.out wA).mono ?_
  rintro ev wB ⟨xB, rfl, l_, b_⟩
  have hd := l_.dsk
  replace HBW := Lib.hid (Below.trans HBW.out ((b_).mono (Below.size HBW.out)))
  replace HZ := Lib.hid (HZ.out.step b_)
  simp only [dval]
  have ba := alloc_b wB (.cells #[.slice xB.ba N0.1.length xB.bc, .slice xB.wa N0.2.length xB.wc] 30)
  have hdd := hd.step ba
  have hk := Blk.new wB 30 #[.slice xB.ba N0.1.length xB.bc, .slice xB.wa N0.2.length xB.wc]
  have hle := HBW.out.size
  replace HBW := Lib.hid (Below.trans HBW.out ((ba).mono (Below.size HBW.out)))
  replace HZ := Lib.hid (HZ.out.step ba)
  obtain ⟨wC, hwC⟩ : ∃ x, wB.alloc (.cells #[.slice xB.ba N0.1.length xB.bc, .slice xB.wa N0.2.length xB.wc] 30) = x := ⟨_, rfl⟩
  obtain ⟨gd, hgd⟩ : ∃ g, wB.heap.size = g := ⟨_, rfl⟩
  rw [hwC] at HBW HZ hdd hk
  rw [hgd] at hk hle
  have HL : Hid (LawL w wC.heap.size gd xB (D 0) wC) := Lib.hid ⟨by rw [HD0.out]; exact hk, hle, hk.lt, Nat.le_refl _, by rw [HD0.out]; exact hdd, HBW.out⟩
  clear b_ ba hd hdd hk hle l_
  go_wp2_with fail
  clear hwC hgd
  go_loopw [8] (fun i wr => ∃ (j L : Nat) (xk : DAt), 1 ≤ j ∧ j ≤ 6 ∧ i = .int .u32 (j : Int) ∧ LawL w L gd xk (D (j - 1)) wr ∧ Szs wr) (fun i _ => 6 - (intOf i).toNat)
  case atStart => exact ⟨1, _, xB, Nat.le_refl _, by omega, rfl, HL.out, HZ.out⟩
  case round =>
    obtain ⟨j, L, xk, hj1, hj6, rfl, hl, hz⟩ := hrel
    clear HL HZ HBW HP0 HP1 HO0 HFN
    have HL := Lib.hid hl
    have HZ := Lib.hid hz
    have j0 : (0 : Int) ≤ (j : Int) := by omega
    have j1 : (j : Int) ≤ 6 := by omega
    by_cases hlt : j < 6
    · have j2 : (j : Int) < 6 := by omega
      have hpn := HPN.out j hj1 hlt
      obtain ⟨E, hE⟩ : ∃ E, D (j - 1) = E := ⟨_, rfl⟩
      obtain ⟨E', hE'⟩ : ∃ E, D j = E := ⟨_, rfl⟩
      obtain ⟨o, ho⟩ : ∃ o, oneL j = o := ⟨_, rfl⟩
      have hon := HON.out j
      rw [hE, hE', ho] at hpn
      rw [ho] at hon
      rw [hE] at HL hl
      have HP := Lib.hid hpn
      have HN := Lib.hid hon
      have HEE := Lib.hid hE'
      clear hpn hon hE hE' ho hl hz
      go_wp2_with fail
      go_cut [9, 10] from 33 to 46 (fun u v wx => v = .int .i64 0 ∧ ∃ ga x3 lo, u = .pointer (some ⟨ga, 0, none⟩) ∧ gd < ga ∧ gd < lo ∧ Blk wx ga 30 #[.slice x3.ba E'.1.length x3.bc, .slice x3.wa E'.2.length x3.wc] ∧ OutD wx lo x3 E' ∧ Below wr.heap.size wr wx)
      case first =>
        obtain ⟨wd, hwd⟩ : ∃ wd, wr.drew = wd := ⟨_, rfl⟩
        have HBd := Lib.hid (show Below wr.heap.size wr wd by rw [← hwd]; exact (Below.refl _ _).drew)
        have HLD := Lib.hid (HL.out.step HBd.out)
        have HZd := Lib.hid (HZ.out.step HBd.out)
        have C0 := fun X (hX : Below wd.heap.size wd X) => (HLD.out.step hX).c0
        have C1 := fun X (hX : Below wd.heap.size wd X) => (HLD.out.step hX).c1
        have hbwd : Below wd.heap.size wd wd := Below.refl _ _
        refine wpI_start (Below wd.heap.size wd) [0, 1, 2, 7, 3, 4, 5, 6, 8, 9] hmx rfl hwd ?_
        clear hwd
        iterate 2 (
          refine wpI_read (v := ?_) hbwd rfl (by kernel_rfl) (by kernel_rfl) (by kernel_rfl) (fun _ _ _ h => h) (.inl ⟨by rfl, ?_⟩) ?_
          rotate_left
          · intro X hX
            have hXa := C0 X hX
            have hXb := C1 X hX
            clear hX
            go_simp
            with_reducible rfl
          try simp only [Act.put, List.setIfInBounds_toArray, List.set_cons_zero, List.set_cons_succ])
        clear C0 C1
        refine wpI_fork rfl rfl (by kernel_rfl) (fun K hK => ?_) (fun K hK => ?_)
        · go_simp
          refine (HN.out wd).mono ?_
          rintro ev y5 ⟨rfl, bq⟩
          have hby5 := hbwd.trans (bq.mono hbwd.size)
          refine hK _ _ hby5 ?_
          clear hK K bq
          try simp only [Act.put, List.setIfInBounds_toArray, List.set_cons_zero, List.set_cons_succ]
          refine wpI_turn [3, 7, 4, 5, 6, 8, 9] rfl ?_
          refine wpI_fork rfl rfl (by kernel_rfl) (fun K hK => ?_) (fun K hK => ?_)
          · have hcp := HP.out y5 xk (HZd.out.step hby5) (HLD.out.dsk.step hby5)
            go_simp
            refine hcp.mono ?_
            rintro ev y6 ⟨x3, rfl, hoy6, bq⟩
            have hlo : gd < y5.heap.size := Nat.lt_of_lt_of_le HLD.out.1.lt hby5.size
            obtain ⟨lo, hlo_⟩ : ∃ l, y5.heap.size = l := ⟨_, rfl⟩
            rw [hlo_] at hoy6 hlo
            clear hlo_
            have hby6 := hby5.trans (bq.mono hby5.size)
            refine hK _ _ hby6 ?_
            clear hK K bq hcp
            simp only [dval]
            try simp only [Act.put, List.setIfInBounds_toArray, List.set_cons_zero, List.set_cons_succ]
            refine wpI_turn [4, 5, 6, 7, 8, 9] rfl ?_
            iterate 3 (
              refine wpI_read (v := ?_) hby6 rfl (by kernel_rfl) (by kernel_rfl) (by kernel_rfl) (fun _ _ _ h => h) (.inl ⟨by rfl, ?_⟩) ?_
              rotate_left
              · intro X hX
                clear hX
                go_simp
                with_reducible rfl
              try simp only [Act.put, List.setIfInBounds_toArray, List.set_cons_zero, List.set_cons_succ])
            refine wpI_lone rfl (by kernel_rfl) (fun K hK => ?_)
            have hoA := hoy6
            go_simp
            have bq := alloc_b y6 (.cells #[.slice none 0 0, .slice none 0 0] 30)
            have hxy7 := Blk.new y6 30 #[.slice none 0 0, .slice none 0 0]
            obtain ⟨y7, hny7⟩ : ∃ x, y6.alloc (.cells #[.slice none 0 0, .slice none 0 0] 30) = x := ⟨_, rfl⟩
            obtain ⟨ga, hg⟩ : ∃ g, y6.heap.size = g := ⟨_, rfl⟩
            have hgA : y6.heap.size ≤ ga := by rw [← hg]; exact Nat.le_refl _
            have hgl : wd.heap.size ≤ ga := by rw [← hg]; exact hby6.size
            rw [hny7] at bq hxy7 ⊢
            rw [hg] at hxy7 ⊢
            have hby7 := hby6.trans (bq.mono hby6.size)
            have hoy7 := hoy6.below bq
            refine hK _ _ hby7 ?_
            have hbA := bq
            clear hK K bq hny7 hg
            try simp only [Act.put, List.setIfInBounds_toArray, List.set_cons_zero, List.set_cons_succ]
            refine wpI_lone rfl (by kernel_rfl) (fun K hK => ?_)
            have d0 := hxy7.cell 0
            have d1 := hxy7.cell 1
            have hfz := fun i => hxy7.frozen i
            go_simp
            have hby8 := (hby7.setCell (p := ⟨ga, 0, none⟩) hgl (.slice x3.ba E'.1.length x3.bc)).setCell (p := ⟨ga, 1, none⟩) hgl (.slice x3.wa E'.2.length x3.wc)
            have hxy8 := (hxy7.set_ 0 (.slice x3.ba E'.1.length x3.bc)).set_ 1 (.slice x3.wa E'.2.length x3.wc)
            have hoy8 : OutD ((y7.setCell ⟨ga, 0, none⟩ (.slice x3.ba E'.1.length x3.bc)).setCell ⟨ga, 1, none⟩ (.slice x3.wa E'.2.length x3.wc)) lo x3 E' := hoA.below ((hbA.setCell (p := ⟨ga, 0, none⟩) hgA (.slice x3.ba E'.1.length x3.bc)).setCell (p := ⟨ga, 1, none⟩) hgA (.slice x3.wa E'.2.length x3.wc))
            obtain ⟨y8, hny8⟩ : ∃ x, ((y7.setCell ⟨ga, 0, none⟩ (.slice x3.ba E'.1.length x3.bc)).setCell ⟨ga, 1, none⟩ (.slice x3.wa E'.2.length x3.wc)) = x := ⟨_, rfl⟩
            rw [hny8] at hby8 hxy8 hoy8 ⊢
            refine hK _ _ hby8 ?_
            clear hK K d0 d1 hfz hny8
            try simp only [Act.put, List.setIfInBounds_toArray, List.set_cons_zero, List.set_cons_succ]
            iterate 1 (
              refine wpI_read (v := ?_) hby8 rfl (by kernel_rfl) (by kernel_rfl) (by kernel_rfl) (fun _ _ _ h => h) (.inl ⟨by rfl, ?_⟩) ?_
              rotate_left
              · intro X hX
                clear hX
                go_simp
                with_reducible rfl
              try simp only [Act.put, List.setIfInBounds_toArray, List.set_cons_zero, List.set_cons_succ])
            refine wpI_done (by kernel_rfl) ?_
            go_wp2_with fail
            go_meet
            exact ⟨rfl, ga, x3, lo, rfl, Nat.lt_of_lt_of_le HLD.out.1.lt hgl, hlo, hxy8, hoy8, HBd.out.trans (hby8.mono HBd.out.size)⟩
          · go_simp
            have bq := alloc_b y5 (.cells #[.slice none 0 0, .slice none 0 0] 30)
            have hxy9 := Blk.new y5 30 #[.slice none 0 0, .slice none 0 0]
            obtain ⟨y9, hny9⟩ : ∃ x, y5.alloc (.cells #[.slice none 0 0, .slice none 0 0] 30) = x := ⟨_, rfl⟩
            obtain ⟨ga, hg⟩ : ∃ g, y5.heap.size = g := ⟨_, rfl⟩
            have hgl : wd.heap.size ≤ ga := by rw [← hg]; exact hby5.size
            rw [hny9] at bq hxy9 ⊢
            rw [hg] at hxy9 ⊢
            have hby9 := hby5.trans (bq.mono hby5.size)
            refine hK _ _ hby9 ?_
            clear hK K bq hny9 hg
            try simp only [Act.put, List.setIfInBounds_toArray, List.set_cons_zero, List.set_cons_succ]
            refine wpI_lone rfl (by kernel_rfl) (fun K hK => ?_)
            have hgo : ga < y9.heap.size := hxy9.lt
            have hcp := HP.out y9 xk (HZd.out.step hby9) (HLD.out.dsk.step hby9)
            go_simp
            refine hcp.mono ?_
            rintro ev y10 ⟨x3, rfl, hoy10, bq⟩
            have hlo : gd < y9.heap.size := Nat.lt_of_lt_of_le HLD.out.1.lt hby9.size
            obtain ⟨lo, hlo_⟩ : ∃ l, y9.heap.size = l := ⟨_, rfl⟩
            rw [hlo_] at hgo
            rw [hlo_] at hoy10 hlo
            clear hlo_
            have hby10 := hby9.trans (bq.mono hby9.size)
            have hxy10 := hxy9.below bq hxy9.lt
            refine hK _ _ hby10 ?_
            clear hK K bq hcp
            simp only [dval]
            try simp only [Act.put, List.setIfInBounds_toArray, List.set_cons_zero, List.set_cons_succ]
            iterate 3 (
              refine wpI_read (v := ?_) hby10 rfl (by kernel_rfl) (by kernel_rfl) (by kernel_rfl) (fun _ _ _ h => h) (.inl ⟨by rfl, ?_⟩) ?_
              rotate_left
              · intro X hX
                clear hX
                go_simp
                with_reducible rfl
              try simp only [Act.put, List.setIfInBounds_toArray, List.set_cons_zero, List.set_cons_succ])
            refine wpI_lone rfl (by kernel_rfl) (fun K hK => ?_)
            have d0 := hxy10.cell 0
            have d1 := hxy10.cell 1
            have hfz := fun i => hxy10.frozen i
            go_simp
            have hby11 := (hby10.setCell (p := ⟨ga, 0, none⟩) hgl (.slice x3.ba E'.1.length x3.bc)).setCell (p := ⟨ga, 1, none⟩) hgl (.slice x3.wa E'.2.length x3.wc)
            have hxy11 := (hxy10.set_ 0 (.slice x3.ba E'.1.length x3.bc)).set_ 1 (.slice x3.wa E'.2.length x3.wc)
            have hoy11 := hoy10.far hgo (.slice x3.ba E'.1.length x3.bc) (.slice x3.wa E'.2.length x3.wc)
            obtain ⟨y11, hny11⟩ : ∃ x, ((y10.setCell ⟨ga, 0, none⟩ (.slice x3.ba E'.1.length x3.bc)).setCell ⟨ga, 1, none⟩ (.slice x3.wa E'.2.length x3.wc)) = x := ⟨_, rfl⟩
            rw [hny11] at hby11 hxy11 hoy11 ⊢
            refine hK _ _ hby11 ?_
            clear hK K d0 d1 hfz hny11
            try simp only [Act.put, List.setIfInBounds_toArray, List.set_cons_zero, List.set_cons_succ]
            iterate 1 (
              refine wpI_read (v := ?_) hby11 rfl (by kernel_rfl) (by kernel_rfl) (by kernel_rfl) (fun _ _ _ h => h) (.inl ⟨by rfl, ?_⟩) ?_
              rotate_left
              · intro X hX
                clear hX
                go_simp
                with_reducible rfl
              try simp only [Act.put, List.setIfInBounds_toArray, List.set_cons_zero, List.set_cons_succ])
            refine wpI_done (by kernel_rfl) ?_
            go_wp2_with fail
            go_meet
            exact ⟨rfl, ga, x3, lo, rfl, Nat.lt_of_lt_of_le HLD.out.1.lt hgl, hlo, hxy11, hoy11, HBd.out.trans (hby11.mono HBd.out.size)⟩
        · go_simp
          have bq := alloc_b wd (.cells #[.slice none 0 0, .slice none 0 0] 30)
          have hxy1 := Blk.new wd 30 #[.slice none 0 0, .slice none 0 0]
          obtain ⟨y1, hny1⟩ : ∃ x, wd.alloc (.cells #[.slice none 0 0, .slice none 0 0] 30) = x := ⟨_, rfl⟩
          obtain ⟨ga, hg⟩ : ∃ g, wd.heap.size = g := ⟨_, rfl⟩
          have hgl : wd.heap.size ≤ ga := by rw [← hg]; exact hbwd.size
          rw [hny1] at bq hxy1 ⊢
          rw [hg] at hxy1 ⊢
          have hby1 := hbwd.trans (bq.mono hbwd.size)
          refine hK _ _ hby1 ?_
          clear hK K bq hny1 hg
          try simp only [Act.put, List.setIfInBounds_toArray, List.set_cons_zero, List.set_cons_succ]
          refine wpI_lone rfl (by kernel_rfl) (fun K hK => ?_)
          go_simp
          refine (HN.out y1).mono ?_
          rintro ev y2 ⟨rfl, bq⟩
          have hby2 := hby1.trans (bq.mono hby1.size)
          have hxy2 := hxy1.below bq hxy1.lt
          refine hK _ _ hby2 ?_
          clear hK K bq
          try simp only [Act.put, List.setIfInBounds_toArray, List.set_cons_zero, List.set_cons_succ]
          refine wpI_lone rfl (by kernel_rfl) (fun K hK => ?_)
          have hgo : ga < y2.heap.size := hxy2.lt
          have hcp := HP.out y2 xk (HZd.out.step hby2) (HLD.out.dsk.step hby2)
          go_simp
          refine hcp.mono ?_
          rintro ev y3 ⟨x3, rfl, hoy3, bq⟩
          have hlo : gd < y2.heap.size := Nat.lt_of_lt_of_le HLD.out.1.lt hby2.size
          obtain ⟨lo, hlo_⟩ : ∃ l, y2.heap.size = l := ⟨_, rfl⟩
          rw [hlo_] at hgo
          rw [hlo_] at hoy3 hlo
          clear hlo_
          have hby3 := hby2.trans (bq.mono hby2.size)
          have hxy3 := hxy2.below bq hxy2.lt
          refine hK _ _ hby3 ?_
          clear hK K bq hcp
          simp only [dval]
          try simp only [Act.put, List.setIfInBounds_toArray, List.set_cons_zero, List.set_cons_succ]
          iterate 3 (
            refine wpI_read (v := ?_) hby3 rfl (by kernel_rfl) (by kernel_rfl) (by kernel_rfl) (fun _ _ _ h => h) (.inl ⟨by rfl, ?_⟩) ?_
            rotate_left
            · intro X hX
              clear hX
              go_simp
              with_reducible rfl
            try simp only [Act.put, List.setIfInBounds_toArray, List.set_cons_zero, List.set_cons_succ])
          refine wpI_lone rfl (by kernel_rfl) (fun K hK => ?_)
          have d0 := hxy3.cell 0
          have d1 := hxy3.cell 1
          have hfz := fun i => hxy3.frozen i
          go_simp
          have hby4 := (hby3.setCell (p := ⟨ga, 0, none⟩) hgl (.slice x3.ba E'.1.length x3.bc)).setCell (p := ⟨ga, 1, none⟩) hgl (.slice x3.wa E'.2.length x3.wc)
          have hxy4 := (hxy3.set_ 0 (.slice x3.ba E'.1.length x3.bc)).set_ 1 (.slice x3.wa E'.2.length x3.wc)
          have hoy4 := hoy3.far hgo (.slice x3.ba E'.1.length x3.bc) (.slice x3.wa E'.2.length x3.wc)
          obtain ⟨y4, hny4⟩ : ∃ x, ((y3.setCell ⟨ga, 0, none⟩ (.slice x3.ba E'.1.length x3.bc)).setCell ⟨ga, 1, none⟩ (.slice x3.wa E'.2.length x3.wc)) = x := ⟨_, rfl⟩
          rw [hny4] at hby4 hxy4 hoy4 ⊢
          refine hK _ _ hby4 ?_
          clear hK K d0 d1 hfz hny4
          try simp only [Act.put, List.setIfInBounds_toArray, List.set_cons_zero, List.set_cons_succ]
          iterate 1 (
            refine wpI_read (v := ?_) hby4 rfl (by kernel_rfl) (by kernel_rfl) (by kernel_rfl) (fun _ _ _ h => h) (.inl ⟨by rfl, ?_⟩) ?_
            rotate_left
            · intro X hX
              clear hX
              go_simp
              with_reducible rfl
            try simp only [Act.put, List.setIfInBounds_toArray, List.set_cons_zero, List.set_cons_succ])
          refine wpI_done (by kernel_rfl) ?_
          go_wp2_with fail
          go_meet
          exact ⟨rfl, ga, x3, lo, rfl, Nat.lt_of_lt_of_le HLD.out.1.lt hgl, hlo, hxy4, hoy4, HBd.out.trans (hby4.mono HBd.out.size)⟩
      case rest =>
        obtain ⟨rfl, ga, x3, lo, rfl, hga, hlo, hxa, hod, hbx⟩ := hcut
        have HLx := Lib.hid (HL.out.step hbx)
        have c0 := hxa.cell 0
        have c1 := hxa.cell 1
        have d0 := HLx.out.c0
        have d1 := HLx.out.c1
        have hfz := fun i => HLx.out.1.frozen i
        obtain ⟨ws, hws, hU, hbg, hsz⟩ := HLx.out.again hod hlo
        have HU := Lib.hid hU
        have HZs := Lib.hid ((HZ.out.step hbx).below hbg (Nat.lt_of_lt_of_le HPOS.out HL.out.2.1))
        clear hbx hxa hod hU hbg hsz
        go_wp2_with fail
        go_roundw
        case rel => exact ⟨j + 1, _, x3, by omega, by omega, by go_num, by rw [Nat.add_sub_cancel, HEE.out]; exact HU.out, HZs.out⟩
        case measure => simp [intOf]; omega
    · obtain rfl : j = 6 := by omega
      have hfi := HFN5.out wr xk HZ.out HL.out.dsk
      have HFI := Lib.hid hfi
      have c0 := HL.out.c0
      have c1 := HL.out.c1
      clear hfi
      go_wp2_with fail
      clear c0 c1
      refine HFI.out.mono ?_
      rintro ev wz ⟨v, rfl, r, b_⟩
      obtain ⟨az, kz, rfl, sz⟩ := r.lbs
      obtain ⟨bb, oo, rfl, _, _, c0, _⟩ := sz.cells 0 (by simp)
      obtain ⟨bb', oo', e1, _, _, c1, _⟩ := sz.cells 1 (by simp)
      cases e1
      obtain ⟨bb', oo', e1, _, _, c2, _⟩ := sz.cells 2 (by simp)
      cases e1
      obtain ⟨bb', oo', e1, _, _, c3, _⟩ := sz.cells 3 (by simp)
      cases e1
      simp only [List.getD_cons_zero, List.getD_cons_succ, oneL, Nat.zero_mul, Nat.add_zero, Nat.one_mul, Nat.reduceMul] at c0 c1 c2 c3
      have HBZ := Lib.hid (HL.out.bel.trans (b_.mono HL.out.bel.size))
      simp only [List.length_cons, List.length_nil, Nat.zero_add, Nat.reduceAdd]
      clear r sz b_ HFI
      go_wp2_with fail
      refine (HS7.out _).mono ?_
      rintro ev wq ⟨rfl, rfl⟩
      go_wp2_with fail
      go_ret
      exact ⟨rfl, HBZ.out⟩
end Go.Proofs.YtldnelimemjaiaaDoor
namespace Go.Proofs.YtldnelimemjaiaaDoor.labelNames
open Go.ChangeShapes Go.WideShapes Go.ChangeAt Go.RowKit
set_option linter.unusedVariables false

theorem own : ownKnob Tryd.prog.godebug = none := by kernel_rfl
theorem laidOut : laidOutB Tryd.prog = true := by kernel_rfl

set_option maxRecDepth 100000 in
theorem lifted (os : Os) (started : os.Started) (H : Type) (enc : TypeId × Value → H) :
    ReturnsInHanded {} Tryd.checked os 3 .any (fun w args => (Rows.labelNamesSpec.pre enc Tryd.prog Tryd.f3 [] false w args ∧ laidMetH Tryd.prog [("charterhouse/ptr.sizes", Rows.laid_charterhouse_ptr_sizes)] w) ∧ sizedMet enc Tryd.prog Tryd.f3 (OpenSpec.ofChange Rows.labelNamesSpec) false w args)
      (Rows.labelNamesSpec.post enc Tryd.prog Tryd.f3 false true false false) := by
  refine returnsInHanded_of_change_and (C := Tryd.checked) (X := fun w _ => laidMetH Tryd.prog [("charterhouse/ptr.sizes", Rows.laid_charterhouse_ptr_sizes)] w) (fun _ _ _ hh h => h.of_heap hh) own started (by kernel_rfl) Tryd.func3
    (ChangeSpec.witness_shaped (enc := enc) (C := Tryd.checked) (os := os) (X := fun w _ => laidMetH Tryd.prog [("charterhouse/ptr.sizes", Rows.laid_charterhouse_ptr_sizes)] w) false (World.doorLaid Tryd.prog 400 os) #[] 8 rfl (World.shaped_of_RefB (by kernel_rfl) (by kernel_rfl)) (by kernel_rfl) (by kernel_rfl) (by kernel_rfl) (door_met os _)) ?_
  intro W base args ds gs before hval0 hW _ _ hL _
  have hval : ∀ (j : Nat) t v, Tryd.f3.params[j]? = some t → args[j]? = some v → Value.okWide Tryd.prog W .any base t v := hval0
  have hW' := hW
  obtain ⟨p, q, hA0, hV, rfl, hfz, hnd⟩ := hW
  have hA : DataW.TrodAll enc Tryd.prog W 0 (fun _ => true) true Tryd.f3.params.toList args.toList ds p := hA0
  rw [Tryd.params3] at hA hval
  obtain ⟨rfl, rfl, rfl⟩ := trodAll_none hA
  obtain ⟨rfl, rfl⟩ := trodVars_none hV
  clear hA0 hval0
  refine (labelNames_walk  W (szs_of_laid hL)).mono fun e W' ⟨he, bel⟩ => ?_
  subst he
  exact ⟨_, rfl, _, _, _, [], _, [], hW', trodAll_mk1 (shut_bool Tryd.underlying4 _), rfl, rfl, bel.frame _, fun h => by cases h⟩

theorem over : Rows.LabelNamesSaid :=
  OpenClaim.holds_of_wide 3 Tryd.f3 rfl rfl rfl rfl rfl rfl rfl ⟨rfl, rfl, rfl, rfl, rfl⟩ rfl rfl rfl rfl rfl (by kernel_rfl) Tryd.func3 (by kernel_rfl)
    (of_decide_eq_true (by kernel_rfl)) (by unfold Func.isWrapper; first | (rw [if_pos (by decide +kernel)]; kernel_rfl) | (rw [if_neg (by decide +kernel)]; exact ⟨rfl, rfl⟩))
    (fun os started H enc _ => lifted os started H enc)

/-- The statement. -/
theorem proved : Rows.LabelNamesCardSaid :=
  Claim7.holds_tied_plain_at .later [] [.data] true _ false
    over (fun _ h => by cases h) (by kernel_rfl) (fun _ h => by cases h) labelNames_row_tie rfl ⟨rfl, rfl⟩ (by kernel_rfl) rfl
    (fun f fn hf hfn => by
      obtain rfl : f = 3 := Option.some.inj ((show Tryd.prog.funcNamed "charterhouse/charterhouselaw11.LabelNames" = some 3 by kernel_rfl).symm.trans hf) |>.symm
      obtain rfl : fn = Tryd.f3 := (Option.some.inj (Tryd.func3.symm.trans hfn)).symm
      exact ⟨by kernel_rfl, fun j t ht => by
        rw [Tryd.params3] at ht
        simp at ht⟩)
    (by kernel_rfl)
end Go.Proofs.YtldnelimemjaiaaDoor.labelNames
