/-
  dev.laid, whatever disk it is handed, answers a disk that reads as it does, laid in one piece of new memory; nothing that was there is written.
-/
import Derived.Test.YtgpojnhhcobcbaaDevLaid
namespace Go.Proofs.Ytgpojnhhcobcbaa
open Go.RowKit Go.Shelf
set_option maxRecDepth 100000

theorem below_alloc2' (w : World) (o1 o2 : Obj) : Below w.heap.size w ((w.alloc o1).alloc o2) := ((Below.refl _ w).alloc (Nat.le_refl _) _).alloc (by simp) _
theorem blk3_0 (w : World) (t : TypeId) (cs : Array Value) (o2 o3 : Obj) : Blk (((w.alloc (.cells cs t)).alloc o2).alloc o3) w.heap.size t cs := ((Blk.new w t cs).alloc _).alloc _
theorem blk3_1 (w : World) (t : TypeId) (cs : Array Value) (o1 o3 : Obj) : Blk (((w.alloc o1).alloc (.cells cs t)).alloc o3) (w.heap.size + 1) t cs := by
  have := (Blk.new (w.alloc o1) t cs).alloc o3
  rwa [World.size_alloc] at this
theorem blk3_2 (w : World) (t : TypeId) (cs : Array Value) (o1 o2 : Obj) : Blk (((w.alloc o1).alloc o2).alloc (.cells cs t)) (w.heap.size + 1 + 1) t cs := by
  have := Blk.new ((w.alloc o1).alloc o2) t cs
  rwa [World.size_alloc, World.size_alloc] at this
/-- What laid answers: the disk, in one new piece. -/
def LaidPost (D : DkL) (w : World) (e : Ending) (w' : World) : Prop := ∃ x', e = .returned (dval x' D) ∧ Laid w' w.heap.size x' D ∧ Below w.heap.size w w'
set_option maxHeartbeats 4000000 in
theorem dLaid_any (x : DAt) (D : DkL) (w : World) (h : Dsk w w.heap.size x D) (hf : Fits D) :
    Calls Try.prog 38 #[.slice x.ba D.1.length x.bc, .slice x.wa D.2.length x.wc] w (LaidPost D w) := by
  have hmx : Try.prog.follows Departure.mixedOrders = true := by kernel_rfl
  have hby := dBytesOf_any x D
  obtain ⟨f1, f2, f3⟩ := hf
  obtain ⟨n, hn⟩ : ∃ n, D.1.length = n := ⟨_, rfl⟩
  obtain ⟨m, hm⟩ : ∃ m, D.2.length = m := ⟨_, rfl⟩
  obtain ⟨T, hT⟩ : ∃ T, sumD D = T := ⟨_, rfl⟩
  obtain ⟨ba, bc, wa, wc⟩ := x
  rw [hn, hm, hT] at hby
  rw [hn] at f1
  rw [hm] at f2
  rw [hT] at f3
  simp only [hn, hm]
  have mk1 := make_bytes T f3
  have mk2 := make_rows n f1
  have mk3 := make_writes m f2
  have n0 : (0 : Int) ≤ n := by omega
  have n1 : (n : Int) ≤ 1000000 := by omega
  have m0 : (0 : Int) ≤ m := by omega
  have m1 : (m : Int) ≤ 1000000 := by omega
  obtain ⟨B0, hB0⟩ : ∃ B0, w.heap.size + 1 = B0 := ⟨_, rfl⟩
  have b0 := (Below.refl w.heap.size w).alloc (Nat.le_refl _) (.cells #[.slice none 0 0, .slice none 0 0] 25)
  have z0 := World.size_alloc w (.cells #[.slice none 0 0, .slice none 0 0] 25)
  have x0 := Blk.new w 25 #[.slice none 0 0, .slice none 0 0]
  obtain ⟨w0, hw0⟩ : ∃ w0, w.alloc (.cells #[.slice none 0 0, .slice none 0 0] 25) = w0 := ⟨_, rfl⟩
  rw [hw0] at b0 z0 x0
  have hd0 := h.step b0
  have hy0 := hby w0 hd0 ⟨by rw [hn]; exact f1, by rw [hm]; exact f2, by rw [hT]; exact f3⟩
  have HY := Lib.hid hy0
  have HD := Lib.hid hd0
  have HB := Lib.hid b0
  have HZ := Lib.hid z0
  have HX := Lib.hid x0
  have HN := Lib.hid hn
  have HM := Lib.hid hm
  have HT := Lib.hid hT
  have HBB := Lib.hid hB0
  clear h hby hy0 hd0 b0 z0 x0 hn hm hT hB0
  go_enter Try.func38, Try.ntmps38
  go_wp2_with fail
  clear hw0
  refine HY.out.mono ?_
  rintro e w1 ⟨rfl, b1⟩
  have HB1 := Lib.hid b1
  clear b1 HY
  go_wp2_with fail
  obtain ⟨g, hg⟩ : ∃ g, w1.heap.size = g := ⟨_, rfl⟩
  have y1 := (Blk.new w1 5 (ar (List.replicate T 0))).alloc (.cells #[.slice (some ⟨w1.heap.size, 0, none⟩) T T] 30)
  have y2 := Blk.new (w1.alloc (.cells (ar (List.replicate T 0)) 5)) 30 #[.slice (some ⟨w1.heap.size, 0, none⟩) T T]
  have hz1 : B0 ≤ w1.heap.size := by have := HB1.out.size; have := HZ.out; have := HBB.out; omega
  have bd : Below B0 w0 ((w1.alloc (.cells (ar (List.replicate T 0)) 5)).alloc (.cells #[.slice (some ⟨w1.heap.size, 0, none⟩) T T] 30)) := by
    have hb := HB1.out
    rw [show w0.heap.size = B0 by have := HZ.out; have := HBB.out; omega] at hb
    exact (hb.alloc hz1 _).alloc (by rw [World.size_alloc]; omega) _
  have hzd : ((w1.alloc (.cells (ar (List.replicate T 0)) 5)).alloc (.cells #[.slice (some ⟨w1.heap.size, 0, none⟩) T T] 30)).heap.size = w1.heap.size + 2 := by simp
  rw [World.size_alloc] at y2
  rw [hg] at y1 y2 bd hzd hz1 ⊢
  obtain ⟨w2, hw2⟩ : ∃ w2, (w1.alloc (.cells (ar (List.replicate T 0)) 5)).alloc (.cells #[.slice (some ⟨g, 0, none⟩) T T] 30) = w2 := ⟨_, rfl⟩
  rw [hw2] at y1 y2 bd hzd ⊢
  have HY1 := Lib.hid y1
  have HY2 := Lib.hid y2
  have HBD := Lib.hid bd
  have HZD := Lib.hid hzd
  have HZ1 := Lib.hid hz1
  clear y1 y2 bd hzd hz1 hg hw2 HB1
  go_cut [7] from 17 to 23 (fun v wx => ∃ gd hb hw, v = .pointer (some ⟨gd, 0, none⟩) ∧ B0 ≤ hb ∧ B0 ≤ hw ∧ hb ≠ g + 1 ∧ B0 ≤ gd ∧
    Blk wx gd 25 #[.slice (some ⟨hb, 0, none⟩) n n, .slice (some ⟨hw, 0, none⟩) m m] ∧ Blk wx hb 30 (Array.replicate n (.slice none 0 0)) ∧ Blk wx hw 55 (noWrites m) ∧
    Blk wx g 5 (ar (List.replicate T 0)) ∧ Blk wx (g + 1) 30 #[.slice (some ⟨g, 0, none⟩) T T] ∧ Below B0 w0 wx)
  case first =>
    obtain ⟨wd, hwd⟩ : ∃ wd, w2.drew = wd := ⟨_, rfl⟩
    have y1 : Blk wd g 5 (ar (List.replicate T 0)) := by rw [← hwd]; exact HY1.out.drew
    have y2 : Blk wd (g + 1) 30 #[.slice (some ⟨g, 0, none⟩) T T] := by rw [← hwd]; exact HY2.out.drew
    have bd : Below B0 w0 wd := by rw [← hwd]; exact HBD.out.drew
    have hzd : wd.heap.size = g + 2 := by rw [← hwd]; exact HZD.out
    have HY1 := Lib.hid y1
    have HY2 := Lib.hid y2
    have HBD := Lib.hid bd
    have HZD := Lib.hid hzd
    clear y1 y2 bd hzd
    refine wpI_start (Below wd.heap.size wd) [0, 1, 3, 4, 2, 5, 7, 6, 8] hmx rfl hwd ?_
    clear hwd
    have hS : Below wd.heap.size wd wd := Below.refl _ _
    iterate 4 (
      refine wpI_read (v := ?_) hS rfl (by kernel_rfl) (by kernel_rfl) (by kernel_rfl) (fun _ _ _ h => h) (.inl ⟨by rfl, ?_⟩) ?_
      rotate_left
      · intro X hX
        go_simp
        with_reducible rfl
      try simp only [Act.put, List.setIfInBounds_toArray, List.set_cons_zero, List.set_cons_succ])
    refine wpI_fork3 rfl rfl rfl (by kernel_rfl) (fun K hK => ?_) (fun K hK => ?_) (fun K hK => ?_)
    all_goals
      go_simp
      refine hK _ _ (hS.alloc (Nat.le_refl _) _) ?_
      clear hK K
      try simp only [Act.put, List.setIfInBounds_toArray, List.set_cons_zero, List.set_cons_succ]
      refine wpI_fork rfl rfl (by kernel_rfl) (fun K hK => ?_) (fun K hK => ?_)
    all_goals
      go_simp
      refine hK _ _ (below_alloc2' _ _ _) ?_
      clear hK K
      try simp only [Act.put, List.setIfInBounds_toArray, List.set_cons_zero, List.set_cons_succ]
    all_goals
      first
        | (refine wpI_turn [6, 7, 8] rfl ?_
           refine wpI_read (v := ?_) (below_alloc2' _ _ _) rfl (by kernel_rfl) (by kernel_rfl) (by kernel_rfl) (fun _ _ _ h => h) (.inl ⟨by rfl, ?_⟩) ?_
           rotate_left
           · intro X hX
             go_simp
             with_reducible rfl
           try simp only [Act.put, List.setIfInBounds_toArray, List.set_cons_zero, List.set_cons_succ]
           refine wpI_lone rfl (by kernel_rfl) (fun K hK => ?_)
           go_simp
           refine hK _ _ (below_alloc3' _ _ _ _) ?_
           clear hK K
           try simp only [Act.put, List.setIfInBounds_toArray, List.set_cons_zero, List.set_cons_succ])
        | (refine wpI_lone rfl (by kernel_rfl) (fun K hK => ?_)
           go_simp
           refine hK _ _ (below_alloc3' _ _ _ _) ?_
           clear hK K
           try simp only [Act.put, List.setIfInBounds_toArray, List.set_cons_zero, List.set_cons_succ]
           refine wpI_read (v := ?_) (below_alloc3' _ _ _ _) rfl (by kernel_rfl) (by kernel_rfl) (by kernel_rfl) (fun _ _ _ h => h) (.inl ⟨by rfl, ?_⟩) ?_
           rotate_left
           · intro X hX
             go_simp
             with_reducible rfl
           try simp only [Act.put, List.setIfInBounds_toArray, List.set_cons_zero, List.set_cons_succ])
      refine wpI_lone rfl (by kernel_rfl) (fun K hK => ?_)
      go_simp
      refine hK _ _ (below_alloc3' _ _ _ _) ?_
      clear hK K
      try simp only [Act.put, List.setIfInBounds_toArray, List.set_cons_zero, List.set_cons_succ]
      refine wpI_done (by kernel_rfl) ?_
      go_wp2_with fail
      go_meet
      have hz := HZD.out
      have hz1 := HZ1.out
      refine ⟨_, _, _, rfl, ?_, ?_, ?_, ?_, (by first | exact blk3_0 _ _ _ _ _ | exact blk3_1 _ _ _ _ _ | exact blk3_2 _ _ _ _ _), (by first | exact blk3_0 _ _ _ _ _ | exact blk3_1 _ _ _ _ _ | exact blk3_2 _ _ _ _ _), (by first | exact blk3_0 _ _ _ _ _ | exact blk3_1 _ _ _ _ _ | exact blk3_2 _ _ _ _ _), ((HY1.out.alloc _).alloc _).alloc _, ((HY2.out.alloc _).alloc _).alloc _, HBD.out.trans ((below_alloc3' _ _ _ _).mono (by omega))⟩
      all_goals omega
  case rest =>
    obtain ⟨gd, hb, hw, rfl, k1, k2, k3, k4, x1, x2, x3, x4, x5, bx⟩ := hcut
    have hbg : B0 ≤ g := HZ1.out
    have hI : LaidI g gd hb hw D T 0 wc := ⟨by rw [HN.out, HM.out]; exact x1, by rw [roomP_zero]; exact x4, ⟨_, x2, by simp [HN.out], fun i _ h => absurd h (Nat.not_lt_zero _)⟩, _, x3, by rw [noWrites_size, HM.out], fun i _ h => absurd h (Nat.not_lt_zero _)⟩
    have hR : RoomI g (g + 1) T (startP (pieces D) 0) wc := ⟨0, x5, fun _ => rfl⟩
    have HI := Lib.hid hI
    have HR := Lib.hid hR
    have HBx := Lib.hid bx
    clear hI hR bx x1 x2 x3 x4 x5 HY1 HY2 HBD HZD mk1 mk2 mk3
    go_wp2_with fail
    go_loopw [26] (fun i wr => ∃ k : Nat, k ≤ n ∧ i = .int .i64 k ∧ Hid (LaidI g gd hb hw D T k wr) ∧ Hid (RoomI g (g + 1) T (startP (pieces D) k) wr) ∧ Hid (Below B0 w0 wr)) (fun i _ => n - (intOf i).toNat)
    case atStart => exact ⟨0, Nat.zero_le _, rfl, HI, HR, HBx⟩
    case round =>
      obtain ⟨k, hk, rfl, HIr, HRr, HBr⟩ := hrel
      clear HI HR HBx
      have i0 : (0 : Int) ≤ k := by omega
      by_cases hlt : k < n
      · have i1 : (k : Int) < n := by omega
        obtain ⟨b, off, A, l, c, s, hbe, hlb, hl, hc, hA⟩ := HD.out.1.at_ (show k < D.1.length by rw [HN.out]; exact hlt)
        obtain rfl : ba = some ⟨b, off, none⟩ := hbe
        have hz : w0.heap.size = B0 := by have := HZ.out; have := HBB.out; omega
        rw [hz] at hlb hA
        have c1 := (HBr.out.cell (p := ⟨b, off + k, none⟩) hlb).trans hc
        obtain ⟨o, hr, ho⟩ := HRr.out
        have hls := hA.1
        subst hls
        have hkP : k < (pieces D).length := by rw [pieces_length, HN.out, HM.out]; omega
        have hps : (pieces D).getD k [] = s := by rw [pieces_left (by rw [HN.out]; exact hlt)]; exact hl
        have hst := startP_succ hkP
        have hT2 : startP (pieces D) (k + 1) ≤ T := by
          rw [← HT.out, ← startP_sumD, HN.out, HM.out]
          exact startP_mono (by omega)
        rw [hps] at hst
        obtain ⟨wd, hwd⟩ : ∃ wd, wr.drew = wd := ⟨_, rfl⟩
        have hId : LaidI g gd hb hw D T k wd := by rw [← hwd]; exact HIr.out
        have hrd : Blk wd (g + 1) 30 #[.slice (some ⟨g, o, none⟩) (T - startP (pieces D) k) (T - startP (pieces D) k)] := by rw [← hwd]; exact hr
        have hBd : Below B0 w0 wd := by rw [← hwd]; exact HBr.out.drew
        have hcp := dCut_any B0 A s.length c (g + 1) g o (T - startP (pieces D) k) (roomP (pieces D) T k) s wd (hA.below hBd) (by omega) (by omega) hrd hId.2.1 (by omega) (fun hh => by rw [ho hh, roomP_length (by omega)]; omega)
        have hfin := fun e w' (hcc : CutPost (g + 1) g o (T - startP (pieces D) k) s.length (roomP (pieces D) T k) s wd e w') => hId.block (by rw [HN.out]; exact hlt) hps hT2 ho (by omega) hBd hbg (by omega) k1 hrd hcc
        have hxd := hId.1
        rw [HN.out, HM.out] at hfin hxd
        have HCP := Lib.hid hcp
        have HFIN := Lib.hid hfin
        have HXD := Lib.hid hxd
        clear hcp hfin hId hrd hBd hps hst hT2 hkP ho hr hc hA hl hz hxd HIr HRr HBr
        go_wp2_with fail
        refine wpI_start (fun X => Blk X gd 25 #[.slice (some ⟨hb, 0, none⟩) n n, .slice (some ⟨hw, 0, none⟩) m m]) [0, 1, 2, 3, 4, 5, 6, 7] hmx rfl hwd ?_
        clear hwd
        iterate 5 (
          refine wpI_read (v := ?_) HXD.out rfl (by kernel_rfl) (by kernel_rfl) (by kernel_rfl) (fun _ _ _ h => h) (.inl ⟨by rfl, ?_⟩) ?_
          rotate_left
          · intro X hX
            have hXa := hX.cell 0
            clear hX
            go_simp
            with_reducible rfl
          try simp only [Act.put, List.setIfInBounds_toArray, List.set_cons_zero, List.set_cons_succ])
        refine wpI_lone rfl (by kernel_rfl) (fun K hK => ?_)
        go_simp
        refine HCP.out.mono ?_
        intro e w3 hcc
        obtain ⟨hx3, ⟨cb, hx4, hx5⟩, hI4, hR4, hB4⟩ := HFIN.out e w3 hcc
        obtain rfl := hcc.1
        refine hK _ _ hx3 ?_
        clear hK K
        try simp only [Act.put, List.setIfInBounds_toArray, List.set_cons_zero, List.set_cons_succ]
        refine wpI_read (v := ?_) hx3 rfl (by kernel_rfl) (by kernel_rfl) (by kernel_rfl) (fun _ _ _ h => h) (.inl ⟨by rfl, ?_⟩) ?_
        rotate_left
        · intro X hX
          clear hX
          go_simp
          with_reducible rfl
        try simp only [Act.put, List.setIfInBounds_toArray, List.set_cons_zero, List.set_cons_succ]
        have hc3 : ∃ u, w3.cell? ⟨hb, k, none⟩ = some u := ⟨_, by rw [hx4.cell]; exact Array.getElem?_eq_getElem (by omega)⟩
        obtain ⟨u3, hu3⟩ := hc3
        have hf3 := hx4.frozen k
        have HX4 := Lib.hid hI4
        have HR4 := Lib.hid hR4
        have HB4 := Lib.hid hB4
        have HX3 := Lib.hid hx3
        clear hI4 hR4 hB4 hx3 hx4 hx5 hcc HFIN HCP
        refine wpI_lone rfl (by kernel_rfl) (fun K hK => ?_)
        go_simp
        refine hK _ _ (by have h := HX4.out.1; rw [HN.out, HM.out] at h; exact h) ?_
        clear hK K
        try simp only [Act.put, List.setIfInBounds_toArray, List.set_cons_zero, List.set_cons_succ]
        refine wpI_done (by kernel_rfl) ?_
        go_wp2_with fail
        go_roundw
        case rel => exact ⟨k + 1, by omega, by go_num, HX4, HR4, HB4⟩
        case measure => simp [intOf]; omega
      · obtain rfl : k = n := by omega
        go_wp2_with fail
        go_loopw [41] (fun i wr => ∃ j : Nat, j ≤ m ∧ i = .int .i64 j ∧ Hid (LaidI g gd hb hw D T (k + j) wr) ∧ Hid (RoomI g (g + 1) T (startP (pieces D) (k + j)) wr) ∧ Hid (Below B0 w0 wr)) (fun i _ => m - (intOf i).toNat)
        case atStart => exact ⟨0, Nat.zero_le _, rfl, HIr, HRr, HBr⟩
        case round =>
          obtain ⟨j, hj, rfl, HI, HR, HB'⟩ := hrel
          clear HIr HRr HBr
          have j0 : (0 : Int) ≤ j := by omega
          by_cases hlt : j < m
          · have j1 : (j : Int) < m := by omega
            obtain ⟨b, off, p, A, l, c, s, hbe, hlb, hl, _, hc, hd, hA⟩ := HD.out.2.at_ (show j < D.2.length by rw [HM.out]; exact hlt)
            obtain rfl : wa = some ⟨b, off, none⟩ := hbe
            have hz : w0.heap.size = B0 := by have := HZ.out; have := HBB.out; omega
            rw [hz] at hlb hA
            have c1 := (HB'.out.cell (p := ⟨b, off + j * 2, none⟩) hlb).trans hc
            have c2 := (HB'.out.cell (p := ⟨b, off + j * 2 + 1, none⟩) hlb).trans hd
            obtain ⟨o, hr, ho⟩ := HR.out
            have hls := hA.1
            subst hls
            have hkP : k + j < (pieces D).length := by rw [pieces_length, HN.out, HM.out]; omega
            have hps : (pieces D).getD (k + j) [] = s := by rw [← HN.out, pieces_right (by rw [HM.out]; exact hlt), hl]
            have hst := startP_succ hkP
            have hT2 : startP (pieces D) (k + j + 1) ≤ T := by
              rw [← HT.out, ← startP_sumD, HN.out, HM.out]
              exact startP_mono (by omega)
            rw [hps] at hst
            obtain ⟨gt, hgt⟩ : ∃ gt, wr.heap.size = gt := ⟨_, rfl⟩
            obtain ⟨wd, hwd⟩ : ∃ wd, (wr.alloc (.cells #[.int .i64 p, .slice A s.length c] 55)).drew = wd := ⟨_, rfl⟩
            have hBa : Below wr.heap.size wr wd := by rw [← hwd]; exact ((Below.refl _ wr).alloc (Nat.le_refl _) _).drew
            have hId : LaidI g gd hb hw D T (k + j) wd := by
              obtain ⟨y1, y2, ⟨cb, y3, y4⟩, cw, y5, y6⟩ := HI.out
              exact ⟨y1.below hBa y1.lt, y2.below hBa y2.lt, ⟨cb, y3.below hBa y3.lt, y4⟩, cw, y5.below hBa y5.lt, y6⟩
            have hrd := hr.below hBa hr.lt
            have hBd : Below B0 w0 wd := HB'.out.trans (hBa.mono (by have := hr.lt; omega))
            have hxt : Blk wd gt 55 #[.int .i64 p, .slice A s.length c] := by rw [← hwd, ← hgt]; exact (Blk.new wr _ _).drew
            have hcp := dCut_any B0 A s.length c (g + 1) g o (T - startP (pieces D) (k + j)) (roomP (pieces D) T (k + j)) s wd (hA.below hBd) (by omega) (by omega) hrd hId.2.1 (by omega) (fun hh => by rw [ho hh, roomP_length (by omega)]; omega)
            have hfin := fun e w' (hcc : CutPost (g + 1) g o (T - startP (pieces D) (k + j)) s.length (roomP (pieces D) T (k + j)) s wd e w') => hId.write (by rw [HN.out]) (by rw [HM.out]; exact hlt) hl hT2 ho (by omega) hBd hbg (by omega) k2 hrd hcc
            have hgt1 : gt ≠ g + 1 := by have := hr.lt; omega
            have hgt2 : gt ≠ g := by have := hr.lt; omega
            have hgt3 : gt ≠ hw := by have := HI.out.2.2.2; obtain ⟨cw, y5, _⟩ := this; have := y5.lt; omega
            have hxd := hId.1
            rw [HN.out, HM.out] at hfin hxd
            have HCP := Lib.hid hcp
            have HFIN := Lib.hid hfin
            have HXD := Lib.hid hxd
            have HXT := Lib.hid hxt
            have HST := Lib.hid (And.intro hgt1 (And.intro hgt2 hgt3))
            clear hcp hfin hId hrd hBd hps hst hT2 hkP ho hr hc hd hA hl hz hxd hxt HI HR HB' hBa hgt1 hgt2 hgt3
            go_wp2_with fail
            clear hgt
            refine wpI_start (fun X => Blk X gd 25 #[.slice (some ⟨hb, 0, none⟩) k k, .slice (some ⟨hw, 0, none⟩) m m] ∧ Blk X gt 55 #[.int .i64 p, .slice A s.length c]) [0, 1, 2, 3, 4, 5, 6, 7, 8, 9, 10, 11] hmx rfl hwd ?_
            clear hwd
            iterate 8 (
              refine wpI_read (v := ?_) ⟨HXD.out, HXT.out⟩ rfl (by kernel_rfl) (by kernel_rfl) (by kernel_rfl) (fun _ _ _ h => h) (.inl ⟨by rfl, ?_⟩) ?_
              rotate_left
              · intro X hX
                have hXa := hX.1.cell 1
                have hXb := hX.2.cell 0
                have hXc := hX.2.cell 1
                clear hX
                go_simp
                with_reducible rfl
              try simp only [Act.put, List.setIfInBounds_toArray, List.set_cons_zero, List.set_cons_succ])
            refine wpI_lone rfl (by kernel_rfl) (fun K hK => ?_)
            go_simp
            refine HCP.out.mono ?_
            intro e w3 hcc
            obtain ⟨hx3, ⟨cb, hx4, hx5⟩, hI4, hR4, hB4⟩ := HFIN.out e w3 hcc
            have hxt3 : Blk w3 gt 55 #[.int .i64 p, .slice A s.length c] := by
              obtain ⟨_, _, _, _, w9, g1, g2⟩ := hcc
              exact (HXT.out.grown g1 (fun e => HST.out.1 (Option.some.inj e))).grown g2 (fun e => HST.out.2.1 (Option.some.inj e))
            obtain rfl := hcc.1
            refine hK _ _ ⟨hx3, hxt3⟩ ?_
            clear hK K
            try simp only [Act.put, List.setIfInBounds_toArray, List.set_cons_zero, List.set_cons_succ]
            iterate 2 (
              refine wpI_read (v := ?_) ⟨hx3, hxt3⟩ rfl (by kernel_rfl) (by kernel_rfl) (by kernel_rfl) (fun _ _ _ h => h) (.inl ⟨by rfl, ?_⟩) ?_
              rotate_left
              · intro X hX
                clear hX
                go_simp
                with_reducible rfl
              try simp only [Act.put, List.setIfInBounds_toArray, List.set_cons_zero, List.set_cons_succ])
            obtain ⟨u3, hu3⟩ : ∃ u, w3.cell? ⟨hw, j * 2, none⟩ = some u := ⟨_, by rw [hx4.cell]; exact Array.getElem?_eq_getElem (by omega)⟩
            obtain ⟨u4, hu4⟩ : ∃ u, w3.cell? ⟨hw, j * 2 + 1, none⟩ = some u := ⟨_, by rw [hx4.cell]; exact Array.getElem?_eq_getElem (by omega)⟩
            have hf3 := hx4.frozen (j * 2)
            have hf4 := hx4.frozen (j * 2 + 1)
            have HX4 := Lib.hid hI4
            have HR4 := Lib.hid hR4
            have HB4 := Lib.hid hB4
            have HX5 := Lib.hid ((hxt3.far (p := ⟨hw, j * 2, none⟩) HST.out.2.2 (.int .i64 p)).far (p := ⟨hw, j * 2 + 1, none⟩) HST.out.2.2 (.slice (some ⟨g, o, none⟩) s.length s.length))
            clear hI4 hR4 hB4 hx3 hx4 hx5 hcc HFIN HCP hxt3
            refine wpI_lone rfl (by kernel_rfl) (fun K hK => ?_)
            go_simp
            refine hK _ _ ⟨by have h := HX4.out.1; rw [HN.out, HM.out] at h; exact h, HX5.out⟩ ?_
            clear hK K
            try simp only [Act.put, List.setIfInBounds_toArray, List.set_cons_zero, List.set_cons_succ]
            refine wpI_done (by kernel_rfl) ?_
            go_wp2_with fail
            go_roundw
            case rel => exact ⟨j + 1, by omega, by go_num, HX4, HR4, HB4⟩
            case measure => simp [intOf]; omega
          · obtain rfl : j = m := by omega
            obtain ⟨y1, y2, ⟨cb, y3, y4, y5⟩, cw, y6, y7, y8⟩ := HI.out
            rw [HN.out, HM.out] at y1
            rw [HN.out] at y4 y5 y8
            rw [HM.out] at y7 y8
            have hgr : w.heap.size < B0 := by have := HBB.out; omega
            have xr := HX.out.below HB'.out hgr
            have c0 := y1.cell 0
            have c1 := y1.cell 1
            have d0 := xr.cell 0
            have d1 := xr.cell 1
            have hf := fun i => xr.frozen i
            have hwf : ∀ i, i < D.2.length → (Lit.int .i64 (wr_ D.2 i).1).wf = true := fun i hi => by
              obtain ⟨_, _, p, _, _, _, _, _, _, hp, hwf, _⟩ := HD.out.2.at_ hi
              rw [hp]
              exact hwf
            have hbw : Below w.heap.size w wr := HB.out.trans (HB'.out.mono (by omega))
            have hfin : Laid ((wr.setCell ⟨w.heap.size, 0, none⟩ (.slice (some ⟨hb, 0, none⟩) k k)).setCell ⟨w.heap.size, 1, none⟩ (.slice (some ⟨hw, 0, none⟩) j j)) w.heap.size ⟨some ⟨hb, 0, none⟩, k, some ⟨hw, 0, none⟩, j⟩ D := by
              refine ⟨g, hb, hw, by rw [HN.out, HM.out], by omega, by omega, by omega, by rw [HN.out]; exact f1, by rw [HM.out]; exact f2, by rw [HT.out]; exact f3, hwf, ?_, ⟨cb, ?_, by rw [HN.out]; exact y4, fun i hi => y5 i (by rw [← HN.out]; exact hi) (by rw [HN.out] at hi; omega)⟩, cw, ?_, by rw [HM.out]; exact y7, fun i hi => ?_⟩
              · rw [HN.out, HM.out, HT.out]
                exact (y2.far (by simp; omega) _).far (by simp; omega) _
              · exact (y3.far (by simp; omega) _).far (by simp; omega) _
              · exact (y6.far (by simp; omega) _).far (by simp; omega) _
              · rw [HN.out]
                exact y8 i (by rw [← HM.out]; exact hi) (by rw [HM.out] at hi; omega)
            have HFIN := Lib.hid hfin
            have HBF := Lib.hid ((hbw.setCell (p := ⟨w.heap.size, 0, none⟩) (Nat.le_refl _) (.slice (some ⟨hb, 0, none⟩) k k)).setCell (p := ⟨w.heap.size, 1, none⟩) (Nat.le_refl _) (.slice (some ⟨hw, 0, none⟩) j j))
            have hxr := (xr.set_ 0 (.slice (some ⟨hb, 0, none⟩) k k)).set_ 1 (.slice (some ⟨hw, 0, none⟩) j j)
            have HXR := Lib.hid hxr
            clear hfin hbw hwf y1 y2 y3 y4 y5 y6 y7 y8 xr hxr hgr HI HR HB'
            go_wp2_with fail
            obtain ⟨wf, hwf⟩ : ∃ wf, ((wr.setCell ⟨w.heap.size, 0, none⟩ (.slice (some ⟨hb, 0, none⟩) k k)).setCell ⟨w.heap.size, 1, none⟩ (.slice (some ⟨hw, 0, none⟩) j j)) = wf := ⟨_, rfl⟩
            rw [hwf] at HFIN HBF HXR ⊢
            clear hwf c0 c1 d0 d1 hf
            have e0 := HXR.out.cell 0
            have e1 := HXR.out.cell 1
            refine bodyPost_ret (v := .agg #[.slice (some ⟨hb, 0, none⟩) k k, .slice (some ⟨hw, 0, none⟩) j j]) (by simp [results, Try.f38, go_sem, e0, e1]) rfl ?_
            refine ⟨⟨some ⟨hb, 0, none⟩, k, some ⟨hw, 0, none⟩, j⟩, ?_, HFIN.out, HBF.out⟩
            rw [dval, HN.out, HM.out]
end Go.Proofs.Ytgpojnhhcobcbaa
