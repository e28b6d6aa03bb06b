/-
  The document's own Twin for layer 9.
-/
import Derived.Test.YtgpojnhhcobcbaaRdRows
import Derived.Test.YtgpojnhhcobcbaaDevTop
namespace Go.Proofs.Ytgpojnhhcobcbaa
open Go.RowKit Go.Shelf
set_option maxRecDepth 100000

/-- What Twin answers. -/
def TwinPost (D : DkL) (w : World) (e : Ending) (w' : World) : Prop := ∃ x', e = .returned (dval x' D) ∧ Tw w' w.heap.size x' D ∧ Below w.heap.size w w'
set_option maxHeartbeats 8000000 in
theorem rdTwin_any (x : DAt) (D : DkL) (w : World) (h : Dsk w w.heap.size x D) (hf : Fits D) : Calls Try.prog 22 #[dval x D] w (TwinPost D w) := by
  have hmx : Try.prog.follows Departure.mixedOrders = true := by kernel_rfl
  obtain ⟨w0, hw0, b0, z0, x0, x1⟩ := two_boxes w (.slice x.ba D.1.length x.bc) (.slice x.wa D.2.length x.wc)
  have h0 := h.step b0
  obtain ⟨f1, f2, f3⟩ := hf
  obtain ⟨n, hn⟩ : ∃ n, D.1.length = n := ⟨_, rfl⟩
  obtain ⟨m, hm⟩ : ∃ m, D.2.length = m := ⟨_, rfl⟩
  obtain ⟨B, hB⟩ : ∃ B, w.heap.size = B := ⟨_, rfl⟩
  simp only [dval]
  rw [hn, hm] at x0 hw0
  rw [hn] at f1 ⊢
  rw [hm] at f2 ⊢
  rw [hB] at x0 x1 z0 b0
  have mk2 := make_rows n f1
  have mk3 := make_writes m f2
  have n0 : (0 : Int) ≤ n := by omega
  have n1 : (n : Int) ≤ 1000000 := by omega
  have m0 : (0 : Int) ≤ m := by omega
  have m1 : (m : Int) ≤ 1000000 := by omega
  have HX0 := Lib.hid x0
  have HX1 := Lib.hid x1
  have HB := Lib.hid b0
  have HZ := Lib.hid z0
  have HD := Lib.hid h0
  have HN := Lib.hid hn
  have HM := Lib.hid hm
  have HF3 := Lib.hid f3
  have HBB := Lib.hid hB
  clear h h0 x0 x1 b0 z0 f3 hn hm
  go_enter Try.func22, Try.ntmps22
  go_wp2_with fail
  clear hw0 hB
  go_cut [3] from 6 to 14 (fun v wx => ∃ gd hb hw, v = .pointer (some ⟨gd, 0, none⟩) ∧ B + 2 ≤ hb ∧ B + 2 ≤ hw ∧ B + 2 ≤ gd ∧
    Blk wx gd 25 #[.slice (some ⟨hb, 0, none⟩) n n, .slice (some ⟨hw, 0, none⟩) m m] ∧ Blk wx hb 30 (Array.replicate n (.slice none 0 0)) ∧ Blk wx hw 55 (noWrites m) ∧ Below (B + 2) w0 wx)
  case first =>
    obtain ⟨wd, hwd⟩ : ∃ wd, w0.drew = wd := ⟨_, rfl⟩
    have y0 : Blk wd B 25 #[.slice x.ba n x.bc, .slice x.wa m x.wc] := by rw [← hwd]; exact HX0.out.drew
    have bd : Below (B + 2) w0 wd := by rw [← hwd, ← HZ.out]; exact (Below.refl _ w0).drew
    have hzd : wd.heap.size = B + 2 := by rw [← hwd]; exact HZ.out
    have HBD := Lib.hid bd
    have HZD := Lib.hid hzd
    have HY := Lib.hid y0
    have hS : Below wd.heap.size wd wd := Below.refl _ _
    have C0 := fun X (hX : Below wd.heap.size wd X) => (hX.cell (p := ⟨B, 0, none⟩) (by show B < _; omega)).trans (y0.cell 0)
    have C1 := fun X (hX : Below wd.heap.size wd X) => (hX.cell (p := ⟨B, 1, none⟩) (by show B < _; omega)).trans (y0.cell 1)
    clear bd hzd y0
    refine wpI_start (Below wd.heap.size wd) [0, 1, 2, 4, 5, 6, 3, 7, 9, 8, 10] hmx rfl hwd ?_
    clear hwd
    iterate 6 (
      refine wpI_read (v := ?_) hS rfl (by kernel_rfl) (by kernel_rfl) (by kernel_rfl) (fun _ _ _ h => h) (.inl ⟨by rfl, ?_⟩) ?_
      rotate_left
      · intro X hX
        have hXa := C0 X hX
        have hXb := C1 X hX
        go_simp
        with_reducible rfl
      try simp only [Act.put, List.setIfInBounds_toArray, List.set_cons_zero, List.set_cons_succ])
    clear C0 C1
    refine wpI_fork3 rfl rfl rfl (by kernel_rfl) (fun K hK => ?_) (fun K hK => ?_) (fun K hK => ?_)
    all_goals
      go_simp
      refine hK _ _ (hS.alloc (Nat.le_refl _) _) ?_
      clear hK K
      try simp only [Act.put, List.setIfInBounds_toArray, List.set_cons_zero, List.set_cons_succ]
      refine wpI_fork rfl rfl (by kernel_rfl) (fun K hK => ?_) (fun K hK => ?_)
    all_goals
      go_simp
      refine hK _ _ (below_alloc2' _ _ _) ?_
      clear hK K
      try simp only [Act.put, List.setIfInBounds_toArray, List.set_cons_zero, List.set_cons_succ]
    all_goals
      first
        | (refine wpI_turn [8, 9, 10] rfl ?_
           refine wpI_read (v := ?_) (below_alloc2' _ _ _) rfl (by kernel_rfl) (by kernel_rfl) (by kernel_rfl) (fun _ _ _ h => h) (.inl ⟨by rfl, ?_⟩) ?_
           rotate_left
           · intro X hX
             go_simp
             with_reducible rfl
           try simp only [Act.put, List.setIfInBounds_toArray, List.set_cons_zero, List.set_cons_succ]
           refine wpI_lone rfl (by kernel_rfl) (fun K hK => ?_)
           go_simp
           refine hK _ _ (below_alloc3' _ _ _ _) ?_
           clear hK K
           try simp only [Act.put, List.setIfInBounds_toArray, List.set_cons_zero, List.set_cons_succ])
        | (refine wpI_lone rfl (by kernel_rfl) (fun K hK => ?_)
           go_simp
           refine hK _ _ (below_alloc3' _ _ _ _) ?_
           clear hK K
           try simp only [Act.put, List.setIfInBounds_toArray, List.set_cons_zero, List.set_cons_succ]
           refine wpI_read (v := ?_) (below_alloc3' _ _ _ _) rfl (by kernel_rfl) (by kernel_rfl) (by kernel_rfl) (fun _ _ _ h => h) (.inl ⟨by rfl, ?_⟩) ?_
           rotate_left
           · intro X hX
             go_simp
             with_reducible rfl
           try simp only [Act.put, List.setIfInBounds_toArray, List.set_cons_zero, List.set_cons_succ])
      refine wpI_lone rfl (by kernel_rfl) (fun K hK => ?_)
      go_simp
      refine hK _ _ (below_alloc3' _ _ _ _) ?_
      clear hK K
      try simp only [Act.put, List.setIfInBounds_toArray, List.set_cons_zero, List.set_cons_succ]
      refine wpI_done (by kernel_rfl) ?_
      go_wp2_with fail
      go_meet
      have hz := HZD.out
      refine ⟨_, _, _, rfl, ?_, ?_, ?_, (by first | exact blk3_0 _ _ _ _ _ | exact blk3_1 _ _ _ _ _ | exact blk3_2 _ _ _ _ _), (by first | exact blk3_0 _ _ _ _ _ | exact blk3_1 _ _ _ _ _ | exact blk3_2 _ _ _ _ _), (by first | exact blk3_0 _ _ _ _ _ | exact blk3_1 _ _ _ _ _ | exact blk3_2 _ _ _ _ _), HBD.out.trans ((below_alloc3' _ _ _ _).mono (by omega))⟩
      all_goals omega
  case rest =>
    obtain ⟨gd, hb, hw, rfl, k1, k2, k3, y1, y2, y3, bx⟩ := hcut
    have hI : TwI (B + 2) hb hw D 0 wc := ⟨fun _ => undef, _, _, y2, by simp [HN.out], y3, by rw [noWrites_size, HM.out], fun i hi => by rw [done_no (Nat.not_lt_zero _)]; simp [← HN.out, hi], fun j hj => ⟨by rw [done_no (Nat.not_lt_zero _)]; exact noWrites_data m j (by rw [← HM.out]; exact hj), fun h => absurd h (Nat.not_lt_zero _)⟩, fun i h => absurd h (Nat.not_lt_zero _), fun i j _ h => absurd h (Nat.not_lt_zero _)⟩
    have HI := Lib.hid hI
    have HG := Lib.hid y1
    have HBx := Lib.hid bx
    clear hI y1 y2 y3 bx mk2 mk3
    go_wp2_with fail
    go_loopw [4] (fun i wr => ∃ k : Nat, k ≤ n ∧ i = .int .i64 k ∧ Hid (TwI (B + 2) hb hw D k wr) ∧ Hid (Blk wr gd 25 #[.slice (some ⟨hb, 0, none⟩) n n, .slice (some ⟨hw, 0, none⟩) m m]) ∧ Hid (Below (B + 2) w0 wr)) (fun i _ => n - (intOf i).toNat)
    case atStart => exact ⟨0, Nat.zero_le _, rfl, HI, HG, HBx⟩
    case round =>
      obtain ⟨k, hk, rfl, HIr, HGr, HBr⟩ := hrel
      clear HI HG HBx
      have i0 : (0 : Int) ≤ k := by omega
      have hz := HZ.out
      have x0r := HX0.out.below HBr.out (by omega)
      have r0 := x0r.cell 0
      have r1 := x0r.cell 1
      by_cases hlt : k < n
      · have i1 : (k : Int) < n := by omega
        obtain ⟨b, off, A, l, c, s, hbe, hlb, hl, hc, hA⟩ := HD.out.1.at_ (show k < D.1.length by rw [HN.out]; exact hlt)
        obtain ⟨ba, bc, wa, wc'⟩ := x
        obtain rfl : ba = some ⟨b, off, none⟩ := hbe
        rw [hz] at hlb hA
        obtain ⟨wd, hwd⟩ : ∃ wd, wr.drew = wd := ⟨_, rfl⟩
        have bd : Below wr.heap.size wr wd := by rw [← hwd]; exact (Below.refl _ wr).drew
        have hId := HIr.out.below bd
        have hGd := HGr.out.below bd HGr.out.lt
        have hxd := x0r.below bd x0r.lt
        have hBd : Below (B + 2) w0 wd := by rw [← hwd]; exact HBr.out.drew
        have c1 := (hBd.cell (p := ⟨b, off + k, none⟩) hlb).trans hc
        have hAd := hA.below hBd
        have hcell : wd.cell? ⟨hb, k, none⟩ = some (.slice none 0 0) := by
          obtain ⟨vs, cb, cw, h1, h2, _, _, h5, _⟩ := hId
          rw [h1.cell, h5 k (by rw [HN.out]; exact hlt), done_no (Nat.lt_irrefl k)]
        have hszd : B + 2 ≤ wd.heap.size := by have := hBd.size; omega
        have hll : l ≤ 1000000000000 := by
          have e1 := sumB_mono D.1 (show k + 1 ≤ D.1.length by rw [HN.out]; omega)
          have e2 : sumB D.1 (k + 1) = sumB D.1 k + l := by rw [sumB, hl, hA.1]
          have e3 := HF3.out
          unfold sumD at e3
          omega
        have g0 := hGd.cell 0
        have d0 := hxd.cell 0
        have C0 := fun X (hX : Below wd.heap.size wd X) => (hX.cell (p := ⟨gd, 0, none⟩) hGd.lt).trans g0
        have C1 := fun X (hX : Below wd.heap.size wd X) => (hX.cell (p := ⟨B, 0, none⟩) (by show B < _; omega)).trans d0
        have C2 := fun X (hX : Below wd.heap.size wd X) => (hX.cell (p := ⟨hb, k, none⟩) (World.block_lt_of_cell? wd _ hcell)).trans hcell
        have C3 := fun X (hX : Below wd.heap.size wd X) => (hX.cell (p := ⟨b, off + k, none⟩) (by show b < _; omega)).trans c1
        have hS : Below wd.heap.size wd wd := Below.refl _ _
        have HId := Lib.hid hId
        have HGd := Lib.hid hGd
        have HBd := Lib.hid hBd
        have HAd := Lib.hid hAd
        have HL := Lib.hid (And.intro hl hA.1)
        have HSZ := Lib.hid hszd
        have HLL := Lib.hid hll
        clear hId hGd hxd hBd hAd hA hc hcell hl g0 d0 c1 HIr HGr HBr x0r bd hszd hll hz
        go_wp2_with fail
        clear r0 r1
        refine wpS_start [0, 1, 2, 3, 4, 5, 6, 7, 8, 9, 10, 11, 12, 13, 14, 15] hmx rfl hwd ?_
        clear hwd
        iterate 13 (
          refine wpS_read (v := ?_) rfl (by kernel_rfl) (by kernel_rfl) (by kernel_rfl) (fun _ _ _ h => h) (.inl ⟨by rfl, ?_⟩) ?_
          rotate_left
          · intro X hX
            have hXa := C0 X (hX _ hS)
            have hXb := C1 X (hX _ hS)
            have hXc := C2 X (hX _ hS)
            have hXd := C3 X (hX _ hS)
            clear hX
            go_simp
            with_reducible rfl
          try simp only [Act.put, List.setIfInBounds_toArray, List.set_cons_zero, List.set_cons_succ])
        clear C0 C1 C2 C3
        refine wpS_append_new rfl (by kernel_rfl) rfl (.tmp 29) (.tmp 34) rfl rfl _ A l c s rfl HAd.out (by have := HLL.out; omega) ?_
        intro v2 w2 ho2 b2
        obtain ⟨A2, c2, rfl⟩ := own_slice ho2
        have hfin := HId.out.block (v := .slice A2 l c2) (by rw [HN.out]; exact hlt) b2 (by rw [HL.out.1, HL.out.2]; exact ho2) HSZ.out
        have hGf := (HGd.out.below b2 HGd.out.lt)
        have hx2 : ∃ cb, Blk w2 hb 30 cb ∧ cb.size = n := by
          obtain ⟨vs, cb, cw, h1, h2, _⟩ := HId.out
          exact ⟨cb, h1.below b2 h1.lt, by rw [h2, HN.out]⟩
        obtain ⟨cb, hcb, hcs⟩ := hx2
        obtain ⟨u3, hu3⟩ : ∃ u, w2.cell? ⟨hb, k, none⟩ = some u := ⟨_, by rw [hcb.cell]; exact Array.getElem?_eq_getElem (by omega)⟩
        have hf3 := hcb.frozen k
        have hne : gd ≠ hb := hGf.ne hcb (by decide)
        have HFIN := Lib.hid hfin
        have HGF := Lib.hid (hGf.far (p := ⟨hb, k, none⟩) hne (.slice A2 l c2))
        have HBF := Lib.hid ((HBd.out.trans (b2.mono HSZ.out)).setCell (p := ⟨hb, k, none⟩) (by show B + 2 ≤ hb; omega) (.slice A2 l c2))
        clear hfin hGf hcb hcs hne b2 ho2 HId HGd HBd HAd hS
        try simp only [Act.put, List.setIfInBounds_toArray, List.set_cons_zero, List.set_cons_succ]
        refine wpS_read (v := ?_) rfl (by kernel_rfl) (by kernel_rfl) (by kernel_rfl) (fun _ _ _ h => h) (.inl ⟨by rfl, ?_⟩) ?_
        rotate_left
        · intro X hX
          clear hX
          go_simp
          with_reducible rfl
        try simp only [Act.put, List.setIfInBounds_toArray, List.set_cons_zero, List.set_cons_succ]
        refine wpS_last rfl (by kernel_rfl) (by kernel_rfl) (fun K hK => ?_)
        go_simp
        refine hK _ _ ?_
        clear hK K
        try simp only [Act.put, List.setIfInBounds_toArray, List.set_cons_zero, List.set_cons_succ]
        refine wpS_done (by kernel_rfl) ?_
        go_wp2_with fail
        go_roundw
        case rel => exact ⟨k + 1, by omega, by go_num, HFIN, HGF, HBF⟩
        case measure => simp [intOf]; omega
      · obtain rfl : k = n := by omega
        go_wp2_with fail
        clear r0 r1
        go_loopw [5] (fun i wr => ∃ j : Nat, j ≤ m ∧ i = .int .i64 j ∧ Hid (TwI (B + 2) hb hw D (k + j) wr) ∧ Hid (Blk wr gd 25 #[.slice (some ⟨hb, 0, none⟩) k k, .slice (some ⟨hw, 0, none⟩) m m]) ∧ Hid (Below (B + 2) w0 wr)) (fun i _ => m - (intOf i).toNat)
        case atStart => exact ⟨0, Nat.zero_le _, rfl, HIr, HGr, HBr⟩
        case round =>
          obtain ⟨j, hj, rfl, HI, HG, HBx⟩ := hrel
          clear HIr HGr HBr
          have j0 : (0 : Int) ≤ j := by omega
          have x0r := HX0.out.below HBx.out (by omega)
          have r0 := x0r.cell 0
          have r1 := x0r.cell 1
          by_cases hlt : j < m
          · have j1 : (j : Int) < m := by omega
            obtain ⟨b, off, p, A, l, c, s, hbe, hlb, hl, _, hc, hd, hA⟩ := HD.out.2.at_ (show j < D.2.length by rw [HM.out]; exact hlt)
            obtain ⟨ba, bc, wa, wc'⟩ := x
            obtain rfl : wa = some ⟨b, off, none⟩ := hbe
            rw [hz] at hlb hA
            -- its place
            obtain ⟨wd, hwd⟩ : ∃ wd, wr.drew = wd := ⟨_, rfl⟩
            have bd : Below wr.heap.size wr wd := by rw [← hwd]; exact (Below.refl _ wr).drew
            have hId := HI.out.below bd
            have hGd := HG.out.below bd HG.out.lt
            have hxd := x0r.below bd x0r.lt
            have hBd : Below (B + 2) w0 wd := by rw [← hwd]; exact HBx.out.drew
            have c1 := (hBd.cell (p := ⟨b, off + j * 2, none⟩) hlb).trans hc
            have hszd : B + 2 ≤ wd.heap.size := by have := hBd.size; omega
            have g1 := hGd.cell 1
            have d1 := hxd.cell 1
            have hcw : ∃ cw, Blk wd hw 55 cw ∧ cw.size = m * 2 := by
              obtain ⟨vs, cb, cw, _, _, h3, h4, _⟩ := hId
              exact ⟨cw, h3, by rw [h4, HM.out]⟩
            obtain ⟨cw, hcw1, hcw2⟩ := hcw
            obtain ⟨u3, hu3⟩ : ∃ u, wd.cell? ⟨hw, j * 2, none⟩ = some u := ⟨_, by rw [hcw1.cell]; exact Array.getElem?_eq_getElem (by omega)⟩
            have hf3 := hcw1.frozen (j * 2)
            have hne : gd ≠ hw := hGd.ne hcw1 (by decide)
            have hneB : B ≠ hw := by omega
            have hI3 := hId.at_ (j := j) (u := .int .i64 p) (by rw [HN.out]; exact Nat.le_refl _)
            have hG3 := hGd.far (p := ⟨hw, j * 2, none⟩) hne (.int .i64 p)
            have hB3 := hBd.setCell (p := ⟨hw, j * 2, none⟩) (by show B + 2 ≤ hw; omega) (.int .i64 p)
            have hat3 : (wd.setCell ⟨hw, j * 2, none⟩ (.int .i64 p)).cell? ⟨hw, j * 2, none⟩ = some (.int .i64 p) := by
              have := (hcw1.set_ (j * 2) (.int .i64 p)).cell (j * 2)
              rw [this, Array.getElem?_setIfInBounds, if_pos rfl, if_pos (by omega)]
            have HI3 := Lib.hid hI3
            have HG3 := Lib.hid hG3
            have HB3 := Lib.hid hB3
            have HAT := Lib.hid hat3
            have HL := Lib.hid (And.intro hl hA.1)
            have HAw := Lib.hid hA
            have HDD := Lib.hid hd
            clear hId hGd hxd hBd bd hcw1 hcw2 hne hneB hI3 hG3 hB3 hat3 hl hA hd HI HG HBx x0r
            go_wp2_with fail
            clear r0 r1
            have C0 := fun X (hX : Below wd.heap.size wd X) => (hX.cell (p := ⟨gd, 1, none⟩) (World.block_lt_of_cell? wd _ g1)).trans g1
            have C1 := fun X (hX : Below wd.heap.size wd X) => (hX.cell (p := ⟨B, 1, none⟩) (World.block_lt_of_cell? wd _ d1)).trans d1
            have C2 := fun X (hX : Below wd.heap.size wd X) => (hX.cell (p := ⟨b, off + j * 2, none⟩) (World.block_lt_of_cell? wd _ c1)).trans c1
            have hS : Below wd.heap.size wd wd := Below.refl _ _
            clear g1 d1 c1 hc hszd
            refine wpS_start [0, 1, 2, 3, 4, 5, 6, 7, 8, 9, 10, 11] hmx rfl hwd ?_
            clear hwd
            iterate 11 (
              refine wpS_read (v := ?_) rfl (by kernel_rfl) (by kernel_rfl) (by kernel_rfl) (fun _ _ _ h => h) (.inl ⟨by rfl, ?_⟩) ?_
              rotate_left
              · intro X hX
                have hXa := C0 X (hX _ hS)
                have hXb := C1 X (hX _ hS)
                have hXc := C2 X (hX _ hS)
                clear hX
                go_simp
                with_reducible rfl
              try simp only [Act.put, List.setIfInBounds_toArray, List.set_cons_zero, List.set_cons_succ])
            clear C0 C1 C2 hS
            refine wpS_last rfl (by kernel_rfl) (by kernel_rfl) (fun K hK => ?_)
            go_simp
            refine hK _ _ ?_
            clear hK K hu3 hf3
            try simp only [Act.put, List.setIfInBounds_toArray, List.set_cons_zero, List.set_cons_succ]
            refine wpS_done (by kernel_rfl) ?_
            obtain ⟨w3, hw3⟩ : ∃ w3, wd.setCell ⟨hw, j * 2, none⟩ (.int .i64 p) = w3 := ⟨_, rfl⟩
            rw [hw3] at HI3 HG3 HB3 HAT ⊢
            clear hw3 wd
            -- its data
            obtain ⟨hl, hA1⟩ := HL.out
            have hA := HAw.out
            have hcd := HDD.out
            have hws : (wr_ D.2 j) = (p, s) := hl
            obtain ⟨wd, hwd⟩ : ∃ wd, w3.drew = wd := ⟨_, rfl⟩
            have bd : Below w3.heap.size w3 wd := by rw [← hwd]; exact (Below.refl _ w3).drew
            have hId := HI3.out.below bd
            have hGd := HG3.out.below bd HG3.out.lt
            have hBd : Below (B + 2) w0 wd := by rw [← hwd]; exact HB3.out.drew
            have hxd := HX0.out.below hBd (by omega)
            have hAd := hA.below hBd
            have hszd : B + 2 ≤ wd.heap.size := by have := hBd.size; omega
            have c1 := (hBd.cell (p := ⟨b, off + j * 2 + 1, none⟩) hlb).trans hcd
            have hat : wd.cell? ⟨hw, j * 2, none⟩ = some (.int .i64 p) := (bd.cell (p := ⟨hw, j * 2, none⟩) (World.block_lt_of_cell? w3 _ HAT.out)).trans HAT.out
            have hcell : wd.cell? ⟨hw, j * 2 + 1, none⟩ = some (.slice none 0 0) := by
              obtain ⟨vs, cb, cw, h1, h2, h3, h4, h5, h6, _⟩ := hId
              rw [h3.cell, (h6 j (by rw [HM.out]; exact hlt)).1, done_no (by rw [HN.out]; exact Nat.lt_irrefl _)]
            have hll : l ≤ 1000000000000 := by
              have e1 := sumW_mono D.2 (show j + 1 ≤ D.2.length by rw [HM.out]; omega)
              have e2 : sumW D.2 (j + 1) = sumW D.2 j + l := by rw [sumW, hws, hA.1]
              have e3 := HF3.out
              unfold sumD at e3
              omega
            have g1 := hGd.cell 1
            have d1 := hxd.cell 1
            have C0 := fun X (hX : Below wd.heap.size wd X) => (hX.cell (p := ⟨gd, 1, none⟩) (World.block_lt_of_cell? wd _ g1)).trans g1
            have C1 := fun X (hX : Below wd.heap.size wd X) => (hX.cell (p := ⟨B, 1, none⟩) (World.block_lt_of_cell? wd _ d1)).trans d1
            have C2 := fun X (hX : Below wd.heap.size wd X) => (hX.cell (p := ⟨b, off + j * 2 + 1, none⟩) (World.block_lt_of_cell? wd _ c1)).trans c1
            have C3 := fun X (hX : Below wd.heap.size wd X) => (hX.cell (p := ⟨hw, j * 2 + 1, none⟩) (World.block_lt_of_cell? wd _ hcell)).trans hcell
            have hS : Below wd.heap.size wd wd := Below.refl _ _
            have HId := Lib.hid hId
            have HGd := Lib.hid hGd
            have HBd := Lib.hid hBd
            have HAd := Lib.hid hAd
            have HSZ := Lib.hid hszd
            have HLL := Lib.hid hll
            have HWS := Lib.hid hws
            have HATd := Lib.hid hat
            have HA1 := Lib.hid hA1
            clear hId hGd hxd hBd hAd hA hA1 hcd hcell hl hws g1 d1 c1 HI3 HG3 HB3 HAT bd hszd hll hat HL HAw HDD
            go_wp2_with fail
            refine wpS_start [0, 1, 2, 3, 4, 5, 6, 7, 8, 9, 10, 11, 12, 13, 14, 15, 16, 17, 18] hmx rfl hwd ?_
            clear hwd
            iterate 15 (
              refine wpS_read (v := ?_) rfl (by kernel_rfl) (by kernel_rfl) (by kernel_rfl) (fun _ _ _ h => h) (.inl ⟨by rfl, ?_⟩) ?_
              rotate_left
              · intro X hX
                have hXa := C0 X (hX _ hS)
                have hXb := C1 X (hX _ hS)
                have hXc := C2 X (hX _ hS)
                have hXd := C3 X (hX _ hS)
                clear hX
                go_simp
                with_reducible rfl
              try simp only [Act.put, List.setIfInBounds_toArray, List.set_cons_zero, List.set_cons_succ])
            clear C0 C1 C2 C3
            refine wpS_append_new rfl (by kernel_rfl) rfl (.tmp 63) (.tmp 69) rfl rfl _ A l c s rfl HAd.out (by have := HLL.out; omega) ?_
            intro v2 w2 ho2 b2
            obtain ⟨A2, c2, rfl⟩ := own_slice ho2
            have hfin := HId.out.write (j := j) (v := .slice A2 l c2) (by rw [HN.out]) (by rw [HM.out]; exact hlt) (by rw [HWS.out]; exact HATd.out) b2 (by rw [HWS.out]; show w2.ownsRow _ _ _ _ s.length (vals s); rw [HA1.out]; exact ho2) HSZ.out
            have hGf := (HGd.out.below b2 HGd.out.lt)
            have hx2 : ∃ cw, Blk w2 hw 55 cw ∧ cw.size = m * 2 := by
              obtain ⟨vs, cb, cw, h1, h2, h3, h4, _⟩ := HId.out
              exact ⟨cw, h3.below b2 h3.lt, by rw [h4, HM.out]⟩
            obtain ⟨cw, hcw1, hcw2⟩ := hx2
            obtain ⟨u3, hu3⟩ : ∃ u, w2.cell? ⟨hw, j * 2 + 1, none⟩ = some u := ⟨_, by rw [hcw1.cell]; exact Array.getElem?_eq_getElem (by omega)⟩
            have hf3 := hcw1.frozen (j * 2 + 1)
            have hne : gd ≠ hw := hGf.ne hcw1 (by decide)
            have HFIN := Lib.hid hfin
            have HGF := Lib.hid (hGf.far (p := ⟨hw, j * 2 + 1, none⟩) hne (.slice A2 l c2))
            have HBF := Lib.hid ((HBd.out.trans (b2.mono HSZ.out)).setCell (p := ⟨hw, j * 2 + 1, none⟩) (by show B + 2 ≤ hw; omega) (.slice A2 l c2))
            clear hfin hGf hcw1 hcw2 hne b2 ho2 HId HGd HBd HAd hS
            try simp only [Act.put, List.setIfInBounds_toArray, List.set_cons_zero, List.set_cons_succ]
            iterate 2 (
              refine wpS_read (v := ?_) rfl (by kernel_rfl) (by kernel_rfl) (by kernel_rfl) (fun _ _ _ h => h) (.inl ⟨by rfl, ?_⟩) ?_
              rotate_left
              · intro X hX
                clear hX
                go_simp
                with_reducible rfl
              try simp only [Act.put, List.setIfInBounds_toArray, List.set_cons_zero, List.set_cons_succ])
            refine wpS_last rfl (by kernel_rfl) (by kernel_rfl) (fun K hK => ?_)
            go_simp
            refine hK _ _ ?_
            clear hK K
            try simp only [Act.put, List.setIfInBounds_toArray, List.set_cons_zero, List.set_cons_succ]
            refine wpS_done (by kernel_rfl) ?_
            go_wp2_with fail
            go_roundw
            case rel => exact ⟨j + 1, by omega, by go_num, HFIN, HGF, HBF⟩
            case measure => simp [intOf]; omega
          · obtain rfl : j = m := by omega
            have hG := HG.out
            have t1 := hG.cell 0
            have t2 := hG.cell 1
            have hx1 := HX1.out.below HBx.out (by omega)
            have r2 := hx1.cell 0
            have r3 := hx1.cell 1
            have hf0 := hx1.frozen 0
            have hf1 := hx1.frozen 1
            have hwf : ∀ i, i < D.2.length → (Lit.int .i64 (wr_ D.2 i).1).wf = true := fun i hi => by
              obtain ⟨_, _, p, _, _, _, _, _, _, hp, hwf, _⟩ := HD.out.2.at_ hi
              rw [hp]
              exact hwf
            have hT : Tw wr (B + 2) ⟨some ⟨hb, 0, none⟩, k, some ⟨hw, 0, none⟩, j⟩ D := ⟨hb, hw, by rw [HN.out, HM.out], k1, k2, ⟨by rw [HN.out]; exact f1, by rw [HM.out]; exact f2, HF3.out⟩, hwf, by rw [HN.out, HM.out]; exact HI.out⟩
            have hF := tw_far hT hx1 (show w.heap.size ≤ B + 2 by have := HBB.out; omega) (.slice (some ⟨hb, 0, none⟩) k k) (.slice (some ⟨hw, 0, none⟩) j j)
            have hbw : Below w.heap.size w wr := by rw [HBB.out]; exact HB.out.trans (HBx.out.mono (by omega))
            have HF := Lib.hid hF
            have HBF := Lib.hid ((hbw.setCell (p := ⟨B + 1, 0, none⟩) (by show w.heap.size ≤ B + 1; have := HBB.out; omega) (.slice (some ⟨hb, 0, none⟩) k k)).setCell (p := ⟨B + 1, 1, none⟩) (by show w.heap.size ≤ B + 1; have := HBB.out; omega) (.slice (some ⟨hw, 0, none⟩) j j))
            have HXR := Lib.hid ((hx1.set_ 0 (.slice (some ⟨hb, 0, none⟩) k k)).set_ 1 (.slice (some ⟨hw, 0, none⟩) j j))
            clear hG hx1 hT hF hbw hwf HI HG HBx x0r
            go_wp2_with fail
            obtain ⟨wf, hwf⟩ : ∃ wf, ((wr.setCell ⟨B + 1, 0, none⟩ (.slice (some ⟨hb, 0, none⟩) k k)).setCell ⟨B + 1, 1, none⟩ (.slice (some ⟨hw, 0, none⟩) j j)) = wf := ⟨_, rfl⟩
            rw [hwf] at HF HBF HXR ⊢
            clear hwf t1 t2 r0 r1 r2 r3 hf0 hf1
            have e0 := HXR.out.cell 0
            have e1 := HXR.out.cell 1
            refine bodyPost_ret (v := .agg #[.slice (some ⟨hb, 0, none⟩) k k, .slice (some ⟨hw, 0, none⟩) j j]) (by simp [results, Try.f22, go_sem, e0, e1]) rfl ?_
            refine ⟨⟨some ⟨hb, 0, none⟩, k, some ⟨hw, 0, none⟩, j⟩, ?_, HF.out, HBF.out⟩
            rw [dval, HN.out, HM.out]
end Go.Proofs.Ytgpojnhhcobcbaa
