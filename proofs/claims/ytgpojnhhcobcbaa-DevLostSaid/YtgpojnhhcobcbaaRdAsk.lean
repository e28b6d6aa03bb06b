/-
  The document's own Read and Write for layer 9.
-/
import Derived.Test.YtgpojnhhcobcbaaRdCrash
import Derived.Test.YtgpojnhhcobcbaaRdWith
import Derived.Test.YtgpojnhhcobcbaaDevRead
namespace Go.Proofs.Ytgpojnhhcobcbaa
open Go.RowKit Go.Shelf
set_option maxRecDepth 100000

set_option maxHeartbeats 1000000 in
theorem rdRead_any (x : DAt) (D : DkL) (p : Int) (w : World) (h : Dsk w w.heap.size x D) : Calls Try.prog 23 #[dval x D, .int .i64 p] w (ToldL (readO D p) w) := by
  have hmx : Try.prog.follows Departure.mixedOrders = true := by kernel_rfl
  obtain ⟨w0, hw0⟩ : ∃ w0, w.alloc (.cells #[.slice x.ba D.1.length x.bc, .slice x.wa D.2.length x.wc] 25) = w0 := ⟨_, rfl⟩
  have b00 : Below w.heap.size w w0 := by rw [← hw0]; exact (Below.refl _ _).alloc (Nat.le_refl _) _
  have x00 : Blk w0 w.heap.size 25 #[.slice x.ba D.1.length x.bc, .slice x.wa D.2.length x.wc] := by rw [← hw0]; exact Blk.new _ _ _
  obtain ⟨wd, hwd⟩ : ∃ wd, w0.drew = wd := ⟨_, rfl⟩
  have b0 : Below w.heap.size w wd := by rw [← hwd]; exact b00.drew
  have x0 : Blk wd w.heap.size 25 #[.slice x.ba D.1.length x.bc, .slice x.wa D.2.length x.wc] := by rw [← hwd]; exact x00.drew
  have h0 := h.step b0
  have c0 := x0.cell 0
  have c1 := x0.cell 1
  have C0 := fun X (hX : Below wd.heap.size wd X) => (hX.cell (p := ⟨w.heap.size, 0, none⟩) (World.block_lt_of_cell? wd _ c0)).trans c0
  have C1 := fun X (hX : Below wd.heap.size wd X) => (hX.cell (p := ⟨w.heap.size, 1, none⟩) (World.block_lt_of_cell? wd _ c1)).trans c1
  have hS : Below wd.heap.size wd wd := Below.refl _ _
  have HX0 := Lib.hid x0
  have HB := Lib.hid b0
  have hpl := rdPlace_any p wd
  obtain ⟨b, hb⟩ : ∃ b, decide (0 ≤ p ∧ p < 256) = b := ⟨_, rfl⟩
  have ha := rdAsk_any x D b wd h0
  rw [hb] at hpl
  unfold readO
  unfold askO at ha
  have HPL := Lib.hid hpl
  clear hpl c0 c1
  by_cases hm : MayD D
  · rw [if_pos hm] at ha ⊢
    by_cases hp : 0 ≤ p ∧ p < 256
    · rw [if_pos hp]
      rw [decide_eq_true hp] at hb
      subst hb
      rw [if_pos rfl] at ha
      obtain ⟨q, rfl⟩ := Int.eq_ofNat_of_zero_le hp.1
      have hq : q < 256 := by omega
      rw [Int.toNat_natCast]
      have hsn : ∀ W, Below wd.heap.size wd W → Calls Try.prog 50 #[dval x D, .int .i64 (q : Nat)] W (OwnS (leftD D (fun _ => true) q) W) := fun W hW => rdSeen_any x D q W (h0.step hW) (by rw [hm.1.1]; exact hq) (by rw [leftD_length hm _ hq]; omega)
      simp only [dval] at ha hsn ⊢
      have HA := Lib.hid ha
      have HSN := Lib.hid hsn
      clear ha hsn x0 b0 x00 b00 h0 h hm hp hq
      go_enter Try.func23, Try.ntmps23
      go_wp2_with fail
      clear hw0
      refine wpS_start [0, 1, 2, 3, 4] hmx rfl hwd ?_
      clear hwd
      iterate 2 (
        refine wpS_read (v := ?_) rfl (by kernel_rfl) (by kernel_rfl) (by kernel_rfl) (fun _ _ _ h => h) (.inl ⟨by rfl, ?_⟩) ?_
        rotate_left
        · intro X hX
          have hXa := C0 X (hX _ hS)
          have hXb := C1 X (hX _ hS)
          clear hX
          go_simp
          with_reducible rfl
        try simp only [Act.put, List.setIfInBounds_toArray, List.set_cons_zero, List.set_cons_succ])
      clear C0 C1 hS
      refine wpS_lone rfl (by kernel_rfl) (fun K hK => ?_)
      go_simp
      refine HPL.out.mono ?_
      rintro e w0' ⟨rfl, rfl⟩
      refine hK _ _ (Stays.refl _) ?_
      clear hK K
      try simp only [Act.put, List.setIfInBounds_toArray, List.set_cons_zero, List.set_cons_succ]
      refine wpS_lone rfl (by kernel_rfl) (fun K hK => ?_)
      go_simp
      refine HA.out.mono ?_
      rintro e w1 ⟨rfl, b1⟩
      refine hK _ _ (Stays.of_below b1) ?_
      clear hK K
      try simp only [Act.put, List.setIfInBounds_toArray, List.set_cons_zero, List.set_cons_succ]
      refine wpS_read (v := ?_) rfl (by kernel_rfl) (by kernel_rfl) (by kernel_rfl) (fun _ _ _ h => h) (.inl ⟨by rfl, ?_⟩) ?_
      rotate_left
      · intro X hX
        clear hX
        go_simp
        with_reducible rfl
      try simp only [Act.put, List.setIfInBounds_toArray, List.set_cons_zero, List.set_cons_succ]
      refine wpS_done (by kernel_rfl) ?_
      have HB1 := Lib.hid (HB.out.trans (b1.mono HB.out.size))
      have c0 := (HX0.out.below b1 HX0.out.lt).cell 0
      have c1 := (HX0.out.below b1 HX0.out.lt).cell 1
      have HS1 := Lib.hid (HSN.out w1 b1)
      clear b1
      go_wp2_with fail
      clear c0 c1
      refine HS1.out.mono ?_
      rintro e w2 ⟨v, rfl, ho, b2⟩
      go_wp2_with fail
      exact bodyPost_ret (v := .tuple #[v, .int .i64 0]) (by simp [results, Try.f23, go_sem]) rfl ⟨v, rfl, own_mono ho HB1.out.size, HB1.out.trans (b2.mono HB1.out.size)⟩
    · rw [if_neg hp]
      rw [decide_eq_false hp] at hb
      subst hb
      rw [if_neg (show ¬ (false = true) by decide)] at ha
      simp only [dval] at ha ⊢
      have HA := Lib.hid ha
      clear ha x0 b0 x00 b00 h0 h hm hp HX0
      go_enter Try.func23, Try.ntmps23
      go_wp2_with fail
      clear hw0
      refine wpS_start [0, 1, 2, 3, 4] hmx rfl hwd ?_
      clear hwd
      iterate 2 (
        refine wpS_read (v := ?_) rfl (by kernel_rfl) (by kernel_rfl) (by kernel_rfl) (fun _ _ _ h => h) (.inl ⟨by rfl, ?_⟩) ?_
        rotate_left
        · intro X hX
          have hXa := C0 X (hX _ hS)
          have hXb := C1 X (hX _ hS)
          clear hX
          go_simp
          with_reducible rfl
        try simp only [Act.put, List.setIfInBounds_toArray, List.set_cons_zero, List.set_cons_succ])
      clear C0 C1 hS
      refine wpS_lone rfl (by kernel_rfl) (fun K hK => ?_)
      go_simp
      refine HPL.out.mono ?_
      rintro e w0' ⟨rfl, rfl⟩
      refine hK _ _ (Stays.refl _) ?_
      clear hK K
      try simp only [Act.put, List.setIfInBounds_toArray, List.set_cons_zero, List.set_cons_succ]
      refine wpS_lone rfl (by kernel_rfl) (fun K hK => ?_)
      go_simp
      refine HA.out.mono ?_
      rintro e w1 ⟨rfl, b1⟩
      refine hK _ _ (Stays.of_below b1) ?_
      clear hK K
      try simp only [Act.put, List.setIfInBounds_toArray, List.set_cons_zero, List.set_cons_succ]
      refine wpS_read (v := ?_) rfl (by kernel_rfl) (by kernel_rfl) (by kernel_rfl) (fun _ _ _ h => h) (.inl ⟨by rfl, ?_⟩) ?_
      rotate_left
      · intro X hX
        clear hX
        go_simp
        with_reducible rfl
      try simp only [Act.put, List.setIfInBounds_toArray, List.set_cons_zero, List.set_cons_succ]
      refine wpS_done (by kernel_rfl) ?_
      have HB1 := Lib.hid (HB.out.trans (b1.mono HB.out.size))
      clear b1
      go_wp2_with fail
      exact bodyPost_ret (v := .tuple #[.slice none 0 0, .int .i64 2]) (by simp [results, Try.f23, go_sem]) rfl ⟨.slice none 0 0, rfl, own_nil _ _, HB1.out⟩
  · rw [if_neg hm] at ha ⊢
    simp only [dval] at ha ⊢
    have HA := Lib.hid ha
    clear ha x0 b0 x00 b00 h0 h hm hb HX0
    go_enter Try.func23, Try.ntmps23
    go_wp2_with fail
    clear hw0
    refine wpS_start [0, 1, 2, 3, 4] hmx rfl hwd ?_
    clear hwd
    iterate 2 (
      refine wpS_read (v := ?_) rfl (by kernel_rfl) (by kernel_rfl) (by kernel_rfl) (fun _ _ _ h => h) (.inl ⟨by rfl, ?_⟩) ?_
      rotate_left
      · intro X hX
        have hXa := C0 X (hX _ hS)
        have hXb := C1 X (hX _ hS)
        clear hX
        go_simp
        with_reducible rfl
      try simp only [Act.put, List.setIfInBounds_toArray, List.set_cons_zero, List.set_cons_succ])
    clear C0 C1 hS
    refine wpS_lone rfl (by kernel_rfl) (fun K hK => ?_)
    go_simp
    refine HPL.out.mono ?_
    rintro e w0' ⟨rfl, rfl⟩
    refine hK _ _ (Stays.refl _) ?_
    clear hK K
    try simp only [Act.put, List.setIfInBounds_toArray, List.set_cons_zero, List.set_cons_succ]
    refine wpS_lone rfl (by kernel_rfl) (fun K hK => ?_)
    go_simp
    refine HA.out.mono ?_
    rintro e w1 ⟨rfl, b1⟩
    refine hK _ _ (Stays.of_below b1) ?_
    clear hK K
    try simp only [Act.put, List.setIfInBounds_toArray, List.set_cons_zero, List.set_cons_succ]
    refine wpS_read (v := ?_) rfl (by kernel_rfl) (by kernel_rfl) (by kernel_rfl) (fun _ _ _ h => h) (.inl ⟨by rfl, ?_⟩) ?_
    rotate_left
    · intro X hX
      clear hX
      go_simp
      with_reducible rfl
    try simp only [Act.put, List.setIfInBounds_toArray, List.set_cons_zero, List.set_cons_succ]
    refine wpS_done (by kernel_rfl) ?_
    have HB1 := Lib.hid (HB.out.trans (b1.mono HB.out.size))
    clear b1
    go_wp2_with fail
    exact bodyPost_ret (v := .tuple #[.slice none 0 0, .int .i64 8]) (by simp [results, Try.f23, go_sem]) rfl ⟨.slice none 0 0, rfl, own_nil _ _, HB1.out⟩
set_option maxHeartbeats 2000000 in
theorem rdWrite_any (x : DAt) (D : DkL) (p : Int) (a : Option Addr) (n c : Nat) (s : List UInt8) (w : World) (h : Dsk w w.heap.size x D) (hs : Bsl w w.heap.size a n c s) : Calls Try.prog 24 #[dval x D, .int .i64 p, .slice a n c] w (RefD (writeO D p s) w) := by
  have hmx : Try.prog.follows Departure.mixedOrders = true := by kernel_rfl
  have hsl := hs.1
  have n0 : (0 : Int) ≤ n := by omega
  have m0 : (0 : Int) ≤ D.2.length := by omega
  have m1 := h.2.len_le
  have n1 : (n : Int) ≤ 9223372036854775807 := by have h1 := hs.2.1; have h2 := hs.2.2.1; unfold maxLen at h2; omega
  obtain ⟨w0, hw0, b00, z0, x00, x01⟩ := two_boxes w (.slice x.ba D.1.length x.bc) (.slice x.wa D.2.length x.wc)
  obtain ⟨wd, hwd⟩ : ∃ wd, w0.drew = wd := ⟨_, rfl⟩
  have b0 : Below w.heap.size w wd := by rw [← hwd]; exact b00.drew
  have x0 : Blk wd w.heap.size 25 #[.slice x.ba D.1.length x.bc, .slice x.wa D.2.length x.wc] := by rw [← hwd]; exact x00.drew
  have x1 : Blk wd (w.heap.size + 1) 25 #[.slice none 0 0, .slice none 0 0] := by rw [← hwd]; exact x01.drew
  have h0 := h.step b0
  have hs0 := hs.step b0
  have c0 := x0.cell 0
  have c1 := x0.cell 1
  have C0 := fun X (hX : Below wd.heap.size wd X) => (hX.cell (p := ⟨w.heap.size, 0, none⟩) (World.block_lt_of_cell? wd _ c0)).trans c0
  have C1 := fun X (hX : Below wd.heap.size wd X) => (hX.cell (p := ⟨w.heap.size, 1, none⟩) (World.block_lt_of_cell? wd _ c1)).trans c1
  have hS : Below wd.heap.size wd wd := Below.refl _ _
  have HX0 := Lib.hid x0
  have HX1 := Lib.hid x1
  have HB := Lib.hid b0
  have hpl := rdPlace_any p wd
  obtain ⟨b, hb⟩ : ∃ b, decide (0 ≤ p ∧ p < 256) = b := ⟨_, rfl⟩
  have ha := rdAsk_any x D b wd h0
  rw [hb] at hpl
  unfold writeO
  unfold askO at ha
  have HPL := Lib.hid hpl
  clear hpl c0 c1
  by_cases hm : MayD D
  · rw [if_pos hm] at ha ⊢
    by_cases hp : 0 ≤ p ∧ p < 256
    · rw [if_pos hp]
      rw [decide_eq_true hp] at hb
      subst hb
      rw [if_pos rfl] at ha
      by_cases hl : s.length = 256
      · rw [if_pos hl]
        obtain rfl : n = 256 := by omega
        by_cases hf : D.2.length = 4096
        · rw [if_pos hf]
          simp only [dval] at ha ⊢
          rw [hf] at ha C1 hw0 HX0 ⊢
          have HA := Lib.hid ha
          clear ha x0 x1 b0 x00 x01 b00 z0 h0 hs0 h hs hm hp hl hf hsl m0 m1 n0 n1
          go_enter Try.func24, Try.ntmps24
          go_wp2_with fail
          clear hw0
          refine wpS_start [0, 1, 2, 3, 4] hmx rfl hwd ?_
          clear hwd
          iterate 2 (
            refine wpS_read (v := ?_) rfl (by kernel_rfl) (by kernel_rfl) (by kernel_rfl) (fun _ _ _ h => h) (.inl ⟨by rfl, ?_⟩) ?_
            rotate_left
            · intro X hX
              have hXa := C0 X (hX _ hS)
              have hXb := C1 X (hX _ hS)
              clear hX
              go_simp
              with_reducible rfl
            try simp only [Act.put, List.setIfInBounds_toArray, List.set_cons_zero, List.set_cons_succ])
          clear C0 C1 hS
          refine wpS_lone rfl (by kernel_rfl) (fun K hK => ?_)
          go_simp
          refine HPL.out.mono ?_
          rintro e w0' ⟨rfl, rfl⟩
          refine hK _ _ (Stays.refl _) ?_
          clear hK K
          try simp only [Act.put, List.setIfInBounds_toArray, List.set_cons_zero, List.set_cons_succ]
          refine wpS_lone rfl (by kernel_rfl) (fun K hK => ?_)
          go_simp
          refine HA.out.mono ?_
          rintro e w1 ⟨rfl, b1⟩
          refine hK _ _ (Stays.of_below b1) ?_
          clear hK K
          try simp only [Act.put, List.setIfInBounds_toArray, List.set_cons_zero, List.set_cons_succ]
          refine wpS_read (v := ?_) rfl (by kernel_rfl) (by kernel_rfl) (by kernel_rfl) (fun _ _ _ h => h) (.inl ⟨by rfl, ?_⟩) ?_
          rotate_left
          · intro X hX
            clear hX
            go_simp
            with_reducible rfl
          try simp only [Act.put, List.setIfInBounds_toArray, List.set_cons_zero, List.set_cons_succ]
          refine wpS_done (by kernel_rfl) ?_
          have HY := Lib.hid (HX1.out.below b1 HX1.out.lt)
          have HB1 := Lib.hid (HB.out.trans (b1.mono HB.out.size))
          have c0 := (HX0.out.below b1 HX0.out.lt).cell 0
          have c1 := (HX0.out.below b1 HX0.out.lt).cell 1
          clear b1
          have d0 := HY.out.cell 0
          have d1 := HY.out.cell 1
          have hf := fun i => HY.out.frozen i
          go_wp2_with fail
          have hBF := (HB1.out.setCell (p := ⟨w.heap.size + 1, 0, none⟩) (Nat.le_add_right _ _) (.slice none 0 0)).setCell (p := ⟨w.heap.size + 1, 1, none⟩) (Nat.le_add_right _ _) (.slice none 0 0)
          have hXF := (HY.out.set_ 0 (.slice none 0 0)).set_ 1 (.slice none 0 0)
          obtain ⟨wf, hwf⟩ : ∃ wf, ((w1.setCell ⟨w.heap.size + 1, 0, none⟩ (.slice none 0 0)).setCell ⟨w.heap.size + 1, 1, none⟩ (.slice none 0 0)) = wf := ⟨_, rfl⟩
          rw [hwf] at hBF hXF ⊢
          clear hwf d0 d1 hf
          have e0 := hXF.cell 0
          have e1 := hXF.cell 1
          exact bodyPost_ret (v := .tuple #[.agg #[.slice none 0 0, .slice none 0 0], .int .i64 9]) (by simp [results, Try.f24, go_sem, e0, e1]) rfl (refD_no rfl hBF)
        · rw [if_neg hf]
          have hne : ((D.2.length : Int) == 4096) = false := by simp; omega
          have hwi : ∀ W, Below wd.heap.size wd W → Calls Try.prog 51 #[dval x D, .int .i64 p, .slice a 256 c] W (DskPost (withD D p s) W) := fun W hW =>
            rdWith_any x D p a 256 c s W (h0.step hW) (may_fits hm) (wf64 (by omega) (by omega)) (hs0.step hW) (by omega) (by have := hm.2.1; omega)
          obtain ⟨E, hE⟩ : ∃ E, withD D p s = E := ⟨_, rfl⟩
          rw [hE] at hwi ⊢
          simp only [dval] at ha hwi ⊢
          have HA := Lib.hid ha
          have HWI := Lib.hid hwi
          clear ha hwi x0 x1 b0 x00 x01 b00 z0 h0 hs0 h hs hm hp hl hf hsl hE n0 n1
          go_enter Try.func24, Try.ntmps24
          go_wp2_with fail
          clear hw0
          refine wpS_start [0, 1, 2, 3, 4] hmx rfl hwd ?_
          clear hwd
          iterate 2 (
            refine wpS_read (v := ?_) rfl (by kernel_rfl) (by kernel_rfl) (by kernel_rfl) (fun _ _ _ h => h) (.inl ⟨by rfl, ?_⟩) ?_
            rotate_left
            · intro X hX
              have hXa := C0 X (hX _ hS)
              have hXb := C1 X (hX _ hS)
              clear hX
              go_simp
              with_reducible rfl
            try simp only [Act.put, List.setIfInBounds_toArray, List.set_cons_zero, List.set_cons_succ])
          clear C0 C1 hS
          refine wpS_lone rfl (by kernel_rfl) (fun K hK => ?_)
          go_simp
          refine HPL.out.mono ?_
          rintro e w0' ⟨rfl, rfl⟩
          refine hK _ _ (Stays.refl _) ?_
          clear hK K
          try simp only [Act.put, List.setIfInBounds_toArray, List.set_cons_zero, List.set_cons_succ]
          refine wpS_lone rfl (by kernel_rfl) (fun K hK => ?_)
          go_simp
          refine HA.out.mono ?_
          rintro e w1 ⟨rfl, b1⟩
          refine hK _ _ (Stays.of_below b1) ?_
          clear hK K
          try simp only [Act.put, List.setIfInBounds_toArray, List.set_cons_zero, List.set_cons_succ]
          refine wpS_read (v := ?_) rfl (by kernel_rfl) (by kernel_rfl) (by kernel_rfl) (fun _ _ _ h => h) (.inl ⟨by rfl, ?_⟩) ?_
          rotate_left
          · intro X hX
            clear hX
            go_simp
            with_reducible rfl
          try simp only [Act.put, List.setIfInBounds_toArray, List.set_cons_zero, List.set_cons_succ]
          refine wpS_done (by kernel_rfl) ?_
          have HY := Lib.hid (HX1.out.below b1 HX1.out.lt)
          have HB1 := Lib.hid (HB.out.trans (b1.mono HB.out.size))
          have c0 := (HX0.out.below b1 HX0.out.lt).cell 0
          have c1 := (HX0.out.below b1 HX0.out.lt).cell 1
          have HW1 := Lib.hid (HWI.out w1 b1)
          clear b1
          go_wp2_with fail
          clear c0 c1
          refine HW1.out.mono ?_
          rintro e w2 ⟨x', rfl, hd, b2⟩
          clear HW1 HWI HA HX0 HX1 HB HPL
          have HY2 := Lib.hid (HY.out.below b2 HY.out.lt)
          have HB2 := Lib.hid (HB1.out.trans (b2.mono HB1.out.size))
          have d0 := HY2.out.cell 0
          have d1 := HY2.out.cell 1
          have hf := fun i => HY2.out.frozen i
          have HD := Lib.hid hd
          clear b2 hd HB1 HY
          simp only [dval]
          go_wp2_with fail
          have hBF := (HB2.out.setCell (p := ⟨w.heap.size + 1, 0, none⟩) (Nat.le_add_right _ _) (.slice x'.ba E.1.length x'.bc)).setCell (p := ⟨w.heap.size + 1, 1, none⟩) (Nat.le_add_right _ _) (.slice x'.wa E.2.length x'.wc)
          have hXF := (HY2.out.set_ 0 (.slice x'.ba E.1.length x'.bc)).set_ 1 (.slice x'.wa E.2.length x'.wc)
          have hDF := HD.out.2 _ _ (.slice x'.ba E.1.length x'.bc) (.slice x'.wa E.2.length x'.wc) HY2.out
          have hzf : ((w2.setCell ⟨w.heap.size + 1, 0, none⟩ (.slice x'.ba E.1.length x'.bc)).setCell ⟨w.heap.size + 1, 1, none⟩ (.slice x'.wa E.2.length x'.wc)).heap.size = w2.heap.size := by simp
          rw [← hzf] at hDF
          clear hzf
          obtain ⟨wf, hwf⟩ : ∃ wf, ((w2.setCell ⟨w.heap.size + 1, 0, none⟩ (.slice x'.ba E.1.length x'.bc)).setCell ⟨w.heap.size + 1, 1, none⟩ (.slice x'.wa E.2.length x'.wc)) = wf := ⟨_, rfl⟩
          rw [hwf] at hBF hXF hDF ⊢
          clear hwf d0 d1 hf
          have e0 := hXF.cell 0
          have e1 := hXF.cell 1
          exact bodyPost_ret (v := .tuple #[.agg #[.slice x'.ba E.1.length x'.bc, .slice x'.wa E.2.length x'.wc], .int .i64 0]) (by simp [results, Try.f24, go_sem, e0, e1]) rfl ⟨x', rfl, hDF, hBF⟩
      · rw [if_neg hl]
        have hne : ((n : Int) != 256) = true := by simp; omega
        simp only [dval] at ha ⊢
        have HA := Lib.hid ha
        clear ha x0 x1 b0 x00 x01 b00 z0 h0 hs0 h hs hm hp hl hsl
        go_enter Try.func24, Try.ntmps24
        go_wp2_with fail
        clear hw0
        refine wpS_start [0, 1, 2, 3, 4] hmx rfl hwd ?_
        clear hwd
        iterate 2 (
          refine wpS_read (v := ?_) rfl (by kernel_rfl) (by kernel_rfl) (by kernel_rfl) (fun _ _ _ h => h) (.inl ⟨by rfl, ?_⟩) ?_
          rotate_left
          · intro X hX
            have hXa := C0 X (hX _ hS)
            have hXb := C1 X (hX _ hS)
            clear hX
            go_simp
            with_reducible rfl
          try simp only [Act.put, List.setIfInBounds_toArray, List.set_cons_zero, List.set_cons_succ])
        clear C0 C1 hS
        refine wpS_lone rfl (by kernel_rfl) (fun K hK => ?_)
        go_simp
        refine HPL.out.mono ?_
        rintro e w0' ⟨rfl, rfl⟩
        refine hK _ _ (Stays.refl _) ?_
        clear hK K
        try simp only [Act.put, List.setIfInBounds_toArray, List.set_cons_zero, List.set_cons_succ]
        refine wpS_lone rfl (by kernel_rfl) (fun K hK => ?_)
        go_simp
        refine HA.out.mono ?_
        rintro e w1 ⟨rfl, b1⟩
        refine hK _ _ (Stays.of_below b1) ?_
        clear hK K
        try simp only [Act.put, List.setIfInBounds_toArray, List.set_cons_zero, List.set_cons_succ]
        refine wpS_read (v := ?_) rfl (by kernel_rfl) (by kernel_rfl) (by kernel_rfl) (fun _ _ _ h => h) (.inl ⟨by rfl, ?_⟩) ?_
        rotate_left
        · intro X hX
          clear hX
          go_simp
          with_reducible rfl
        try simp only [Act.put, List.setIfInBounds_toArray, List.set_cons_zero, List.set_cons_succ]
        refine wpS_done (by kernel_rfl) ?_
        have HY := Lib.hid (HX1.out.below b1 HX1.out.lt)
        have HB1 := Lib.hid (HB.out.trans (b1.mono HB.out.size))
        have c0 := (HX0.out.below b1 HX0.out.lt).cell 0
        have c1 := (HX0.out.below b1 HX0.out.lt).cell 1
        clear b1
        have d0 := HY.out.cell 0
        have d1 := HY.out.cell 1
        have hf := fun i => HY.out.frozen i
        go_wp2_with fail
        have hBF := (HB1.out.setCell (p := ⟨w.heap.size + 1, 0, none⟩) (Nat.le_add_right _ _) (.slice none 0 0)).setCell (p := ⟨w.heap.size + 1, 1, none⟩) (Nat.le_add_right _ _) (.slice none 0 0)
        have hXF := (HY.out.set_ 0 (.slice none 0 0)).set_ 1 (.slice none 0 0)
        obtain ⟨wf, hwf⟩ : ∃ wf, ((w1.setCell ⟨w.heap.size + 1, 0, none⟩ (.slice none 0 0)).setCell ⟨w.heap.size + 1, 1, none⟩ (.slice none 0 0)) = wf := ⟨_, rfl⟩
        rw [hwf] at hBF hXF ⊢
        clear hwf d0 d1 hf
        have e0 := hXF.cell 0
        have e1 := hXF.cell 1
        exact bodyPost_ret (v := .tuple #[.agg #[.slice none 0 0, .slice none 0 0], .int .i64 3]) (by simp [results, Try.f24, go_sem, e0, e1]) rfl (refD_no rfl hBF)
    · rw [if_neg hp]
      rw [decide_eq_false hp] at hb
      subst hb
      rw [if_neg (show ¬ (false = true) by decide)] at ha
      simp only [dval] at ha ⊢
      have HA := Lib.hid ha
      clear ha x0 x1 b0 x00 x01 b00 z0 h0 hs0 h hs hm hp hsl
      go_enter Try.func24, Try.ntmps24
      go_wp2_with fail
      clear hw0
      refine wpS_start [0, 1, 2, 3, 4] hmx rfl hwd ?_
      clear hwd
      iterate 2 (
        refine wpS_read (v := ?_) rfl (by kernel_rfl) (by kernel_rfl) (by kernel_rfl) (fun _ _ _ h => h) (.inl ⟨by rfl, ?_⟩) ?_
        rotate_left
        · intro X hX
          have hXa := C0 X (hX _ hS)
          have hXb := C1 X (hX _ hS)
          clear hX
          go_simp
          with_reducible rfl
        try simp only [Act.put, List.setIfInBounds_toArray, List.set_cons_zero, List.set_cons_succ])
      clear C0 C1 hS
      refine wpS_lone rfl (by kernel_rfl) (fun K hK => ?_)
      go_simp
      refine HPL.out.mono ?_
      rintro e w0' ⟨rfl, rfl⟩
      refine hK _ _ (Stays.refl _) ?_
      clear hK K
      try simp only [Act.put, List.setIfInBounds_toArray, List.set_cons_zero, List.set_cons_succ]
      refine wpS_lone rfl (by kernel_rfl) (fun K hK => ?_)
      go_simp
      refine HA.out.mono ?_
      rintro e w1 ⟨rfl, b1⟩
      refine hK _ _ (Stays.of_below b1) ?_
      clear hK K
      try simp only [Act.put, List.setIfInBounds_toArray, List.set_cons_zero, List.set_cons_succ]
      refine wpS_read (v := ?_) rfl (by kernel_rfl) (by kernel_rfl) (by kernel_rfl) (fun _ _ _ h => h) (.inl ⟨by rfl, ?_⟩) ?_
      rotate_left
      · intro X hX
        clear hX
        go_simp
        with_reducible rfl
      try simp only [Act.put, List.setIfInBounds_toArray, List.set_cons_zero, List.set_cons_succ]
      refine wpS_done (by kernel_rfl) ?_
      have HY := Lib.hid (HX1.out.below b1 HX1.out.lt)
      have HB1 := Lib.hid (HB.out.trans (b1.mono HB.out.size))
      have c0 := (HX0.out.below b1 HX0.out.lt).cell 0
      have c1 := (HX0.out.below b1 HX0.out.lt).cell 1
      clear b1
      have d0 := HY.out.cell 0
      have d1 := HY.out.cell 1
      have hf := fun i => HY.out.frozen i
      go_wp2_with fail
      have hBF := (HB1.out.setCell (p := ⟨w.heap.size + 1, 0, none⟩) (Nat.le_add_right _ _) (.slice none 0 0)).setCell (p := ⟨w.heap.size + 1, 1, none⟩) (Nat.le_add_right _ _) (.slice none 0 0)
      have hXF := (HY.out.set_ 0 (.slice none 0 0)).set_ 1 (.slice none 0 0)
      obtain ⟨wf, hwf⟩ : ∃ wf, ((w1.setCell ⟨w.heap.size + 1, 0, none⟩ (.slice none 0 0)).setCell ⟨w.heap.size + 1, 1, none⟩ (.slice none 0 0)) = wf := ⟨_, rfl⟩
      rw [hwf] at hBF hXF ⊢
      clear hwf d0 d1 hf
      have e0 := hXF.cell 0
      have e1 := hXF.cell 1
      exact bodyPost_ret (v := .tuple #[.agg #[.slice none 0 0, .slice none 0 0], .int .i64 2]) (by simp [results, Try.f24, go_sem, e0, e1]) rfl (refD_no rfl hBF)
  · rw [if_neg hm] at ha ⊢
    simp only [dval] at ha ⊢
    have HA := Lib.hid ha
    clear ha x0 x1 b0 x00 x01 b00 z0 h0 hs0 h hs hm hb hsl
    go_enter Try.func24, Try.ntmps24
    go_wp2_with fail
    clear hw0
    refine wpS_start [0, 1, 2, 3, 4] hmx rfl hwd ?_
    clear hwd
    iterate 2 (
      refine wpS_read (v := ?_) rfl (by kernel_rfl) (by kernel_rfl) (by kernel_rfl) (fun _ _ _ h => h) (.inl ⟨by rfl, ?_⟩) ?_
      rotate_left
      · intro X hX
        have hXa := C0 X (hX _ hS)
        have hXb := C1 X (hX _ hS)
        clear hX
        go_simp
        with_reducible rfl
      try simp only [Act.put, List.setIfInBounds_toArray, List.set_cons_zero, List.set_cons_succ])
    clear C0 C1 hS
    refine wpS_lone rfl (by kernel_rfl) (fun K hK => ?_)
    go_simp
    refine HPL.out.mono ?_
    rintro e w0' ⟨rfl, rfl⟩
    refine hK _ _ (Stays.refl _) ?_
    clear hK K
    try simp only [Act.put, List.setIfInBounds_toArray, List.set_cons_zero, List.set_cons_succ]
    refine wpS_lone rfl (by kernel_rfl) (fun K hK => ?_)
    go_simp
    refine HA.out.mono ?_
    rintro e w1 ⟨rfl, b1⟩
    refine hK _ _ (Stays.of_below b1) ?_
    clear hK K
    try simp only [Act.put, List.setIfInBounds_toArray, List.set_cons_zero, List.set_cons_succ]
    refine wpS_read (v := ?_) rfl (by kernel_rfl) (by kernel_rfl) (by kernel_rfl) (fun _ _ _ h => h) (.inl ⟨by rfl, ?_⟩) ?_
    rotate_left
    · intro X hX
      clear hX
      go_simp
      with_reducible rfl
    try simp only [Act.put, List.setIfInBounds_toArray, List.set_cons_zero, List.set_cons_succ]
    refine wpS_done (by kernel_rfl) ?_
    have HY := Lib.hid (HX1.out.below b1 HX1.out.lt)
    have HB1 := Lib.hid (HB.out.trans (b1.mono HB.out.size))
    have c0 := (HX0.out.below b1 HX0.out.lt).cell 0
    have c1 := (HX0.out.below b1 HX0.out.lt).cell 1
    clear b1
    have d0 := HY.out.cell 0
    have d1 := HY.out.cell 1
    have hf := fun i => HY.out.frozen i
    go_wp2_with fail
    have hBF := (HB1.out.setCell (p := ⟨w.heap.size + 1, 0, none⟩) (Nat.le_add_right _ _) (.slice none 0 0)).setCell (p := ⟨w.heap.size + 1, 1, none⟩) (Nat.le_add_right _ _) (.slice none 0 0)
    have hXF := (HY.out.set_ 0 (.slice none 0 0)).set_ 1 (.slice none 0 0)
    obtain ⟨wf, hwf⟩ : ∃ wf, ((w1.setCell ⟨w.heap.size + 1, 0, none⟩ (.slice none 0 0)).setCell ⟨w.heap.size + 1, 1, none⟩ (.slice none 0 0)) = wf := ⟨_, rfl⟩
    rw [hwf] at hBF hXF ⊢
    clear hwf d0 d1 hf
    have e0 := hXF.cell 0
    have e1 := hXF.cell 1
    exact bodyPost_ret (v := .tuple #[.agg #[.slice none 0 0, .slice none 0 0], .int .i64 8]) (by simp [results, Try.f24, go_sem, e0, e1]) rfl (refD_no rfl hBF)
end Go.Proofs.Ytgpojnhhcobcbaa
