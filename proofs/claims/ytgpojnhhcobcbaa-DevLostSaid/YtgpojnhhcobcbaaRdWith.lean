/-
  The document's own With for layer 9: a disk on which one more write waits.
-/
import Derived.Test.YtgpojnhhcobcbaaRdKept
import Derived.Test.YtgpojnhhcobcbaaDevWrite
namespace Go.Proofs.Ytgpojnhhcobcbaa
open Go.RowKit Go.Shelf
set_option maxRecDepth 100000

set_option maxHeartbeats 4000000 in
theorem rdWith_any (x : DAt) (D : DkL) (p : Int) (a : Option Addr) (n c : Nat) (s : List UInt8) (w : World) (h : Dsk w w.heap.size x D) (hf : Fits D) (hp : (Lit.int .i64 p).wf = true) (hs : Bsl w w.heap.size a n c s) (hn : n ≤ 1000000) (hq : D.2.length ≤ 5000) :
    Calls Try.prog 51 #[dval x D, .int .i64 p, .slice a n c] w (DskPost (withD D p s) w) := by
  have hmx : Try.prog.follows Departure.mixedOrders = true := by kernel_rfl
  obtain ⟨w0, hw0, b0, z0, x0, x1⟩ := two_boxes w (.slice x.ba D.1.length x.bc) (.slice x.wa D.2.length x.wc)
  obtain ⟨B, hB⟩ : ∃ B, w.heap.size = B := ⟨_, rfl⟩
  have h0 := h.step b0
  have hs0 := hs.step b0
  have c0 := x0.cell 0
  have c1 := x0.cell 1
  have ht := rdTwin_any x D w0 h0 hf
  rw [hB] at x0 x1 z0 b0 c0 c1
  simp only [dval] at ht ⊢
  have HT := Lib.hid ht
  have HX0 := Lib.hid x0
  have HX1 := Lib.hid x1
  have HB := Lib.hid b0
  have HZ := Lib.hid z0
  have HBB := Lib.hid hB
  have HS := Lib.hid hs0
  have HP := Lib.hid hp
  have HQ := Lib.hid hq
  clear ht x0 x1 b0 z0 h0 hs0 h hf hp hs hq
  go_enter Try.func51, Try.ntmps51
  go_wp2_with fail
  clear hw0 hB c0 c1
  refine HT.out.mono ?_
  rintro e w1 ⟨x', rfl, ht, b1⟩
  have hb1 := ht.brow 0
  have hw1 := ht.wrow 0
  obtain ⟨hb, hw, rfl, hle1, hle2, _⟩ := ht
  simp only [dval] at hb1 hw1 ⊢
  go_wp2_with fail
  have hls : n = s.length := HS.out.1.symm
  subst hls
  obtain ⟨gd, hgd⟩ : ∃ gd, w1.heap.size = gd := ⟨_, rfl⟩
  obtain ⟨w2, hw2⟩ : ∃ w2, w1.alloc (.cells #[.slice (some ⟨hb, 0, none⟩) D.1.length D.1.length, .slice (some ⟨hw, 0, none⟩) D.2.length D.2.length] 25) = w2 := ⟨_, rfl⟩
  obtain ⟨wd, hwd⟩ : ∃ wd, w2.drew = wd := ⟨_, rfl⟩
  have b2 : Below w1.heap.size w1 w2 := by rw [← hw2]; exact (Below.refl _ _).alloc (Nat.le_refl _) _
  have bd : Below w2.heap.size w2 wd := by rw [← hwd]; exact (Below.refl _ w2).drew
  have b12 : Below w1.heap.size w1 wd := b2.trans (bd.mono b2.size)
  have x2 : Blk wd gd 25 #[.slice (some ⟨hb, 0, none⟩) D.1.length D.1.length, .slice (some ⟨hw, 0, none⟩) D.2.length D.2.length] := by
    have := Blk.new w1 25 #[.slice (some ⟨hb, 0, none⟩) D.1.length D.1.length, .slice (some ⟨hw, 0, none⟩) D.2.length D.2.length]
    rw [hw2, hgd] at this
    exact this.below bd this.lt
  have y1 := HX1.out.below b1 HX1.out.lt
  have hzz := HZ.out
  have hgB : B + 2 ≤ gd := by have := b1.size; omega
  have y1d := y1.below b12 y1.lt
  have HBR := Lib.hid (hb1.below b12)
  have HWR := Lib.hid (hw1.below b12)
  have b0d : Below w0.heap.size w0 wd := b1.trans (b12.mono b1.size)
  have HSd := Lib.hid (HS.out.step b0d)
  have HBd := Lib.hid (HB.out.trans (b0d.mono (by omega)))
  have HY := Lib.hid y1d
  have HG := Lib.hid x2
  have HGB := Lib.hid hgB
  have HSZ := Lib.hid (show w0.heap.size ≤ wd.heap.size from b0d.size)
  rw [hgd, hw2]
  clear hw2 hgd b2 bd b12 y1 y1d b0d hb1 hw1 hzz b1
  have g1 := x2.cell 1
  have C0 := fun X (hX : Below wd.heap.size wd X) => (hX.cell (p := ⟨gd, 1, none⟩) (World.block_lt_of_cell? wd _ g1)).trans g1
  have hS : Below wd.heap.size wd wd := Below.refl _ _
  clear x2 g1
  go_wp2_with fail
  refine wpS_start [0, 1, 2, 3, 4, 5, 6, 7, 8, 9] hmx rfl hwd ?_
  clear hwd
  iterate 4 (
    refine wpS_read (v := ?_) rfl (by kernel_rfl) (by kernel_rfl) (by kernel_rfl) (fun _ _ _ h => h) (.inl ⟨by rfl, ?_⟩) ?_
    rotate_left
    · intro X hX
      have hXa := C0 X (hX _ hS)
      clear hX
      go_simp
      with_reducible rfl
    try simp only [Act.put, List.setIfInBounds_toArray, List.set_cons_zero, List.set_cons_succ])
  clear C0 hS
  refine wpS_append_new rfl (by kernel_rfl) rfl (.const (.slice none 0 0)) (.tmp 13) rfl rfl _ a s.length c s rfl HSd.out (by omega) ?_
  intro v3 w3 ho3 b3
  obtain ⟨A3, c3, rfl⟩ := own_slice ho3
  have hA0 : Below w3.heap.size w3 (w3.alloc (.cells #[.int .i64 p, .slice A3 s.length c3] 55)) := (Below.refl _ _).alloc (Nat.le_refl _) _
  have b34 : Below wd.heap.size wd (w3.alloc (.cells #[.int .i64 p, .slice A3 s.length c3] 55)) := b3.trans (hA0.mono b3.size)
  have HN4 := Lib.hid (Blk.new w3 55 #[.int .i64 p, .slice A3 s.length c3])
  have HO4 := Lib.hid ((BslO.own ho3 0).below hA0)
  have HBR4 := Lib.hid (HBR.out.below b34)
  have HWR4 := Lib.hid (HWR.out.below b34)
  have HY4 := Lib.hid (HY.out.below b34 HY.out.lt)
  have HG4 := Lib.hid (HG.out.below b34 HG.out.lt)
  have HB4 := Lib.hid (HBd.out.trans (b34.mono (by have := HBd.out.size; have := HBB.out; omega)))
  have HSZ4 := Lib.hid (Nat.le_trans HSZ.out b34.size)
  have HST := Lib.hid (Stays.of_below hA0)
  clear b3 ho3 hA0 b34 HBR HWR HY HG HBd HSd
  try simp only [Act.put, List.setIfInBounds_toArray, List.set_cons_zero, List.set_cons_succ]
  refine wpS_read (v := ?_) rfl (by kernel_rfl) (by kernel_rfl) (by kernel_rfl) (fun _ _ _ h => h) (.inl ⟨by rfl, ?_⟩) ?_
  rotate_left
  · intro X hX
    clear hX
    go_simp
    with_reducible rfl
  try simp only [Act.put, List.setIfInBounds_toArray, List.set_cons_zero, List.set_cons_succ]
  refine wpS_lone rfl (by kernel_rfl) (fun K hK => ?_)
  go_simp
  refine hK _ _ HST.out ?_
  clear hK K HST
  try simp only [Act.put, List.setIfInBounds_toArray, List.set_cons_zero, List.set_cons_succ]
  obtain ⟨w4, hw4⟩ : ∃ w4, w3.alloc (.cells #[.int .i64 p, .slice A3 s.length c3] 55) = w4 := ⟨_, rfl⟩
  rw [hw4] at HN4 HO4 HBR4 HWR4 HY4 HG4 HB4 HSZ4 ⊢
  clear hw4
  refine wpS_append_wrow rfl (by kernel_rfl) (by kernel_rfl) rfl (.tmp 11) (.tmp 16) rfl w0.heap.size (Nat.zero_le _) (.slice (some ⟨hw, 0, none⟩) D.2.length D.2.length) D.2 rfl HWR4.out [.int .i64 p, .slice A3 s.length c3] [(p, s)] ⟨w3.heap.size, 0, none⟩ 1 1 rfl rfl rfl (fun j u hu => ?_) (fun i hi => ?_) (by have := HQ.out; omega) HSZ4.out ?_
  · rcases j with _ | _ | j
    · cases hu
      have := HN4.out.cell 0
      simpa [Addr.add] using this
    · cases hu
      have := HN4.out.cell 1
      simpa [Addr.add] using this
    · simp at hu
  · obtain rfl : i = 0 := by simp at hi; exact hi
    exact ⟨HP.out, rfl, A3, c3, rfl, HO4.out⟩
  intro v5 w5 hr5 hg5 hty
  have hne : ∀ g t cs, Blk w4 g t cs → t ≠ 55 → w5.heap[g]? = w4.heap[g]? := fun g t cs hx ht => hg5.block g hx.lt fun e => by
    obtain ⟨_, t', cs', h1, h2⟩ := hty g e.symm
    exact hx.ne h1 (by rw [h2]; exact ht) rfl
  have hG5 : Blk w5 gd 25 #[.slice (some ⟨hb, 0, none⟩) D.1.length D.1.length, .slice (some ⟨hw, 0, none⟩) D.2.length D.2.length] := (hne _ _ _ HG4.out (by decide)).trans HG4.out
  have hY5 : Blk w5 (B + 1) 25 #[.slice none 0 0, .slice none 0 0] := (hne _ _ _ HY4.out (by decide)).trans HY4.out
  obtain ⟨tw, cw, hcw, htw⟩ : ∃ t cs, Blk w4 hw t cs ∧ t = 55 := (hty hw rfl).2
  have hBR5 := HBR4.out.row hg5 (Nat.zero_le _) hcw (by rw [htw]; decide) (by rw [htw]; decide)
  have hB5 : Below B w w5 := HB4.out.grown hg5 (by have := HB4.out.size; have := HBB.out; omega) (fun g e => by have := (hty g e).1; have := HZ.out; omega)
  obtain ⟨A5, c5, rfl, _⟩ := hr5.wts
  have hlw : (D.2 ++ [(p, s)]).length = D.2.length + 1 := by simp
  rw [hlw] at hr5 ⊢
  have gs : w5.grownBy (w5.setCell ⟨gd, 1, none⟩ (.slice A5 (D.2.length + 1) c5)) (some gd) := only_setCell (World.grownBy.refl w5 _) (.inl rfl) _
  have hBRF := hBR5.row gs (Nat.zero_le _) hG5 (by decide) (by decide)
  have hWRF := hr5.row gs (Nat.zero_le _) hG5 (by decide) (by decide)
  have HBRF := Lib.hid hBRF
  have HWRF := Lib.hid hWRF
  have HGF := Lib.hid (hG5.set_ 1 (.slice A5 (D.2.length + 1) c5))
  have HYF := Lib.hid (hY5.far (p := ⟨gd, 1, none⟩) (by show B + 1 ≠ gd; have := HGB.out; omega) (.slice A5 (D.2.length + 1) c5))
  have HBF := Lib.hid (hB5.setCell (p := ⟨gd, 1, none⟩) (by show B ≤ gd; have := HGB.out; omega) (.slice A5 (D.2.length + 1) c5))
  have hu3 := hG5.cell 1
  have hf3 := hG5.frozen 1
  clear hne hG5 hY5 hcw htw hBR5 hB5 hr5 gs hBRF hWRF hg5 hty HB4 HBR4 HWR4 HY4 HG4 HN4 HO4
  try simp only [Act.put, List.setIfInBounds_toArray, List.set_cons_zero, List.set_cons_succ]
  refine wpS_read (v := ?_) rfl (by kernel_rfl) (by kernel_rfl) (by kernel_rfl) (fun _ _ _ h => h) (.inl ⟨by rfl, ?_⟩) ?_
  rotate_left
  · intro X hX
    clear hX
    go_simp
    with_reducible rfl
  try simp only [Act.put, List.setIfInBounds_toArray, List.set_cons_zero, List.set_cons_succ]
  refine wpS_last rfl (by kernel_rfl) (by kernel_rfl) (fun K hK => ?_)
  go_simp
  refine hK _ _ ?_
  clear hK K hu3 hf3
  try simp only [Act.put, List.setIfInBounds_toArray, List.set_cons_zero, List.set_cons_succ]
  refine wpS_done (by kernel_rfl) ?_
  obtain ⟨w6, hw6⟩ : ∃ w6, w5.setCell ⟨gd, 1, none⟩ (.slice A5 (D.2.length + 1) c5) = w6 := ⟨_, rfl⟩
  rw [hw6] at HBRF HWRF HGF HYF HBF ⊢
  clear hw6
  have t0 := HGF.out.cell 0
  have t1 := HGF.out.cell 1
  have d0 := HYF.out.cell 0
  have d1 := HYF.out.cell 1
  have hf0 := HYF.out.frozen 0
  have hf1 := HYF.out.frozen 1
  simp at t0 t1
  go_wp2_with fail
  have gs := only_two w6 (B + 1) (.slice (some ⟨hb, 0, none⟩) D.1.length D.1.length) (.slice A5 (D.2.length + 1) c5)
  have hBRE := HBRF.out.row gs (Nat.zero_le _) HYF.out (by decide) (by decide)
  have hWRE := HWRF.out.row gs (Nat.zero_le _) HYF.out (by decide) (by decide)
  have hBE := (HBF.out.setCell (p := ⟨B + 1, 0, none⟩) (Nat.le_succ _) (.slice (some ⟨hb, 0, none⟩) D.1.length D.1.length)).setCell (p := ⟨B + 1, 1, none⟩) (Nat.le_succ _) (.slice A5 (D.2.length + 1) c5)
  have hXF := (HYF.out.set_ 0 (.slice (some ⟨hb, 0, none⟩) D.1.length D.1.length)).set_ 1 (.slice A5 (D.2.length + 1) c5)
  obtain ⟨wf, hwf⟩ : ∃ wf, ((w6.setCell ⟨B + 1, 0, none⟩ (.slice (some ⟨hb, 0, none⟩) D.1.length D.1.length)).setCell ⟨B + 1, 1, none⟩ (.slice A5 (D.2.length + 1) c5)) = wf := ⟨_, rfl⟩
  rw [hwf] at hBRE hWRE hBE hXF ⊢
  clear hwf t0 t1 d0 d1 hf0 hf1 gs HBRF HWRF HBF HYF HGF
  have e0 := hXF.cell 0
  have e1 := hXF.cell 1
  refine bodyPost_ret (v := .agg #[.slice (some ⟨hb, 0, none⟩) D.1.length D.1.length, .slice A5 (D.2.length + 1) c5]) (by simp [results, Try.f51, go_sem, e0, e1]) rfl ?_
  refine ⟨⟨some ⟨hb, 0, none⟩, D.1.length, A5, c5⟩, ?_, rows_dskT hBRE (by show WRowC wf 0 _ (.slice A5 (D.2 ++ [(p, s)]).length c5) (D.2 ++ [(p, s)]); rw [hlw]; exact hWRE), by rw [HBB.out]; exact hBE⟩
  show _ = Ending.returned (.agg #[.slice (some ⟨hb, 0, none⟩) D.1.length D.1.length, .slice A5 (D.2 ++ [(p, s)]).length c5])
  rw [hlw]
end Go.Proofs.Ytgpojnhhcobcbaa
