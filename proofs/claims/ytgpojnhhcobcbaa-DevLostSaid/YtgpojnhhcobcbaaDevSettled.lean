/-
  dev.settled of a disk that may be answers what the writes leave whose mark is true, laid in one new piece.
-/
import Derived.Test.YtgpojnhhcobcbaaDevLeft
import Derived.Test.YtgpojnhhcobcbaaDevLaidW
namespace Go.Proofs.Ytgpojnhhcobcbaa
open Go.RowKit Go.Shelf
set_option maxRecDepth 100000

/-- A row of one's own whose first k cells are lists below block B that read as f tells. -/
def RowsI (B : Nat) (f : Nat → List UInt8) (hb n k : Nat) (w : World) : Prop := ∃ cb, Blk w hb 30 cb ∧ cb.size = n ∧ ∀ i, i < k → ∃ A c, cb[i]? = some (.slice A (f i).length c) ∧ Bsl w B A (f i).length c (f i)
theorem RowsI.below {B : Nat} {f : Nat → List UInt8} {hb n k : Nat} {w w' : World} (h : RowsI B f hb n k w) (hB : B ≤ w.heap.size) (hw : Below w.heap.size w w') : RowsI B f hb n k w' := by
  obtain ⟨cb, h1, h2, h3⟩ := h
  refine ⟨cb, h1.below hw h1.lt, h2, fun i hi => ?_⟩
  obtain ⟨A, c, h4, h5⟩ := h3 i hi
  exact ⟨A, c, h4, h5.below (hw.mono hB)⟩
theorem RowsI.put {B : Nat} {f : Nat → List UInt8} {hb n k : Nat} {w : World} (h : RowsI B f hb n k w) (hB : B ≤ hb) (hk : k < n) {A : Option Addr} {c : Nat} (hs : Bsl w B A (f k).length c (f k)) : RowsI B f hb n (k + 1) (w.setCell ⟨hb, k, none⟩ (.slice A (f k).length c)) := by
  obtain ⟨cb, h1, h2, h3⟩ := h
  have hb' : Below B w (w.setCell ⟨hb, k, none⟩ (.slice A (f k).length c)) := (Below.refl B w).setCell (p := ⟨hb, k, none⟩) hB _
  refine ⟨_, h1.set_ k _, by simpa using h2, fun i hi => ?_⟩
  rcases Nat.lt_or_ge i k with h9 | h9
  · obtain ⟨A', c', h4, h5⟩ := h3 i h9
    exact ⟨A', c', by rw [Array.getElem?_setIfInBounds, if_neg (by omega)]; exact h4, h5.below hb'⟩
  · obtain rfl : i = k := by omega
    exact ⟨A, c, by rw [Array.getElem?_setIfInBounds, if_pos rfl, if_pos (by omega)], hs.below hb'⟩
theorem RowsI.bls {B : Nat} {f : Nat → List UInt8} {hb n : Nat} {w : World} (h : RowsI B f hb n n w) (hB : B ≤ w.heap.size) (hn : n ≤ 1000000) : Bls w w.heap.size (some ⟨hb, 0, none⟩) n n ((List.range n).map f) := by
  obtain ⟨cb, h1, h2, h3⟩ := h
  refine ⟨by simp, Nat.le_refl _, by unfold maxLen; omega, fun h0 => ⟨hb, 0, rfl, h1.lt, fun i hi => ?_⟩⟩
  obtain ⟨A, c, h4, h5⟩ := h3 i hi
  have e : ((List.range n).map f).getD i [] = f i := by simp [List.getD_eq_getElem?_getD, hi]
  rw [e]
  exact ⟨A, c, by rw [Nat.zero_add, h1.cell, h4], h5.more hB⟩
set_option maxHeartbeats 2000000 in
theorem dSettled0_any (x : DAt) (D : DkL) (mk : Nat → Bool) (w : World) (h : Dsk w w.heap.size x D) (hmay : MayD D)
    (hF : ∀ W, Below w.heap.size w W → ∀ i, i < D.2.length → Calls Try.prog 41 #[.int .i64 (i : Nat)] W fun e w' => e = .returned (.bool (mk i)) ∧ Below W.heap.size W w') :
    Calls Try.prog 40 #[dval x D, .func (.func 41) #[] #[]] w (LaidPost (keptD D mk) w) := by
  obtain ⟨ba, bc, wa, wc⟩ := x
  have hl1 := hmay.1.1
  have hfits := may_fits (keptD_may hmay mk)
  have hkl := keptD_length D mk
  simp only [dval]
  rw [hl1]
  have hmk : ∀ W : World, (Instr.makeSlice 22 (.int .i64 256) (.int .i64 256)).run Try.prog W = .ok (.slice (some ⟨W.heap.size, 0, none⟩) 256 256) (W.alloc (.cells (Array.replicate 256 (.slice none 0 0)) 30)) := make_rows 256 (by omega)
  obtain ⟨m, hm⟩ : ∃ m, D.2.length = m := ⟨_, rfl⟩
  obtain ⟨B, hB⟩ : ∃ B, w.heap.size = B := ⟨_, rfl⟩
  obtain ⟨w0, hw0⟩ : ∃ w0, (w.alloc (.cells #[.slice ba 256 bc, .slice wa m wc] 25)).alloc (.cells #[.slice none 0 0, .slice none 0 0] 25) = w0 := ⟨_, rfl⟩
  have b0 : Below B w w0 := by rw [← hw0, ← hB]; exact ((Below.refl _ w).alloc (Nat.le_refl _) _).alloc (by simp) _
  have z0 : w0.heap.size = B + 2 := by rw [← hw0, ← hB]; simp
  have x0 : Blk w0 B 25 #[.slice ba 256 bc, .slice wa m wc] := by rw [← hw0, ← hB]; exact (Blk.new w _ _).alloc _
  have x1 : Blk w0 (B + 1) 25 #[.slice none 0 0, .slice none 0 0] := by
    have := Blk.new (w.alloc (.cells #[.slice ba 256 bc, .slice wa m wc] 25)) 25 #[.slice none 0 0, .slice none 0 0]
    rw [World.size_alloc, hB, hw0] at this
    exact this
  have hD0 : Dsk w0 B ⟨ba, bc, wa, wc⟩ D := by
    rw [← hB] at b0 ⊢
    exact ⟨h.1.below b0, h.2.below b0⟩
  have hW0 := (hD0.2.more (B' := w0.heap.size) (by omega))
  have hl := dLast0_any wa m wc D.2 mk w0 (by rw [← hm]; exact hW0) (fun W hW i hi => hF W (by rw [hB]; exact b0.trans (hW.mono (by omega))) i (by rw [hm]; exact hi))
  rw [hm]
  have c0 := x0.cell 0
  have c1 := x0.cell 1
  have HL := Lib.hid hl
  have HX0 := Lib.hid x0
  have HX1 := Lib.hid x1
  have HB0 := Lib.hid b0
  have HZ0 := Lib.hid z0
  have HD := Lib.hid hD0
  have HM := Lib.hid hm
  have HBB := Lib.hid hB
  have HMAY := Lib.hid hmay
  have HFI := Lib.hid hfits
  have HKL := Lib.hid hkl
  have HL1 := Lib.hid hl1
  clear hl x0 x1 b0 z0 hD0 hm hmay hF h hfits hkl hl1 hW0
  go_enter Try.func40, Try.ntmps40
  go_wp2_with fail
  clear hw0 c0 c1 hB
  refine HL.out.mono ?_
  rintro e w1 ⟨g, rfl, hge, hM1, b1⟩
  have c0 := (HX0.out.below b1 HX0.out.lt).cell 0
  have c1 := (HX0.out.below b1 HX0.out.lt).cell 1
  obtain ⟨hb, hhb⟩ : ∃ hb, w1.heap.size = hb := ⟨_, rfl⟩
  obtain ⟨w2, hw2⟩ : ∃ w2, w1.alloc (.cells (Array.replicate 256 (.slice none 0 0)) 30) = w2 := ⟨_, rfl⟩
  have ba2 : Below w1.heap.size w1 w2 := by rw [← hw2]; exact (Below.refl _ w1).alloc (Nat.le_refl _) _
  have b2 : Below w0.heap.size w0 w2 := b1.trans (ba2.mono b1.size)
  have hR0 : RowsI B (leftD D mk) hb 256 0 w2 := ⟨_, by rw [← hw2, ← hhb]; exact Blk.new w1 _ _, by simp, fun i hi => absurd hi (Nat.not_lt_zero _)⟩
  have hM2 : MapI w2 g m _ := hM1.below ba2 hM1.lt
  have hhb' : g < hb := by rw [← hhb]; exact hM1.lt
  have HB2 := Lib.hid b2
  have HR := Lib.hid hR0
  have HM2 := Lib.hid hM2
  have HGE := Lib.hid (And.intro hge hhb')
  clear b1 hM1 hge ba2 b2 hR0 hM2 hhb' HL
  go_wp2_with fail
  clear hhb hw2 c0 c1
  go_loopw [18] (fun i wr => ∃ k : Nat, k ≤ 256 ∧ i = .int .i64 k ∧ Hid (RowsI B (leftD D mk) hb 256 k wr) ∧ Hid (MapI wr g m (fun p => lastTo D.2 mk p m)) ∧ Hid (Below w0.heap.size w0 wr)) (fun i _ => 256 - (intOf i).toNat)
  case atStart => exact ⟨0, Nat.zero_le _, rfl, HR, HM2, HB2⟩
  case round =>
    obtain ⟨k, hk, rfl, HRr, HMr, HBr⟩ := hrel
    clear HR HM2 HB2
    have k0 : (0 : Int) ≤ k := by omega
    have hz := HZ0.out
    have hzr := HBr.out.size
    have xr := HX0.out.below HBr.out HX0.out.lt
    have d0 := xr.cell 0
    have d1 := xr.cell 1
    by_cases hlt : k < 256
    · have k1 : (k : Int) < 256 := by omega
      have hDr : Dsk wr B ⟨ba, bc, wa, wc⟩ D := ⟨HD.out.1.below (HBr.out.mono (by omega)), HD.out.2.below (HBr.out.mono (by omega))⟩
      have hcl := dLeft_any B ⟨ba, bc, wa, wc⟩ D g m mk k wr (by omega) hDr (by rw [HM.out]; exact HMr.out) (by rw [HL1.out]; exact hlt)
      simp only [dval] at hcl
      rw [HL1.out, HM.out] at hcl
      obtain ⟨s, hs⟩ : ∃ s, leftD D mk k = s := ⟨_, rfl⟩
      rw [hs] at hcl
      have HS := Lib.hid hs
      have HC := Lib.hid hcl
      clear hDr hcl hs xr hz
      go_wp2_with fail
      refine HC.out.mono ?_
      rintro e w3 ⟨A, c, rfl, h3, b3⟩
      have hBr := HBr.out.trans (b3.mono hzr)
      have hR3 := HRr.out.below (by have := HZ0.out; omega) b3
      have hM3 := HMr.out.below b3 HMr.out.lt
      obtain ⟨cb, y1, y2, _⟩ := id hR3
      obtain ⟨u3, hu3⟩ : ∃ u, w3.cell? ⟨hb, k, none⟩ = some u := ⟨_, by rw [y1.cell]; exact Array.getElem?_eq_getElem (by omega)⟩
      have hf3 := y1.frozen k
      have hge := HGE.out
      have hp := hR3.put (k := k) (A := A) (c := c) (by have := HZ0.out; omega) hlt (by rw [HS.out]; exact h3)
      rw [HS.out] at hp
      have gs : w3.grownBy (w3.setCell ⟨hb, k, none⟩ (.slice A s.length c)) (some hb) := only_setCell (World.grownBy.refl w3 _) (.inl rfl) _
      have HP := Lib.hid hp
      have HM3 := Lib.hid (hM3.kept gs (fun e => by have := Option.some.inj e; omega))
      have HB3 := Lib.hid (hBr.setCell (p := ⟨hb, k, none⟩) (by show w0.heap.size ≤ hb; omega) (.slice A s.length c))
      clear h3 b3 hBr hR3 hM3 y1 y2 hp gs HC d0 d1 hzr hge
      go_wp2_with fail
      go_roundw
      case rel => exact ⟨k + 1, by omega, by go_num, HP, HM3, HB3⟩
      case measure => simp [intOf]; omega
    · obtain rfl : k = 256 := by omega
      have hBl := HRr.out.bls (by omega) (by omega)
      have hkd : (keptD D mk).1 = (List.range 256).map (leftD D mk) := rfl
      rw [← hkd] at hBl
      have hla := dLaid_any ⟨some ⟨hb, 0, none⟩, 256, none, 0⟩ (keptD D mk) wr ⟨by rw [HKL.out]; exact hBl, wts_nil _ _⟩ HFI.out
      simp only [HKL.out] at hla
      have e2 : (keptD D mk).2.length = 0 := rfl
      rw [e2] at hla
      have x1r := HX1.out.below HBr.out HX1.out.lt
      have HLA := Lib.hid hla
      have HX1r := Lib.hid x1r
      have HBw := Lib.hid (HB0.out.trans (HBr.out.mono (by omega)))
      have HZR := Lib.hid (show B + 2 ≤ wr.heap.size by omega)
      clear hBl hkd hla e2 xr d0 d1 hz hzr x1r HRr HMr HBr
      go_wp2_with fail
      refine HLA.out.mono ?_
      rintro e w4 ⟨x4, rfl, h4, b4⟩
      have hz := HZR.out
      have y4 := HX1r.out.below b4 HX1r.out.lt
      have d0 := y4.cell 0
      have d1 := y4.cell 1
      have hf := fun i => y4.frozen i
      have hKD : ∀ (u v : Value), Laid ((w4.setCell ⟨B + 1, 0, none⟩ u).setCell ⟨B + 1, 1, none⟩ v) B x4 (keptD D mk) := fun u v => laid_far h4 (by omega) (by omega) u v
      have hBF : ∀ (u v : Value), Below B w ((w4.setCell ⟨B + 1, 0, none⟩ u).setCell ⟨B + 1, 1, none⟩ v) := fun u v => ((HBw.out.trans (b4.mono (by omega))).setCell (p := ⟨B + 1, 0, none⟩) (Nat.le_succ _) u).setCell (p := ⟨B + 1, 1, none⟩) (Nat.le_succ _) v
      have hXF := fun (u v : Value) => (y4.set_ 0 u).set_ 1 v
      have HK := Lib.hid hKD
      have HBF := Lib.hid hBF
      have HXF := Lib.hid hXF
      obtain ⟨ba4, bc4, wa4, wc4⟩ := x4
      clear h4 b4 y4 hz hKD hBF hXF HLA HX1r HBw
      simp only [dval]
      go_wp2_with fail
      have hKD := HK.out (.slice ba4 (keptD D mk).1.length bc4) (.slice wa4 (keptD D mk).2.length wc4)
      have hBF := HBF.out (.slice ba4 (keptD D mk).1.length bc4) (.slice wa4 (keptD D mk).2.length wc4)
      have hXF := HXF.out (.slice ba4 (keptD D mk).1.length bc4) (.slice wa4 (keptD D mk).2.length wc4)
      obtain ⟨wf, hwf⟩ : ∃ wf, ((w4.setCell ⟨B + 1, 0, none⟩ (.slice ba4 (keptD D mk).1.length bc4)).setCell ⟨B + 1, 1, none⟩ (.slice wa4 (keptD D mk).2.length wc4)) = wf := ⟨_, rfl⟩
      rw [hwf] at hKD hBF hXF ⊢
      clear hwf d0 d1 hf
      have e0 := hXF.cell 0
      have e1 := hXF.cell 1
      refine bodyPost_ret (v := dval ⟨ba4, bc4, wa4, wc4⟩ (keptD D mk)) (by simp [results, Try.f40, go_sem, e0, e1, dval]) rfl ?_
      exact ⟨⟨ba4, bc4, wa4, wc4⟩, rfl, by rw [HBB.out]; exact hKD, by rw [HBB.out]; exact hBF⟩
set_option maxHeartbeats 2000000 in
theorem dSettled1_any (x : DAt) (D : DkL) (mk : Nat → Bool) (pa : Addr) (w : World) (h : Dsk w w.heap.size x D) (hmay : MayD D)
    (hF : ∀ W, Below w.heap.size w W → ∀ i, i < D.2.length → Calls Try.prog 46 #[.int .i64 (i : Nat), .pointer (some pa)] W fun e w' => e = .returned (.bool (mk i)) ∧ Below W.heap.size W w') :
    Calls Try.prog 40 #[dval x D, .func (.func 46) #[] #[.pointer (some pa)]] w (LaidPost (keptD D mk) w) := by
  obtain ⟨ba, bc, wa, wc⟩ := x
  have hl1 := hmay.1.1
  have hfits := may_fits (keptD_may hmay mk)
  have hkl := keptD_length D mk
  simp only [dval]
  rw [hl1]
  have hmk : ∀ W : World, (Instr.makeSlice 22 (.int .i64 256) (.int .i64 256)).run Try.prog W = .ok (.slice (some ⟨W.heap.size, 0, none⟩) 256 256) (W.alloc (.cells (Array.replicate 256 (.slice none 0 0)) 30)) := make_rows 256 (by omega)
  obtain ⟨m, hm⟩ : ∃ m, D.2.length = m := ⟨_, rfl⟩
  obtain ⟨B, hB⟩ : ∃ B, w.heap.size = B := ⟨_, rfl⟩
  obtain ⟨w0, hw0⟩ : ∃ w0, (w.alloc (.cells #[.slice ba 256 bc, .slice wa m wc] 25)).alloc (.cells #[.slice none 0 0, .slice none 0 0] 25) = w0 := ⟨_, rfl⟩
  have b0 : Below B w w0 := by rw [← hw0, ← hB]; exact ((Below.refl _ w).alloc (Nat.le_refl _) _).alloc (by simp) _
  have z0 : w0.heap.size = B + 2 := by rw [← hw0, ← hB]; simp
  have x0 : Blk w0 B 25 #[.slice ba 256 bc, .slice wa m wc] := by rw [← hw0, ← hB]; exact (Blk.new w _ _).alloc _
  have x1 : Blk w0 (B + 1) 25 #[.slice none 0 0, .slice none 0 0] := by
    have := Blk.new (w.alloc (.cells #[.slice ba 256 bc, .slice wa m wc] 25)) 25 #[.slice none 0 0, .slice none 0 0]
    rw [World.size_alloc, hB, hw0] at this
    exact this
  have hD0 : Dsk w0 B ⟨ba, bc, wa, wc⟩ D := by
    rw [← hB] at b0 ⊢
    exact ⟨h.1.below b0, h.2.below b0⟩
  have hW0 := (hD0.2.more (B' := w0.heap.size) (by omega))
  have hl := dLast1_any wa m wc D.2 mk pa w0 (by rw [← hm]; exact hW0) (fun W hW i hi => hF W (by rw [hB]; exact b0.trans (hW.mono (by omega))) i (by rw [hm]; exact hi))
  rw [hm]
  have c0 := x0.cell 0
  have c1 := x0.cell 1
  have HL := Lib.hid hl
  have HX0 := Lib.hid x0
  have HX1 := Lib.hid x1
  have HB0 := Lib.hid b0
  have HZ0 := Lib.hid z0
  have HD := Lib.hid hD0
  have HM := Lib.hid hm
  have HBB := Lib.hid hB
  have HMAY := Lib.hid hmay
  have HFI := Lib.hid hfits
  have HKL := Lib.hid hkl
  have HL1 := Lib.hid hl1
  clear hl x0 x1 b0 z0 hD0 hm hmay hF h hfits hkl hl1 hW0
  go_enter Try.func40, Try.ntmps40
  go_wp2_with fail
  clear hw0 c0 c1 hB
  refine HL.out.mono ?_
  rintro e w1 ⟨g, rfl, hge, hM1, b1⟩
  have c0 := (HX0.out.below b1 HX0.out.lt).cell 0
  have c1 := (HX0.out.below b1 HX0.out.lt).cell 1
  obtain ⟨hb, hhb⟩ : ∃ hb, w1.heap.size = hb := ⟨_, rfl⟩
  obtain ⟨w2, hw2⟩ : ∃ w2, w1.alloc (.cells (Array.replicate 256 (.slice none 0 0)) 30) = w2 := ⟨_, rfl⟩
  have ba2 : Below w1.heap.size w1 w2 := by rw [← hw2]; exact (Below.refl _ w1).alloc (Nat.le_refl _) _
  have b2 : Below w0.heap.size w0 w2 := b1.trans (ba2.mono b1.size)
  have hR0 : RowsI B (leftD D mk) hb 256 0 w2 := ⟨_, by rw [← hw2, ← hhb]; exact Blk.new w1 _ _, by simp, fun i hi => absurd hi (Nat.not_lt_zero _)⟩
  have hM2 : MapI w2 g m _ := hM1.below ba2 hM1.lt
  have hhb' : g < hb := by rw [← hhb]; exact hM1.lt
  have HB2 := Lib.hid b2
  have HR := Lib.hid hR0
  have HM2 := Lib.hid hM2
  have HGE := Lib.hid (And.intro hge hhb')
  clear b1 hM1 hge ba2 b2 hR0 hM2 hhb' HL
  go_wp2_with fail
  clear hhb hw2 c0 c1
  go_loopw [18] (fun i wr => ∃ k : Nat, k ≤ 256 ∧ i = .int .i64 k ∧ Hid (RowsI B (leftD D mk) hb 256 k wr) ∧ Hid (MapI wr g m (fun p => lastTo D.2 mk p m)) ∧ Hid (Below w0.heap.size w0 wr)) (fun i _ => 256 - (intOf i).toNat)
  case atStart => exact ⟨0, Nat.zero_le _, rfl, HR, HM2, HB2⟩
  case round =>
    obtain ⟨k, hk, rfl, HRr, HMr, HBr⟩ := hrel
    clear HR HM2 HB2
    have k0 : (0 : Int) ≤ k := by omega
    have hz := HZ0.out
    have hzr := HBr.out.size
    have xr := HX0.out.below HBr.out HX0.out.lt
    have d0 := xr.cell 0
    have d1 := xr.cell 1
    by_cases hlt : k < 256
    · have k1 : (k : Int) < 256 := by omega
      have hDr : Dsk wr B ⟨ba, bc, wa, wc⟩ D := ⟨HD.out.1.below (HBr.out.mono (by omega)), HD.out.2.below (HBr.out.mono (by omega))⟩
      have hcl := dLeft_any B ⟨ba, bc, wa, wc⟩ D g m mk k wr (by omega) hDr (by rw [HM.out]; exact HMr.out) (by rw [HL1.out]; exact hlt)
      simp only [dval] at hcl
      rw [HL1.out, HM.out] at hcl
      obtain ⟨s, hs⟩ : ∃ s, leftD D mk k = s := ⟨_, rfl⟩
      rw [hs] at hcl
      have HS := Lib.hid hs
      have HC := Lib.hid hcl
      clear hDr hcl hs xr hz
      go_wp2_with fail
      refine HC.out.mono ?_
      rintro e w3 ⟨A, c, rfl, h3, b3⟩
      have hBr := HBr.out.trans (b3.mono hzr)
      have hR3 := HRr.out.below (by have := HZ0.out; omega) b3
      have hM3 := HMr.out.below b3 HMr.out.lt
      obtain ⟨cb, y1, y2, _⟩ := id hR3
      obtain ⟨u3, hu3⟩ : ∃ u, w3.cell? ⟨hb, k, none⟩ = some u := ⟨_, by rw [y1.cell]; exact Array.getElem?_eq_getElem (by omega)⟩
      have hf3 := y1.frozen k
      have hge := HGE.out
      have hp := hR3.put (k := k) (A := A) (c := c) (by have := HZ0.out; omega) hlt (by rw [HS.out]; exact h3)
      rw [HS.out] at hp
      have gs : w3.grownBy (w3.setCell ⟨hb, k, none⟩ (.slice A s.length c)) (some hb) := only_setCell (World.grownBy.refl w3 _) (.inl rfl) _
      have HP := Lib.hid hp
      have HM3 := Lib.hid (hM3.kept gs (fun e => by have := Option.some.inj e; omega))
      have HB3 := Lib.hid (hBr.setCell (p := ⟨hb, k, none⟩) (by show w0.heap.size ≤ hb; omega) (.slice A s.length c))
      clear h3 b3 hBr hR3 hM3 y1 y2 hp gs HC d0 d1 hzr hge
      go_wp2_with fail
      go_roundw
      case rel => exact ⟨k + 1, by omega, by go_num, HP, HM3, HB3⟩
      case measure => simp [intOf]; omega
    · obtain rfl : k = 256 := by omega
      have hBl := HRr.out.bls (by omega) (by omega)
      have hkd : (keptD D mk).1 = (List.range 256).map (leftD D mk) := rfl
      rw [← hkd] at hBl
      have hla := dLaid_any ⟨some ⟨hb, 0, none⟩, 256, none, 0⟩ (keptD D mk) wr ⟨by rw [HKL.out]; exact hBl, wts_nil _ _⟩ HFI.out
      simp only [HKL.out] at hla
      have e2 : (keptD D mk).2.length = 0 := rfl
      rw [e2] at hla
      have x1r := HX1.out.below HBr.out HX1.out.lt
      have HLA := Lib.hid hla
      have HX1r := Lib.hid x1r
      have HBw := Lib.hid (HB0.out.trans (HBr.out.mono (by omega)))
      have HZR := Lib.hid (show B + 2 ≤ wr.heap.size by omega)
      clear hBl hkd hla e2 xr d0 d1 hz hzr x1r HRr HMr HBr
      go_wp2_with fail
      refine HLA.out.mono ?_
      rintro e w4 ⟨x4, rfl, h4, b4⟩
      have hz := HZR.out
      have y4 := HX1r.out.below b4 HX1r.out.lt
      have d0 := y4.cell 0
      have d1 := y4.cell 1
      have hf := fun i => y4.frozen i
      have hKD : ∀ (u v : Value), Laid ((w4.setCell ⟨B + 1, 0, none⟩ u).setCell ⟨B + 1, 1, none⟩ v) B x4 (keptD D mk) := fun u v => laid_far h4 (by omega) (by omega) u v
      have hBF : ∀ (u v : Value), Below B w ((w4.setCell ⟨B + 1, 0, none⟩ u).setCell ⟨B + 1, 1, none⟩ v) := fun u v => ((HBw.out.trans (b4.mono (by omega))).setCell (p := ⟨B + 1, 0, none⟩) (Nat.le_succ _) u).setCell (p := ⟨B + 1, 1, none⟩) (Nat.le_succ _) v
      have hXF := fun (u v : Value) => (y4.set_ 0 u).set_ 1 v
      have HK := Lib.hid hKD
      have HBF := Lib.hid hBF
      have HXF := Lib.hid hXF
      obtain ⟨ba4, bc4, wa4, wc4⟩ := x4
      clear h4 b4 y4 hz hKD hBF hXF HLA HX1r HBw
      simp only [dval]
      go_wp2_with fail
      have hKD := HK.out (.slice ba4 (keptD D mk).1.length bc4) (.slice wa4 (keptD D mk).2.length wc4)
      have hBF := HBF.out (.slice ba4 (keptD D mk).1.length bc4) (.slice wa4 (keptD D mk).2.length wc4)
      have hXF := HXF.out (.slice ba4 (keptD D mk).1.length bc4) (.slice wa4 (keptD D mk).2.length wc4)
      obtain ⟨wf, hwf⟩ : ∃ wf, ((w4.setCell ⟨B + 1, 0, none⟩ (.slice ba4 (keptD D mk).1.length bc4)).setCell ⟨B + 1, 1, none⟩ (.slice wa4 (keptD D mk).2.length wc4)) = wf := ⟨_, rfl⟩
      rw [hwf] at hKD hBF hXF ⊢
      clear hwf d0 d1 hf
      have e0 := hXF.cell 0
      have e1 := hXF.cell 1
      refine bodyPost_ret (v := dval ⟨ba4, bc4, wa4, wc4⟩ (keptD D mk)) (by simp [results, Try.f40, go_sem, e0, e1, dval]) rfl ?_
      exact ⟨⟨ba4, bc4, wa4, wc4⟩, rfl, by rw [HBB.out]; exact hKD, by rw [HBB.out]; exact hBF⟩
end Go.Proofs.Ytgpojnhhcobcbaa
