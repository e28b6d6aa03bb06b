/-
  dev.Check, Flush, Crash, Twin: what they answer, whatever disk they are handed.
-/
import Derived.Test.YtgpojnhhcobcbaaDevSettled
namespace Go.Proofs.Ytgpojnhhcobcbaa
open Go.RowKit Go.Shelf
set_option maxRecDepth 100000

/-- A disk that is answered: none, or one laid in a new piece. -/
def OutD (w : World) (lo : Nat) (x : DAt) (D : DkL) : Prop := (x = ⟨none, 0, none, 0⟩ ∧ D = ([], [])) ∨ Laid w lo x D
theorem OutD.dsk {w : World} {lo : Nat} {x : DAt} {D : DkL} (h : OutD w lo x D) : Dsk w w.heap.size x D := by
  rcases h with ⟨rfl, rfl⟩ | h
  · exact ⟨bls_nil _ _, wts_nil _ _⟩
  · exact h.dsk
theorem OutD.below {w w' : World} {lo : Nat} {x : DAt} {D : DkL} (h : OutD w lo x D) (hb : Below w.heap.size w w') : OutD w' lo x D := h.imp id fun h => h.below hb
theorem OutD.lower {w : World} {lo lo' : Nat} {x : DAt} {D : DkL} (h : OutD w lo x D) (hl : lo' ≤ lo) : OutD w lo' x D := h.imp id fun h => h.lower hl
/-- A disk and an error's number. -/
def ToldD (o : DkL × Int) (w : World) (e : Ending) (w' : World) : Prop := ∃ x', e = .returned (.tuple #[dval x' o.1, .int .i64 o.2]) ∧ OutD w' w.heap.size x' o.1 ∧ Below w.heap.size w w'
/-- An error, and no disk. -/
theorem toldD_no {c : Int} {w : World} {e : Ending} {w' : World} (he : e = .returned (.tuple #[.agg #[.slice none 0 0, .slice none 0 0], .int .i64 c])) (hb : Below w.heap.size w w') : ToldD (([], []), c) w e w' := ⟨⟨none, 0, none, 0⟩, he, .inl ⟨rfl, rfl⟩, hb⟩
def flushO (D : DkL) : DkL × Int := if MayD D then (keptD D (fun _ => true), 0) else (([], []), 8)
def crashO (D : DkL) (ks : List Bool) : DkL × Int := if MayD D then (if ks.length = D.2.length then (keptD D (fun i => ks.getD i false), 0) else (([], []), 2)) else (([], []), 8)
def checkO (D : DkL) : Int := if MayD D then 0 else 8
theorem dCheck_any (x : DAt) (D : DkL) (w : World) (h : Dsk w w.heap.size x D) : Calls Try.prog 20 #[dval x D] w fun e w' => e = .returned (.int .i64 (checkO D)) ∧ Below w.heap.size w w' := by
  have b0 := (Below.refl w.heap.size w).alloc (Nat.le_refl _) (.cells #[.slice x.ba D.1.length x.bc, .slice x.wa D.2.length x.wc] 25)
  have h0 := h.step b0
  unfold checkO
  by_cases hm : MayD D
  · rw [if_pos hm]
    have HC := Lib.hid (dMay_yes x D _ h0 hm)
    simp only [dval] at HC ⊢
    have HB := Lib.hid b0
    clear b0 h0 h hm
    go_enter Try.func20, Try.ntmps20
    go_wp2_with fail
    refine HC.out.mono ?_
    rintro e w1 ⟨rfl, b1⟩
    have HB1 := Lib.hid (HB.out.trans (b1.mono HB.out.size))
    clear b1
    go_wp2_with fail
    go_ret
    exact ⟨rfl, HB1.out⟩
  · rw [if_neg hm]
    have HC := Lib.hid (dMay_no x D _ h0 hm)
    simp only [dval] at HC ⊢
    have HB := Lib.hid b0
    clear b0 h0 h hm
    go_enter Try.func20, Try.ntmps20
    go_wp2_with fail
    refine HC.out.mono ?_
    rintro e w1 ⟨rfl, b1⟩
    have HB1 := Lib.hid (HB.out.trans (b1.mono HB.out.size))
    clear b1
    go_wp2_with fail
    go_ret
    exact ⟨rfl, HB1.out⟩
/-- Boxed, and room for the answer. -/
theorem two_boxes (w : World) (u v : Value) : ∃ w0, (w.alloc (.cells #[u, v] 25)).alloc (.cells #[.slice none 0 0, .slice none 0 0] 25) = w0 ∧ Below w.heap.size w w0 ∧ w0.heap.size = w.heap.size + 2 ∧ Blk w0 w.heap.size 25 #[u, v] ∧ Blk w0 (w.heap.size + 1) 25 #[.slice none 0 0, .slice none 0 0] := by
  refine ⟨_, rfl, ((Below.refl _ w).alloc (Nat.le_refl _) _).alloc (by simp) _, by simp, (Blk.new w _ _).alloc _, ?_⟩
  have := Blk.new (w.alloc (.cells #[u, v] 25)) 25 #[.slice none 0 0, .slice none 0 0]
  rw [World.size_alloc] at this
  exact this
theorem three_boxes (w : World) (u v k : Value) : ∃ w0, ((w.alloc (.cells #[u, v] 25)).alloc (.cells #[k] 49)).alloc (.cells #[.slice none 0 0, .slice none 0 0] 25) = w0 ∧ Below w.heap.size w w0 ∧ w0.heap.size = w.heap.size + 3 ∧ Blk w0 w.heap.size 25 #[u, v] ∧ Blk w0 (w.heap.size + 1) 49 #[k] ∧ Blk w0 (w.heap.size + 2) 25 #[.slice none 0 0, .slice none 0 0] :=
  ⟨_, rfl, below_alloc3' w _ _ _, by simp, blk3_0 w _ _ _ _, blk3_1 w _ _ _ _, blk3_2 w _ _ _ _⟩
set_option maxHeartbeats 1000000 in
theorem dFlush_any (x : DAt) (D : DkL) (w : World) (h : Dsk w w.heap.size x D) : Calls Try.prog 15 #[dval x D] w (ToldD (flushO D) w) := by
  obtain ⟨w0, hw0, b0, z0, x0, x1⟩ := two_boxes w (.slice x.ba D.1.length x.bc) (.slice x.wa D.2.length x.wc)
  have h0 := h.step b0
  have c0 := x0.cell 0
  have c1 := x0.cell 1
  have HX0 := Lib.hid x0
  have HX1 := Lib.hid x1
  have HB := Lib.hid b0
  have HZ := Lib.hid z0
  have HD := Lib.hid h0
  unfold flushO
  by_cases hm : MayD D
  · rw [if_pos hm]
    have HC := Lib.hid (dMay_yes x D _ h0 hm)
    have HM := Lib.hid hm
    simp only [dval] at HC ⊢
    clear b0 h0 h hm x0 x1 z0
    go_enter Try.func15, Try.ntmps15
    go_wp2_with fail
    clear hw0 c0 c1
    refine HC.out.mono ?_
    rintro e w1 ⟨rfl, b1⟩
    have c0 := (HX0.out.below b1 HX0.out.lt).cell 0
    have c1 := (HX0.out.below b1 HX0.out.lt).cell 1
    have hs := dSettled0_any x D (fun _ => true) w1 (HD.out.step b1) HM.out (fun W _ i _ => dAllMarks i W)
    simp only [dval] at hs
    have HS := Lib.hid hs
    have HX2 := Lib.hid (HX1.out.below b1 HX1.out.lt)
    have HB1 := Lib.hid (HB.out.trans (b1.mono HB.out.size))
    have HZ1 := Lib.hid (show w.heap.size + 2 ≤ w1.heap.size by have := b1.size; have := HZ.out; omega)
    clear b1 hs HC
    go_wp2_with fail
    refine HS.out.mono ?_
    rintro e w2 ⟨x2, rfl, h2, b2⟩
    clear c0 c1
    have y2 := HX2.out.below b2 HX2.out.lt
    have d0 := y2.cell 0
    have d1 := y2.cell 1
    have hf := fun i => y2.frozen i
    have hz := HZ1.out
    have HK := Lib.hid (fun (u v : Value) => laid_far (g := w.heap.size + 1) (lo' := w.heap.size) h2 (by omega) (by omega) u v)
    have HBF := Lib.hid (fun (u v : Value) => ((HB1.out.trans (b2.mono (by omega))).setCell (p := ⟨w.heap.size + 1, 0, none⟩) (Nat.le_add_right _ _) u).setCell (p := ⟨w.heap.size + 1, 1, none⟩) (Nat.le_add_right _ _) v)
    have HXF := Lib.hid (fun (u v : Value) => (y2.set_ 0 u).set_ 1 v)
    obtain ⟨K, hK⟩ : ∃ K, keptD D (fun _ => true) = K := ⟨_, rfl⟩
    rw [hK] at HK ⊢
    have HK0 := Lib.hid hK
    obtain ⟨ba2, bc2, wa2, wc2⟩ := x2
    clear h2 b2 y2 hz hK
    simp only [dval]
    go_wp2_with fail
    have hKD := HK.out (.slice ba2 K.1.length bc2) (.slice wa2 K.2.length wc2)
    have hBF := HBF.out (.slice ba2 K.1.length bc2) (.slice wa2 K.2.length wc2)
    have hXF := HXF.out (.slice ba2 K.1.length bc2) (.slice wa2 K.2.length wc2)
    obtain ⟨wf, hwf⟩ : ∃ wf, ((w2.setCell ⟨w.heap.size + 1, 0, none⟩ (.slice ba2 K.1.length bc2)).setCell ⟨w.heap.size + 1, 1, none⟩ (.slice wa2 K.2.length wc2)) = wf := ⟨_, rfl⟩
    rw [hwf] at hKD hBF hXF ⊢
    clear hwf d0 d1 hf
    have e0 := hXF.cell 0
    have e1 := hXF.cell 1
    refine bodyPost_ret (v := .tuple #[dval ⟨ba2, bc2, wa2, wc2⟩ K, .int .i64 0]) (by simp [results, Try.f15, go_sem, e0, e1, dval]) rfl ?_
    exact ⟨⟨ba2, bc2, wa2, wc2⟩, by rw [HK0.out], .inr (by rw [HK0.out]; exact hKD), hBF⟩
  · rw [if_neg hm]
    have HC := Lib.hid (dMay_no x D _ h0 hm)
    simp only [dval] at HC ⊢
    clear b0 h0 h hm x0 x1 z0
    go_enter Try.func15, Try.ntmps15
    go_wp2_with fail
    clear hw0 c0 c1
    refine HC.out.mono ?_
    rintro e w1 ⟨rfl, b1⟩
    have y2 := HX1.out.below b1 HX1.out.lt
    have d0 := y2.cell 0
    have d1 := y2.cell 1
    have hf := fun i => y2.frozen i
    have HY := Lib.hid y2
    have HB1 := Lib.hid (HB.out.trans (b1.mono HB.out.size))
    clear b1 y2
    go_wp2_with fail
    have hBF := (HB1.out.setCell (p := ⟨w.heap.size + 1, 0, none⟩) (Nat.le_add_right _ _) (.slice none 0 0)).setCell (p := ⟨w.heap.size + 1, 1, none⟩) (Nat.le_add_right _ _) (.slice none 0 0)
    have hXF := (HY.out.set_ 0 (.slice none 0 0)).set_ 1 (.slice none 0 0)
    obtain ⟨wf, hwf⟩ : ∃ wf, ((w1.setCell ⟨w.heap.size + 1, 0, none⟩ (.slice none 0 0)).setCell ⟨w.heap.size + 1, 1, none⟩ (.slice none 0 0)) = wf := ⟨_, rfl⟩
    rw [hwf] at hBF hXF ⊢
    clear hwf d0 d1 hf
    have e0 := hXF.cell 0
    have e1 := hXF.cell 1
    exact bodyPost_ret (v := .tuple #[.agg #[.slice none 0 0, .slice none 0 0], .int .i64 8]) (by simp [results, Try.f15, go_sem, e0, e1]) rfl (toldD_no rfl hBF)
set_option maxHeartbeats 1000000 in
theorem dTwin_any (x : DAt) (D : DkL) (w : World) (h : Dsk w w.heap.size x D) (hf : Fits D) : Calls Try.prog 31 #[dval x D] w (LaidPost D w) := by
  obtain ⟨w0, hw0, b0, z0, x0, x1⟩ := two_boxes w (.slice x.ba D.1.length x.bc) (.slice x.wa D.2.length x.wc)
  have h0 := h.step b0
  have c0 := x0.cell 0
  have c1 := x0.cell 1
  have HX2 := Lib.hid x1
  have HB1 := Lib.hid b0
  have HZ1 := Lib.hid (Nat.le_of_eq z0.symm)
  have HS := Lib.hid (dLaid_any x D w0 h0 hf)
  simp only [dval]
  clear b0 h0 h x0 x1 z0 hf
  go_enter Try.func31, Try.ntmps31
  go_wp2_with fail
  clear hw0
  refine HS.out.mono ?_
  rintro e w2 ⟨x2, rfl, h2, b2⟩
  clear c0 c1
  have y2 := HX2.out.below b2 HX2.out.lt
  have d0 := y2.cell 0
  have d1 := y2.cell 1
  have hf := fun i => y2.frozen i
  have hz := HZ1.out
  have HK := Lib.hid (fun (u v : Value) => laid_far (g := w.heap.size + 1) (lo' := w.heap.size) h2 (by omega) (by omega) u v)
  have HBF := Lib.hid (fun (u v : Value) => ((HB1.out.trans (b2.mono (by omega))).setCell (p := ⟨w.heap.size + 1, 0, none⟩) (Nat.le_add_right _ _) u).setCell (p := ⟨w.heap.size + 1, 1, none⟩) (Nat.le_add_right _ _) v)
  have HXF := Lib.hid (fun (u v : Value) => (y2.set_ 0 u).set_ 1 v)
  obtain ⟨ba2, bc2, wa2, wc2⟩ := x2
  clear h2 b2 y2 hz
  simp only [dval]
  go_wp2_with fail
  have hKD := HK.out (.slice ba2 D.1.length bc2) (.slice wa2 D.2.length wc2)
  have hBF := HBF.out (.slice ba2 D.1.length bc2) (.slice wa2 D.2.length wc2)
  have hXF := HXF.out (.slice ba2 D.1.length bc2) (.slice wa2 D.2.length wc2)
  obtain ⟨wf, hwf⟩ : ∃ wf, ((w2.setCell ⟨w.heap.size + 1, 0, none⟩ (.slice ba2 D.1.length bc2)).setCell ⟨w.heap.size + 1, 1, none⟩ (.slice wa2 D.2.length wc2)) = wf := ⟨_, rfl⟩
  rw [hwf] at hKD hBF hXF ⊢
  clear hwf d0 d1 hf
  have e0 := hXF.cell 0
  have e1 := hXF.cell 1
  refine bodyPost_ret (v := dval ⟨ba2, bc2, wa2, wc2⟩ D) (by simp [results, Try.f31, go_sem, e0, e1, dval]) rfl ?_
  exact ⟨⟨ba2, bc2, wa2, wc2⟩, rfl, hKD, hBF⟩
set_option maxHeartbeats 1000000 in
theorem dCrash_any (x : DAt) (D : DkL) (a : Option Addr) (n c : Nat) (ks : List Bool) (w : World) (h : Dsk w w.heap.size x D) (hk : Mks w w.heap.size a n c ks) : Calls Try.prog 18 #[dval x D, .slice a n c] w (ToldD (crashO D ks) w) := by
  have hkn := hk.1
  have n1 := hk.len_le
  have m1 := h.2.len_le
  obtain ⟨w0, hw0, b0, z0, x0, xk, x1⟩ := three_boxes w (.slice x.ba D.1.length x.bc) (.slice x.wa D.2.length x.wc) (.slice a n c)
  have h0 := h.step b0
  have c0 := x0.cell 0
  have c1 := x0.cell 1
  have ck := xk.cell 0
  have HX0 := Lib.hid x0
  have HXk := Lib.hid xk
  have HX1 := Lib.hid x1
  have HB := Lib.hid b0
  have HZ := Lib.hid z0
  have HD := Lib.hid h0
  have hk0 := hk.step b0
  have n0 : (0 : Int) ≤ n := by omega
  have HMk := Lib.hid hk0
  unfold crashO
  by_cases hm : MayD D
  · rw [if_pos hm]
    have hc := dMay_yes x D _ h0 hm
    have HM := Lib.hid hm
    simp only [dval] at hc ⊢
    by_cases he : ks.length = D.2.length
    · rw [if_pos he]
      obtain ⟨m, hm'⟩ : ∃ m, D.2.length = m := ⟨_, rfl⟩
      obtain rfl : n = m := by omega
      rw [hm'] at hc c1 m1 hw0 HX0 ⊢
      have HC := Lib.hid hc
      have HLN := Lib.hid hm'
      have hne : ((n : Int) != n) = false := by simp
      clear b0 h0 h hm x0 x1 xk z0 hk hk0 he hkn hc hm'
      go_enter Try.func18, Try.ntmps18
      go_wp2_with fail
      clear hw0 c0 c1 ck
      refine HC.out.mono ?_
      rintro e w1 ⟨rfl, b1⟩
      have c0 := (HX0.out.below b1 HX0.out.lt).cell 0
      have c1 := (HX0.out.below b1 HX0.out.lt).cell 1
      have ck := (HXk.out.below b1 HXk.out.lt).cell 0
      have hs := dSettled1_any x D (fun i => ks.getD i false) ⟨w.heap.size + 1, 0, none⟩ w1 (HD.out.step b1) HM.out (fun W hW i hi => dMark_any w1.heap.size a n c ks (w.heap.size + 1) i W ((HMk.out.step b1).below hW) (((HXk.out.below b1 HXk.out.lt).below hW (by have := HXk.out.lt; have := b1.size; omega)).cell 0) (by rw [← HLN.out]; exact hi))
      simp only [dval] at hs
      rw [HLN.out] at hs
      have HS := Lib.hid hs
      have HX2 := Lib.hid (HX1.out.below b1 HX1.out.lt)
      have HB1 := Lib.hid (HB.out.trans (b1.mono HB.out.size))
      have HZ1 := Lib.hid (show w.heap.size + 3 ≤ w1.heap.size by have := b1.size; have := HZ.out; omega)
      clear b1 hs HC
      go_wp2_with fail
      clear ck hne
      refine HS.out.mono ?_
      rintro e w2 ⟨x2, rfl, h2, b2⟩
      clear c0 c1
      have y2 := HX2.out.below b2 HX2.out.lt
      have d0 := y2.cell 0
      have d1 := y2.cell 1
      have hf := fun i => y2.frozen i
      have hz := HZ1.out
      have HK := Lib.hid (fun (u v : Value) => laid_far (g := w.heap.size + 2) (lo' := w.heap.size) h2 (by omega) (by omega) u v)
      have HBF := Lib.hid (fun (u v : Value) => ((HB1.out.trans (b2.mono (by omega))).setCell (p := ⟨w.heap.size + 2, 0, none⟩) (Nat.le_add_right _ _) u).setCell (p := ⟨w.heap.size + 2, 1, none⟩) (Nat.le_add_right _ _) v)
      have HXF := Lib.hid (fun (u v : Value) => (y2.set_ 0 u).set_ 1 v)
      obtain ⟨K, hK⟩ : ∃ K, keptD D (fun i => ks.getD i false) = K := ⟨_, rfl⟩
      rw [hK] at HK ⊢
      have HK0 := Lib.hid hK
      obtain ⟨ba2, bc2, wa2, wc2⟩ := x2
      clear h2 b2 y2 hz hK
      simp only [dval]
      go_wp2_with fail
      have hKD := HK.out (.slice ba2 K.1.length bc2) (.slice wa2 K.2.length wc2)
      have hBF := HBF.out (.slice ba2 K.1.length bc2) (.slice wa2 K.2.length wc2)
      have hXF := HXF.out (.slice ba2 K.1.length bc2) (.slice wa2 K.2.length wc2)
      obtain ⟨wf, hwf⟩ : ∃ wf, ((w2.setCell ⟨w.heap.size + 2, 0, none⟩ (.slice ba2 K.1.length bc2)).setCell ⟨w.heap.size + 2, 1, none⟩ (.slice wa2 K.2.length wc2)) = wf := ⟨_, rfl⟩
      rw [hwf] at hKD hBF hXF ⊢
      clear hwf d0 d1 hf
      have e0 := hXF.cell 0
      have e1 := hXF.cell 1
      refine bodyPost_ret (v := .tuple #[dval ⟨ba2, bc2, wa2, wc2⟩ K, .int .i64 0]) (by simp [results, Try.f18, go_sem, e0, e1, dval]) rfl ?_
      exact ⟨⟨ba2, bc2, wa2, wc2⟩, by rw [HK0.out], .inr (by rw [HK0.out]; exact hKD), hBF⟩
    · rw [if_neg he]
      have hne : ((n : Int) != (D.2.length : Nat)) = true := by simp; omega
      have HC := Lib.hid hc
      clear b0 h0 h hm x0 x1 xk z0 hk hk0 he hkn hc HM
      go_enter Try.func18, Try.ntmps18
      go_wp2_with fail
      clear hw0 c0 c1 ck
      refine HC.out.mono ?_
      rintro e w1 ⟨rfl, b1⟩
      have y2 := HX1.out.below b1 HX1.out.lt
      have d0 := y2.cell 0
      have d1 := y2.cell 1
      have hf := fun i => y2.frozen i
      have HY := Lib.hid y2
      have HB1 := Lib.hid (HB.out.trans (b1.mono HB.out.size))
      have c0 := (HX0.out.below b1 HX0.out.lt).cell 0
      have c1 := (HX0.out.below b1 HX0.out.lt).cell 1
      have ck := (HXk.out.below b1 HXk.out.lt).cell 0
      clear b1 y2
      go_wp2_with fail
      clear c0 c1 ck
      have hBF := (HB1.out.setCell (p := ⟨w.heap.size + 2, 0, none⟩) (Nat.le_add_right _ _) (.slice none 0 0)).setCell (p := ⟨w.heap.size + 2, 1, none⟩) (Nat.le_add_right _ _) (.slice none 0 0)
      have hXF := (HY.out.set_ 0 (.slice none 0 0)).set_ 1 (.slice none 0 0)
      obtain ⟨wf, hwf⟩ : ∃ wf, ((w1.setCell ⟨w.heap.size + 2, 0, none⟩ (.slice none 0 0)).setCell ⟨w.heap.size + 2, 1, none⟩ (.slice none 0 0)) = wf := ⟨_, rfl⟩
      rw [hwf] at hBF hXF ⊢
      clear hwf d0 d1 hf
      have e0 := hXF.cell 0
      have e1 := hXF.cell 1
      exact bodyPost_ret (v := .tuple #[.agg #[.slice none 0 0, .slice none 0 0], .int .i64 2]) (by simp [results, Try.f18, go_sem, e0, e1]) rfl (toldD_no rfl hBF)
  · rw [if_neg hm]
    have HC := Lib.hid (dMay_no x D _ h0 hm)
    simp only [dval] at HC ⊢
    clear b0 h0 h hm x0 x1 xk z0 hk hk0 hkn
    go_enter Try.func18, Try.ntmps18
    go_wp2_with fail
    clear hw0 c0 c1 ck
    refine HC.out.mono ?_
    rintro e w1 ⟨rfl, b1⟩
    have y2 := HX1.out.below b1 HX1.out.lt
    have d0 := y2.cell 0
    have d1 := y2.cell 1
    have hf := fun i => y2.frozen i
    have HY := Lib.hid y2
    have HB1 := Lib.hid (HB.out.trans (b1.mono HB.out.size))
    have c0 := (HX0.out.below b1 HX0.out.lt).cell 0
    have c1 := (HX0.out.below b1 HX0.out.lt).cell 1
    have ck := (HXk.out.below b1 HXk.out.lt).cell 0
    clear b1 y2
    go_wp2_with fail
    clear c0 c1 ck
    have hBF := (HB1.out.setCell (p := ⟨w.heap.size + 2, 0, none⟩) (Nat.le_add_right _ _) (.slice none 0 0)).setCell (p := ⟨w.heap.size + 2, 1, none⟩) (Nat.le_add_right _ _) (.slice none 0 0)
    have hXF := (HY.out.set_ 0 (.slice none 0 0)).set_ 1 (.slice none 0 0)
    obtain ⟨wf, hwf⟩ : ∃ wf, ((w1.setCell ⟨w.heap.size + 2, 0, none⟩ (.slice none 0 0)).setCell ⟨w.heap.size + 2, 1, none⟩ (.slice none 0 0)) = wf := ⟨_, rfl⟩
    rw [hwf] at hBF hXF ⊢
    clear hwf d0 d1 hf
    have e0 := hXF.cell 0
    have e1 := hXF.cell 1
    exact bodyPost_ret (v := .tuple #[.agg #[.slice none 0 0, .slice none 0 0], .int .i64 8]) (by simp [results, Try.f18, go_sem, e0, e1]) rfl (toldD_no rfl hBF)
end Go.Proofs.Ytgpojnhhcobcbaa
