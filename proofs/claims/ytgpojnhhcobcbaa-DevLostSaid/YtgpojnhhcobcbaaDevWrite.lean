/-
  dev.Write: what it answers, whatever disk, place and bytes it is handed.
-/
import Derived.Test.YtgpojnhhcobcbaaDevConcat
import Derived.Test.YtgpojnhhcobcbaaDevTop
namespace Go.Proofs.Ytgpojnhhcobcbaa
open Go.RowKit Go.Shelf
set_option maxRecDepth 100000

/-- A disk on which one more write waits. -/
def withD (D : DkL) (p : Int) (s : List UInt8) : DkL := (D.1, D.2 ++ [(p, s)])
def writeO (D : DkL) (p : Int) (s : List UInt8) : DkL × Int :=
  if MayD D then (if 0 ≤ p ∧ p < 256 then (if s.length = 256 then (if D.2.length = 4096 then (([], []), 9) else (withD D p s, 0)) else (([], []), 3)) else (([], []), 2)) else (([], []), 8)
theorem wr_with (ws : WrL) (p : Int) (s : List UInt8) : (∀ i, i < ws.length → wr_ (ws ++ [(p, s)]) i = wr_ ws i) ∧ wr_ (ws ++ [(p, s)]) ws.length = (p, s) := by
  unfold wr_
  refine ⟨fun i hi => ?_, ?_⟩
  · rw [List.getD_eq_getElem?_getD, List.getElem?_append_left hi, ← List.getD_eq_getElem?_getD]
  · rw [List.getD_eq_getElem?_getD, List.getElem?_append_right (Nat.le_refl _), Nat.sub_self]
    rfl
theorem sumW_congr {a b : WrL} : ∀ {n : Nat}, (∀ i, i < n → wr_ a i = wr_ b i) → sumW a n = sumW b n
  | 0, _ => rfl
  | n + 1, h => by
    unfold sumW
    rw [sumW_congr (fun i hi => h i (by omega)), h n (by omega)]
theorem with_may {D : DkL} {p : Int} {s : List UInt8} (h : MayD D) (hp : 0 ≤ p ∧ p < 256) (hs : s.length = 256) (hn : D.2.length ≠ 4096) : MayD (withD D p s) := by
  obtain ⟨h1, h2, h3⟩ := h
  obtain ⟨e1, e2⟩ := wr_with D.2 p s
  refine ⟨h1, by show (D.2 ++ [(p, s)]).length ≤ 4096; rw [List.length_append]; simp; omega, fun i hi => ?_⟩
  have hi' : i < D.2.length + 1 := by have : i < (D.2 ++ [(p, s)]).length := hi; rwa [List.length_append] at this
  show (0 ≤ (wr_ (D.2 ++ [(p, s)]) i).1 ∧ (wr_ (D.2 ++ [(p, s)]) i).1 < 256) ∧ (wr_ (D.2 ++ [(p, s)]) i).2.length = 256
  rcases Nat.lt_or_ge i D.2.length with h4 | h4
  · rw [e1 i h4]
    exact h3 i h4
  · obtain rfl : i = D.2.length := by omega
    rw [e2]
    exact ⟨hp, hs⟩
def WriteGoes (D : DkL) (p : Int) (s : List UInt8) : Prop := MayD D ∧ (0 ≤ p ∧ p < 256) ∧ s.length = 256 ∧ D.2.length ≠ 4096
/-- The ways that are refused. -/
theorem dWrite_no (x : DAt) (D : DkL) (p : Int) (a : Option Addr) (n c : Nat) (s : List UInt8) (w : World) (h : Dsk w w.heap.size x D) (hs : Bsl w w.heap.size a n c s) (hno : ¬ WriteGoes D p s) : Calls Try.prog 12 #[dval x D, .int .i64 p, .slice a n c] w (ToldD (writeO D p s) w) := by
  obtain ⟨w0, hw0, b0, z0, x0, x1⟩ := two_boxes w (.slice x.ba D.1.length x.bc) (.slice x.wa D.2.length x.wc)
  have h0 := h.step b0
  have c0 := x0.cell 0
  have c1 := x0.cell 1
  have HX0 := Lib.hid x0
  have HX1 := Lib.hid x1
  have HB := Lib.hid b0
  have hbk := dIsBlock_any p
  have hlg := dIsLong_any a n c
  have hsl := hs.1
  unfold writeO
  by_cases hm : MayD D
  · rw [if_pos hm]
    have HC := Lib.hid (dMay_yes x D _ h0 hm)
    simp only [dval] at HC ⊢
    by_cases hp : 0 ≤ p ∧ p < 256
    · rw [if_pos hp]
      simp only [decide_eq_true hp] at hbk
      have HBK := Lib.hid hbk
      by_cases hl : s.length = 256
      · have hf4 : D.2.length = 4096 := Classical.byContradiction fun hh => hno ⟨hm, hp, hl, hh⟩
        rw [if_pos hl, if_pos hf4]
        have hn : n = 256 := by omega
        simp only [decide_eq_true hn] at hlg
        have HLG := Lib.hid hlg
        rw [hf4] at hw0 HX0 c1 HC ⊢
        clear b0 h0 h hm x0 x1 z0 hbk hlg hno hp hl hsl hs hf4 hn
        go_enter Try.func12, Try.ntmps12
        go_wp2_with fail
        clear hw0 c0 c1
        refine HC.out.mono ?_
        rintro e w1 ⟨rfl, b1⟩
        have HX01 := Lib.hid (HX0.out.below b1 HX0.out.lt)
        have HY := Lib.hid (HX1.out.below b1 HX1.out.lt)
        have HB1 := Lib.hid (HB.out.trans (b1.mono HB.out.size))
        clear b1
        go_wp2_with fail
        refine (HBK.out _).mono ?_
        rintro e w1' ⟨rfl, rfl⟩
        go_wp2_with fail
        refine (HLG.out _).mono ?_
        rintro e w1' ⟨rfl, rfl⟩
        have c1 := HX01.out.cell 1
        have d0 := HY.out.cell 0
        have d1 := HY.out.cell 1
        have hf := fun i => HY.out.frozen i
        go_wp2_with fail
        clear c1
        have hBF := (HB1.out.setCell (p := ⟨w.heap.size + 1, 0, none⟩) (Nat.le_add_right _ _) (.slice none 0 0)).setCell (p := ⟨w.heap.size + 1, 1, none⟩) (Nat.le_add_right _ _) (.slice none 0 0)
        have hXF := (HY.out.set_ 0 (.slice none 0 0)).set_ 1 (.slice none 0 0)
        obtain ⟨wf, hwf⟩ : ∃ wf, ((w1.setCell ⟨w.heap.size + 1, 0, none⟩ (.slice none 0 0)).setCell ⟨w.heap.size + 1, 1, none⟩ (.slice none 0 0)) = wf := ⟨_, rfl⟩
        rw [hwf] at hBF hXF ⊢
        clear hwf d0 d1 hf
        have e0 := hXF.cell 0
        have e1 := hXF.cell 1
        exact bodyPost_ret (v := .tuple #[.agg #[.slice none 0 0, .slice none 0 0], .int .i64 9]) (by simp [results, Try.f12, go_sem, e0, e1]) rfl (toldD_no rfl hBF)
      · rw [if_neg hl]
        have hn : n ≠ 256 := by omega
        simp only [decide_eq_false hn] at hlg
        have HLG := Lib.hid hlg
        clear b0 h0 h hm x0 x1 z0 hbk hlg hno hp hl hsl hs hn
        go_enter Try.func12, Try.ntmps12
        go_wp2_with fail
        clear hw0 c0 c1
        refine HC.out.mono ?_
        rintro e w1 ⟨rfl, b1⟩
        have HX01 := Lib.hid (HX0.out.below b1 HX0.out.lt)
        have HY := Lib.hid (HX1.out.below b1 HX1.out.lt)
        have HB1 := Lib.hid (HB.out.trans (b1.mono HB.out.size))
        clear b1
        go_wp2_with fail
        refine (HBK.out _).mono ?_
        rintro e w1' ⟨rfl, rfl⟩
        go_wp2_with fail
        refine (HLG.out _).mono ?_
        rintro e w1' ⟨rfl, rfl⟩
        have c1 := HX01.out.cell 1
        have d0 := HY.out.cell 0
        have d1 := HY.out.cell 1
        have hf := fun i => HY.out.frozen i
        go_wp2_with fail
        clear c1
        have hBF := (HB1.out.setCell (p := ⟨w.heap.size + 1, 0, none⟩) (Nat.le_add_right _ _) (.slice none 0 0)).setCell (p := ⟨w.heap.size + 1, 1, none⟩) (Nat.le_add_right _ _) (.slice none 0 0)
        have hXF := (HY.out.set_ 0 (.slice none 0 0)).set_ 1 (.slice none 0 0)
        obtain ⟨wf, hwf⟩ : ∃ wf, ((w1.setCell ⟨w.heap.size + 1, 0, none⟩ (.slice none 0 0)).setCell ⟨w.heap.size + 1, 1, none⟩ (.slice none 0 0)) = wf := ⟨_, rfl⟩
        rw [hwf] at hBF hXF ⊢
        clear hwf d0 d1 hf
        have e0 := hXF.cell 0
        have e1 := hXF.cell 1
        exact bodyPost_ret (v := .tuple #[.agg #[.slice none 0 0, .slice none 0 0], .int .i64 3]) (by simp [results, Try.f12, go_sem, e0, e1]) rfl (toldD_no rfl hBF)
    · rw [if_neg hp]
      simp only [decide_eq_false hp] at hbk
      have HBK := Lib.hid hbk
      clear b0 h0 h hm x0 x1 z0 hbk hlg hno hp hsl hs
      go_enter Try.func12, Try.ntmps12
      go_wp2_with fail
      clear hw0 c0 c1
      refine HC.out.mono ?_
      rintro e w1 ⟨rfl, b1⟩
      have HX01 := Lib.hid (HX0.out.below b1 HX0.out.lt)
      have HY := Lib.hid (HX1.out.below b1 HX1.out.lt)
      have HB1 := Lib.hid (HB.out.trans (b1.mono HB.out.size))
      clear b1
      go_wp2_with fail
      refine (HBK.out _).mono ?_
      rintro e w1' ⟨rfl, rfl⟩
      have c1 := HX01.out.cell 1
      have d0 := HY.out.cell 0
      have d1 := HY.out.cell 1
      have hf := fun i => HY.out.frozen i
      go_wp2_with fail
      clear c1
      have hBF := (HB1.out.setCell (p := ⟨w.heap.size + 1, 0, none⟩) (Nat.le_add_right _ _) (.slice none 0 0)).setCell (p := ⟨w.heap.size + 1, 1, none⟩) (Nat.le_add_right _ _) (.slice none 0 0)
      have hXF := (HY.out.set_ 0 (.slice none 0 0)).set_ 1 (.slice none 0 0)
      obtain ⟨wf, hwf⟩ : ∃ wf, ((w1.setCell ⟨w.heap.size + 1, 0, none⟩ (.slice none 0 0)).setCell ⟨w.heap.size + 1, 1, none⟩ (.slice none 0 0)) = wf := ⟨_, rfl⟩
      rw [hwf] at hBF hXF ⊢
      clear hwf d0 d1 hf
      have e0 := hXF.cell 0
      have e1 := hXF.cell 1
      exact bodyPost_ret (v := .tuple #[.agg #[.slice none 0 0, .slice none 0 0], .int .i64 2]) (by simp [results, Try.f12, go_sem, e0, e1]) rfl (toldD_no rfl hBF)
  · rw [if_neg hm]
    have HC := Lib.hid (dMay_no x D _ h0 hm)
    simp only [dval] at HC ⊢
    clear b0 h0 h hm x0 x1 z0 hbk hlg hno hsl hs
    go_enter Try.func12, Try.ntmps12
    go_wp2_with fail
    clear hw0 c0 c1
    refine HC.out.mono ?_
    rintro e w1 ⟨rfl, b1⟩
    have HX01 := Lib.hid (HX0.out.below b1 HX0.out.lt)
    have HY := Lib.hid (HX1.out.below b1 HX1.out.lt)
    have HB1 := Lib.hid (HB.out.trans (b1.mono HB.out.size))
    clear b1
    have c1 := HX01.out.cell 1
    have d0 := HY.out.cell 0
    have d1 := HY.out.cell 1
    have hf := fun i => HY.out.frozen i
    go_wp2_with fail
    clear c1
    have hBF := (HB1.out.setCell (p := ⟨w.heap.size + 1, 0, none⟩) (Nat.le_add_right _ _) (.slice none 0 0)).setCell (p := ⟨w.heap.size + 1, 1, none⟩) (Nat.le_add_right _ _) (.slice none 0 0)
    have hXF := (HY.out.set_ 0 (.slice none 0 0)).set_ 1 (.slice none 0 0)
    obtain ⟨wf, hwf⟩ : ∃ wf, ((w1.setCell ⟨w.heap.size + 1, 0, none⟩ (.slice none 0 0)).setCell ⟨w.heap.size + 1, 1, none⟩ (.slice none 0 0)) = wf := ⟨_, rfl⟩
    rw [hwf] at hBF hXF ⊢
    clear hwf d0 d1 hf
    have e0 := hXF.cell 0
    have e1 := hXF.cell 1
    exact bodyPost_ret (v := .tuple #[.agg #[.slice none 0 0, .slice none 0 0], .int .i64 8]) (by simp [results, Try.f12, go_sem, e0, e1]) rfl (toldD_no rfl hBF)
set_option maxHeartbeats 4000000 in
theorem dWrite_yes (x : DAt) (D : DkL) (p : Int) (a : Option Addr) (c : Nat) (s : List UInt8) (w : World) (h : Dsk w w.heap.size x D) (hs : Bsl w w.heap.size a 256 c s) (hm : MayD D) (hp : 0 ≤ p ∧ p < 256) (hn : D.2.length ≠ 4096) : Calls Try.prog 12 #[dval x D, .int .i64 p, .slice a 256 c] w (ToldD (withD D p s, 0) w) := by
  obtain ⟨w0, hw0, b0, z0, x0, x1⟩ := two_boxes w (.slice x.ba D.1.length x.bc) (.slice x.wa D.2.length x.wc)
  have h0 := h.step b0
  have c0 := x0.cell 0
  have c1 := x0.cell 1
  have HX0 := Lib.hid x0
  have HX1 := Lib.hid x1
  have HB := Lib.hid b0
  have HZ := Lib.hid z0
  have HD := Lib.hid h0
  have HS0 := Lib.hid (hs.step b0)
  have HC := Lib.hid (dMay_yes x D _ h0 hm)
  have hbk := dIsBlock_any p
  simp only [decide_eq_true hp] at hbk
  have HBK := Lib.hid hbk
  have hlg := dIsLong_any a 256 c
  have HLG : Hid (∀ W, Calls Try.prog 36 #[.slice a 256 c] W fun e w' => e = .returned (.bool true) ∧ W = w') := Lib.hid hlg
  have HM := Lib.hid hm
  have HF := Lib.hid (may_fits (with_may hm hp hs.1 hn))
  obtain ⟨m, hm2⟩ : ∃ m, D.2.length = m := ⟨_, rfl⟩
  have m0 : m < 4096 := by have := hm.2.1; omega
  have m1 : ((m : Int) == 4096) = false := by simp; omega
  have HM2 := Lib.hid hm2
  have HP := Lib.hid hp
  simp only [dval] at HC ⊢
  rw [hm2] at HX0 hw0 c1 HC ⊢
  clear b0 h0 h hm x0 x1 z0 hbk hlg hs hn hp
  go_enter Try.func12, Try.ntmps12
  go_wp2_with fail
  clear hw0 c0 c1 hm2
  refine HC.out.mono ?_
  rintro e w1 ⟨rfl, b1⟩
  have x01 := HX0.out.below b1 HX0.out.lt
  have c0 := x01.cell 0
  have c1 := x01.cell 1
  have HX01 := Lib.hid x01
  have HX11 := Lib.hid (HX1.out.below b1 HX1.out.lt)
  have HB1 := Lib.hid (HB.out.trans (b1.mono HB.out.size))
  have HZ1 := Lib.hid (show w.heap.size + 2 ≤ w1.heap.size by have := b1.size; have := HZ.out; omega)
  have HD1 := Lib.hid (HD.out.step b1)
  have HS1 := Lib.hid (HS0.out.step b1)
  clear b1 x01 HX0 HX1 HB HD HS0
  go_wp2_with fail
  refine (HBK.out _).mono ?_
  rintro e w1' ⟨rfl, rfl⟩
  go_wp2_with fail
  refine (HLG.out _).mono ?_
  rintro e w1' ⟨rfl, rfl⟩
  go_wp2_with fail
  have hsz := HZ1.out
  have hD1 := HD1.out
  have hS1 := HS1.out
  have hp := HP.out
  obtain ⟨g1, hg1⟩ : ∃ g, w1.heap.size = g := ⟨_, rfl⟩
  obtain ⟨w2, hw2⟩ : ∃ w2, (w1.alloc (.cells #[.int .i64 p, .slice a 256 c] 55)).alloc (.cells #[.slice x.wa m x.wc, .slice (some ⟨g1, 0, none⟩) 1 1] 23) = w2 := ⟨_, rfl⟩
  have b2 : Below w1.heap.size w1 w2 := by rw [← hw2]; exact ((Below.refl _ w1).alloc (Nat.le_refl _) _).alloc (by simp) _
  have y1 : Blk w2 g1 55 #[.int .i64 p, .slice a 256 c] := by rw [← hw2, ← hg1]; exact (Blk.new w1 _ _).alloc _
  have y2 : Blk w2 (g1 + 1) 23 #[.slice x.wa m x.wc, .slice (some ⟨g1, 0, none⟩) 1 1] := by
    have := Blk.new (w1.alloc (.cells #[.int .i64 p, .slice a 256 c] 55)) 23 #[.slice x.wa m x.wc, .slice (some ⟨g1, 0, none⟩) 1 1]
    rw [World.size_alloc, hg1, hw2] at this
    exact this
  have hD2 := hD1.step b2
  have hS2 := hS1.step b2
  have hone : Wts w2 w2.heap.size (some ⟨g1, 0, none⟩) 1 1 [(p, s)] := by
    refine ⟨rfl, Nat.le_refl _, by unfold maxLen; omega, fun _ => ⟨g1, 0, rfl, y1.lt, fun i hi => ?_⟩⟩
    obtain rfl : i = 0 := by omega
    have hsl := hS2.1
    refine ⟨wf64 (p := p) (by omega) (by omega), y1.cell 0, a, c, ?_, ?_⟩
    · show w2.cell? ⟨g1, 1, none⟩ = some (.slice a s.length c)
      rw [hsl]
      exact y1.cell 1
    · show Bsl w2 _ a s.length c s
      rw [hsl]
      exact hS2
  have hcon := dConcat_any (g1 + 1) 2 [⟨x.wa, m, x.wc, D.2⟩, ⟨some ⟨g1, 0, none⟩, 1, 1, [(p, s)]⟩] w2 y2.lt (by simp) (fun i hi => by
    have : i = 0 ∨ i = 1 := by simp at hi; omega
    rcases this with rfl | rfl
    · exact y2.cell 0
    · exact y2.cell 1) (fun i hi => by
    have : i = 0 ∨ i = 1 := by simp at hi; omega
    rcases this with rfl | rfl
    · show Wts w2 w2.heap.size x.wa m x.wc D.2
      rw [← HM2.out]
      exact hD2.2
    · exact hone) (by simp [flatW]) (by simp [flatW, HM2.out]; omega)
  have hfl : flatW [⟨x.wa, m, x.wc, D.2⟩, ⟨some ⟨g1, 0, none⟩, 1, 1, [(p, s)]⟩] = D.2 ++ [(p, s)] := by simp [flatW]
  rw [hfl] at hcon
  have HCON := Lib.hid hcon
  have HX02 := Lib.hid (HX01.out.below b2 HX01.out.lt)
  have HX12 := Lib.hid (HX11.out.below b2 HX11.out.lt)
  have HB2 := Lib.hid (HB1.out.trans (b2.mono (by omega)))
  have HZ2 := Lib.hid (show w.heap.size + 2 ≤ w2.heap.size by have := b2.size; omega)
  have HD2 := Lib.hid hD2
  rw [hg1, hw2]
  clear hsz hD1 hS1 hp hg1 hw2 b2 y1 y2 hD2 hS2 hone hcon hfl HB1 HZ1 HD1 HS1 HX01 HX11 c0 c1
  refine HCON.out.mono ?_
  rintro e w3 ⟨v, rfl, hrow, b3⟩
  obtain ⟨wa3, wc3, rfl, hwts⟩ := hrow.wts
  have x03 := HX02.out.below b3 HX02.out.lt
  have c0 := x03.cell 0
  have c1 := x03.cell 1
  have hla := dLaid_any ⟨x.ba, x.bc, wa3, wc3⟩ (withD D p s) w3 ⟨(HD2.out.step b3).1, hwts⟩ HF.out
  have hw1 : (withD D p s).1 = D.1 := rfl
  have hw2 : (withD D p s).2 = D.2 ++ [(p, s)] := rfl
  simp only [hw1, hw2] at hla
  obtain ⟨L, hL⟩ : ∃ L, (D.2 ++ [(p, s)]).length = L := ⟨_, rfl⟩
  rw [hL] at hla ⊢
  have HLA := Lib.hid hla
  have HX2 := Lib.hid (HX12.out.below b3 HX12.out.lt)
  have HB1 := Lib.hid (HB2.out.trans (b3.mono HB2.out.size))
  have HZ1 := Lib.hid (show w.heap.size + 2 ≤ w3.heap.size by have := b3.size; have := HZ2.out; omega)
  have HW2 := Lib.hid (show (withD D p s).2.length = L from hL)
  clear hrow b3 hwts x03 hla hw1 hw2 hL HCON HX02 HX12 HB2 HZ2 HD2
  go_wp2_with fail
  refine HLA.out.mono ?_
  rintro e w4 ⟨x2, rfl, h2, b2⟩
  clear c0 c1
  have y2 := HX2.out.below b2 HX2.out.lt
  have d0 := y2.cell 0
  have d1 := y2.cell 1
  have hf := fun i => y2.frozen i
  have hz := HZ1.out
  have HK := Lib.hid (fun (u v : Value) => laid_far (g := w.heap.size + 1) (lo' := w.heap.size) h2 (by omega) (by omega) u v)
  have HBF := Lib.hid (fun (u v : Value) => ((HB1.out.trans (b2.mono (by omega))).setCell (p := ⟨w.heap.size + 1, 0, none⟩) (Nat.le_add_right _ _) u).setCell (p := ⟨w.heap.size + 1, 1, none⟩) (Nat.le_add_right _ _) v)
  have HXF := Lib.hid (fun (u v : Value) => (y2.set_ 0 u).set_ 1 v)
  obtain ⟨K, hK⟩ : ∃ K, withD D p s = K := ⟨_, rfl⟩
  rw [hK] at HK ⊢
  have HK0 := Lib.hid hK
  obtain ⟨ba2, bc2, wa2, wc2⟩ := x2
  clear h2 b2 y2 hz hK
  simp only [dval]
  go_wp2_with fail
  have hKD := HK.out (.slice ba2 K.1.length bc2) (.slice wa2 K.2.length wc2)
  have hBF := HBF.out (.slice ba2 K.1.length bc2) (.slice wa2 K.2.length wc2)
  have hXF := HXF.out (.slice ba2 K.1.length bc2) (.slice wa2 K.2.length wc2)
  obtain ⟨wf, hwf⟩ : ∃ wf, ((w4.setCell ⟨w.heap.size + 1, 0, none⟩ (.slice ba2 K.1.length bc2)).setCell ⟨w.heap.size + 1, 1, none⟩ (.slice wa2 K.2.length wc2)) = wf := ⟨_, rfl⟩
  rw [hwf] at hKD hBF hXF ⊢
  clear hwf d0 d1 hf
  have e0 := hXF.cell 0
  have e1 := hXF.cell 1
  refine bodyPost_ret (v := .tuple #[dval ⟨ba2, bc2, wa2, wc2⟩ K, .int .i64 0]) (by simp [results, Try.f12, go_sem, e0, e1, dval]) rfl ?_
  exact ⟨⟨ba2, bc2, wa2, wc2⟩, by rw [HK0.out], .inr (by rw [HK0.out]; exact hKD), hBF⟩
theorem dWrite_any (x : DAt) (D : DkL) (p : Int) (a : Option Addr) (n c : Nat) (s : List UInt8) (w : World) (h : Dsk w w.heap.size x D) (hs : Bsl w w.heap.size a n c s) : Calls Try.prog 12 #[dval x D, .int .i64 p, .slice a n c] w (ToldD (writeO D p s) w) := by
  by_cases hy : WriteGoes D p s
  · obtain ⟨h1, h2, h3, h4⟩ := hy
    rw [writeO, if_pos h1, if_pos h2, if_pos h3, if_neg h4]
    obtain rfl : n = 256 := by rw [← hs.1]; exact h3
    exact dWrite_yes x D p a c s w h hs h1 h2 h4
  · exact dWrite_no x D p a n c s w h hs hy
end Go.Proofs.Ytgpojnhhcobcbaa
