/-
  dev.Tamper: what it answers, whatever disk, place and byte it is handed.
-/
import Derived.Test.YtgpojnhhcobcbaaDevTop
namespace Go.Proofs.Ytgpojnhhcobcbaa
open Go.RowKit Go.Shelf
set_option maxRecDepth 100000

theorem ar_set (t : List UInt8) (j : Nat) (y : UInt8) : (ar t).setIfInBounds j (.int .u8 (y.toNat : Int)) = ar (t.set j y) := by
  apply Array.ext'
  simp [ar, vals, List.map_set]
/-- One byte of a disk that is laid in one piece is turned. -/
theorem Laid.turned {w : World} {lo : Nat} {x : DAt} {D : DkL} (h : Laid w lo x D) {p q : Nat} (hp : p < D.1.length) (hq : q < (D.1.getD p []).length) (b : UInt8) :
    ∃ g hb o, x.ba = some ⟨hb, 0, none⟩ ∧ lo ≤ g ∧ w.cell? ⟨hb, p, none⟩ = some (.slice (some ⟨g, o, none⟩) (D.1.getD p []).length (D.1.getD p []).length) ∧ w.cell? ⟨g, o + q, none⟩ = some (.int .u8 (((D.1.getD p []).getD q 0).toNat : Int)) ∧
      w.frozen? ⟨g, o + q, none⟩ = false ∧ (∀ k t cs, Blk w k t cs → t ≠ 5 → g ≠ k) ∧ Laid (w.setCell ⟨g, o + q, none⟩ (.int .u8 (((D.1.getD p []).getD q 0 ^^^ b).toNat : Int))) lo x (turnedD D p q b) := by
  obtain ⟨g, hb, hw, rfl, k1, k2, k3, h1, h2, h3, h4, h5, ⟨cb, h6, h7, h8⟩, cw, h9, h10, h11⟩ := h
  have hP := pieces_length D
  obtain ⟨v, e1, o, rfl, ho⟩ := h8 p hp
  rw [pieces_left hp] at e1 ho
  have hst := ho (by omega)
  subst hst
  have n1 : hb ≠ g := h6.ne h5 (by decide)
  have n2 : hw ≠ g := h9.ne h5 (by decide)
  have hl1 : (turnedD D p q b).1.length = D.1.length := List.length_set ..
  have hget := room_get (P := pieces D) (T := sumD D) (n := D.1.length + D.2.length) (k := p) (j := q) (by omega) (by omega) (by rw [pieces_left hp]; exact hq)
  rw [pieces_left hp] at hget
  have hval : (D.1.getD p [])[q]? = some ((D.1.getD p []).getD q 0) := by rw [List.getD_eq_getElem?_getD (l := D.1.getD p []), List.getElem?_eq_getElem hq]; rfl
  have hpv : ∀ i, i < (pieces D).length → ∀ v, PieceV g (pieces D) i v → PieceV g (pieces (turnedD D p q b)) i v := by
    rintro i hi v ⟨o', rfl, ho'⟩
    have el : ((pieces (turnedD D p q b)).getD i []).length = ((pieces D).getD i []).length := by
      rw [turned_pieces hp, getD_set _ _ _ _ _ (by omega)]
      split
      · rename_i e
        rw [e, List.length_set]
      · rfl
    refine ⟨o', by rw [el], fun h0 => ?_⟩
    rw [turned_pieces hp, startP_set (by omega) (by simp) (by omega)]
    exact ho' (by rw [← el]; exact h0)
  refine ⟨g, hb, _, rfl, k1, by rw [h6.cell, e1], ?_, h5.frozen _, fun k t cs hk ht => h5.ne hk (Ne.symm ht), g, hb, hw, by rw [hl1]; rfl, k1, k2, k3, by rw [hl1]; exact h1, h2, by rw [turned_sum hp]; exact h3, h4, ?_, ⟨cb, h6.far (by simpa using n1) _, by rw [hl1]; exact h7, fun i hi => ?_⟩, cw, h9.far (by simpa using n2) _, h10, fun i hi => ?_⟩
  · rw [h5.cell, ar, List.getElem?_toArray, vals, List.getElem?_map, hget, hval]
    rfl
  · rw [turned_sum hp, hl1]
    show Blk _ g _ (ar (roomP (pieces (turnedD D p q b)) (sumD D) (D.1.length + D.2.length)))
    rw [turned_room hp hq, ← ar_set]
    exact h5.set_ _ _
  · rw [hl1] at hi
    obtain ⟨v, e3, e4⟩ := h8 i hi
    exact ⟨v, e3, hpv i (by omega) v e4⟩
  · obtain ⟨e0, v, e3, e4⟩ := h11 i hi
    refine ⟨e0, v, e3, ?_⟩
    rw [hl1]
    exact hpv _ (by have : i < D.2.length := hi; omega) v e4
def tamperO (D : DkL) (p q : Int) (b : UInt8) : DkL × Int := if MayD D then (if (0 ≤ p ∧ p < 256) ∧ 0 ≤ q ∧ q < 256 then (turnedD D p.toNat q.toNat b, 0) else (([], []), 2)) else (([], []), 8)
/-- The ways that are refused. -/
theorem dTamper_no (x : DAt) (D : DkL) (p q : Int) (b : UInt8) (w : World) (h : Dsk w w.heap.size x D) (hno : ¬ (MayD D ∧ (0 ≤ p ∧ p < 256) ∧ 0 ≤ q ∧ q < 256)) : Calls Try.prog 16 #[dval x D, .int .i64 p, .int .i64 q, .int .u8 (b.toNat : Int)] w (ToldD (tamperO D p q b) w) := by
  obtain ⟨w0, hw0, b0, z0, x0, x1⟩ := two_boxes w (.slice x.ba D.1.length x.bc) (.slice x.wa D.2.length x.wc)
  have h0 := h.step b0
  have c0 := x0.cell 0
  have c1 := x0.cell 1
  have HX1 := Lib.hid x1
  have HB := Lib.hid b0
  unfold tamperO
  by_cases hm : MayD D
  · rw [if_pos hm, if_neg (fun hh => hno ⟨hm, hh⟩)]
    have HC := Lib.hid (dMay_yes x D _ h0 hm)
    simp only [dval] at HC ⊢
    have hbk := dIsBlock_any p
    by_cases hp : 0 ≤ p ∧ p < 256
    · have hq : ¬ (0 ≤ q ∧ q < 256) := fun hh => hno ⟨hm, hp, hh⟩
      simp only [decide_eq_true hp] at hbk
      have HBK := Lib.hid hbk
      clear b0 h0 h hm x0 x1 z0 hbk hno hp
      by_cases hq0 : 0 ≤ q
      · have hq1 : ¬ q < 256 := fun hh => hq ⟨hq0, hh⟩
        have hq2 : ¬ q < 0 := by omega
        have hq3 : 256 ≤ q := by omega
        clear hq
        go_enter Try.func16, Try.ntmps16
        go_wp2_with fail
        clear hw0 c0 c1
        refine HC.out.mono ?_
        rintro e w1 ⟨rfl, b1⟩
        have HY := Lib.hid (HX1.out.below b1 HX1.out.lt)
        have HB1 := Lib.hid (HB.out.trans (b1.mono HB.out.size))
        clear b1
        go_wp2_with fail
        refine (HBK.out _).mono ?_
        rintro e w1' ⟨rfl, rfl⟩
        have d0 := HY.out.cell 0
        have d1 := HY.out.cell 1
        have hf := fun i => HY.out.frozen i
        go_wp2_with fail
        have hBF := (HB1.out.setCell (p := ⟨w.heap.size + 1, 0, none⟩) (Nat.le_add_right _ _) (.slice none 0 0)).setCell (p := ⟨w.heap.size + 1, 1, none⟩) (Nat.le_add_right _ _) (.slice none 0 0)
        have hXF := (HY.out.set_ 0 (.slice none 0 0)).set_ 1 (.slice none 0 0)
        obtain ⟨wf, hwf⟩ : ∃ wf, ((w1.setCell ⟨w.heap.size + 1, 0, none⟩ (.slice none 0 0)).setCell ⟨w.heap.size + 1, 1, none⟩ (.slice none 0 0)) = wf := ⟨_, rfl⟩
        rw [hwf] at hBF hXF ⊢
        clear hwf d0 d1 hf
        have e0 := hXF.cell 0
        have e1 := hXF.cell 1
        exact bodyPost_ret (v := .tuple #[.agg #[.slice none 0 0, .slice none 0 0], .int .i64 2]) (by simp [results, Try.f16, go_sem, e0, e1]) rfl (toldD_no rfl hBF)
      · have hq2 : q < 0 := by omega
        clear hq
        go_enter Try.func16, Try.ntmps16
        go_wp2_with fail
        clear hw0 c0 c1
        refine HC.out.mono ?_
        rintro e w1 ⟨rfl, b1⟩
        have HY := Lib.hid (HX1.out.below b1 HX1.out.lt)
        have HB1 := Lib.hid (HB.out.trans (b1.mono HB.out.size))
        clear b1
        go_wp2_with fail
        refine (HBK.out _).mono ?_
        rintro e w1' ⟨rfl, rfl⟩
        have d0 := HY.out.cell 0
        have d1 := HY.out.cell 1
        have hf := fun i => HY.out.frozen i
        go_wp2_with fail
        have hBF := (HB1.out.setCell (p := ⟨w.heap.size + 1, 0, none⟩) (Nat.le_add_right _ _) (.slice none 0 0)).setCell (p := ⟨w.heap.size + 1, 1, none⟩) (Nat.le_add_right _ _) (.slice none 0 0)
        have hXF := (HY.out.set_ 0 (.slice none 0 0)).set_ 1 (.slice none 0 0)
        obtain ⟨wf, hwf⟩ : ∃ wf, ((w1.setCell ⟨w.heap.size + 1, 0, none⟩ (.slice none 0 0)).setCell ⟨w.heap.size + 1, 1, none⟩ (.slice none 0 0)) = wf := ⟨_, rfl⟩
        rw [hwf] at hBF hXF ⊢
        clear hwf d0 d1 hf
        have e0 := hXF.cell 0
        have e1 := hXF.cell 1
        exact bodyPost_ret (v := .tuple #[.agg #[.slice none 0 0, .slice none 0 0], .int .i64 2]) (by simp [results, Try.f16, go_sem, e0, e1]) rfl (toldD_no rfl hBF)
    · simp only [decide_eq_false hp] at hbk
      have HBK := Lib.hid hbk
      clear b0 h0 h hm x0 x1 z0 hbk hno hp
      go_enter Try.func16, Try.ntmps16
      go_wp2_with fail
      clear hw0 c0 c1
      refine HC.out.mono ?_
      rintro e w1 ⟨rfl, b1⟩
      have HY := Lib.hid (HX1.out.below b1 HX1.out.lt)
      have HB1 := Lib.hid (HB.out.trans (b1.mono HB.out.size))
      clear b1
      go_wp2_with fail
      refine (HBK.out _).mono ?_
      rintro e w1' ⟨rfl, rfl⟩
      have d0 := HY.out.cell 0
      have d1 := HY.out.cell 1
      have hf := fun i => HY.out.frozen i
      go_wp2_with fail
      have hBF := (HB1.out.setCell (p := ⟨w.heap.size + 1, 0, none⟩) (Nat.le_add_right _ _) (.slice none 0 0)).setCell (p := ⟨w.heap.size + 1, 1, none⟩) (Nat.le_add_right _ _) (.slice none 0 0)
      have hXF := (HY.out.set_ 0 (.slice none 0 0)).set_ 1 (.slice none 0 0)
      obtain ⟨wf, hwf⟩ : ∃ wf, ((w1.setCell ⟨w.heap.size + 1, 0, none⟩ (.slice none 0 0)).setCell ⟨w.heap.size + 1, 1, none⟩ (.slice none 0 0)) = wf := ⟨_, rfl⟩
      rw [hwf] at hBF hXF ⊢
      clear hwf d0 d1 hf
      have e0 := hXF.cell 0
      have e1 := hXF.cell 1
      exact bodyPost_ret (v := .tuple #[.agg #[.slice none 0 0, .slice none 0 0], .int .i64 2]) (by simp [results, Try.f16, go_sem, e0, e1]) rfl (toldD_no rfl hBF)
  · rw [if_neg hm]
    have HC := Lib.hid (dMay_no x D _ h0 hm)
    simp only [dval] at HC ⊢
    clear b0 h0 h hm x0 x1 z0 hno
    go_enter Try.func16, Try.ntmps16
    go_wp2_with fail
    clear hw0 c0 c1
    refine HC.out.mono ?_
    rintro e w1 ⟨rfl, b1⟩
    have HY := Lib.hid (HX1.out.below b1 HX1.out.lt)
    have HB1 := Lib.hid (HB.out.trans (b1.mono HB.out.size))
    clear b1
    have d0 := HY.out.cell 0
    have d1 := HY.out.cell 1
    have hf := fun i => HY.out.frozen i
    go_wp2_with fail
    have hBF := (HB1.out.setCell (p := ⟨w.heap.size + 1, 0, none⟩) (Nat.le_add_right _ _) (.slice none 0 0)).setCell (p := ⟨w.heap.size + 1, 1, none⟩) (Nat.le_add_right _ _) (.slice none 0 0)
    have hXF := (HY.out.set_ 0 (.slice none 0 0)).set_ 1 (.slice none 0 0)
    obtain ⟨wf, hwf⟩ : ∃ wf, ((w1.setCell ⟨w.heap.size + 1, 0, none⟩ (.slice none 0 0)).setCell ⟨w.heap.size + 1, 1, none⟩ (.slice none 0 0)) = wf := ⟨_, rfl⟩
    rw [hwf] at hBF hXF ⊢
    clear hwf d0 d1 hf
    have e0 := hXF.cell 0
    have e1 := hXF.cell 1
    exact bodyPost_ret (v := .tuple #[.agg #[.slice none 0 0, .slice none 0 0], .int .i64 8]) (by simp [results, Try.f16, go_sem, e0, e1]) rfl (toldD_no rfl hBF)
set_option maxHeartbeats 2000000 in
theorem dTamper_yes (x : DAt) (D : DkL) (p q : Nat) (b : UInt8) (w : World) (h : Dsk w w.heap.size x D) (hm : MayD D) (hp : p < 256) (hq : q < 256) : Calls Try.prog 16 #[dval x D, .int .i64 p, .int .i64 q, .int .u8 (b.toNat : Int)] w (ToldD (turnedD D p q b, 0) w) := by
  obtain ⟨w0, hw0, b0, z0, x0, x1⟩ := two_boxes w (.slice x.ba D.1.length x.bc) (.slice x.wa D.2.length x.wc)
  have h0 := h.step b0
  have c0 := x0.cell 0
  have c1 := x0.cell 1
  have HX0 := Lib.hid x0
  have HX1 := Lib.hid x1
  have HB := Lib.hid b0
  have HZ := Lib.hid z0
  have HD := Lib.hid h0
  have HC := Lib.hid (dMay_yes x D _ h0 hm)
  have hbk := dIsBlock_any (p : Int)
  simp only [decide_eq_true (show 0 ≤ (p : Int) ∧ (p : Int) < 256 by omega)] at hbk
  have HBK := Lib.hid hbk
  have HM := Lib.hid hm
  have p0 : (0 : Int) ≤ p := by omega
  have p1 : (p : Int) < 256 := by omega
  have q0 : (0 : Int) ≤ q := by omega
  have q1 : (q : Int) < 256 := by omega
  simp only [dval] at HC ⊢
  clear b0 h0 h hm x0 x1 z0 hbk
  go_enter Try.func16, Try.ntmps16
  go_wp2_with fail
  clear hw0 c0 c1
  refine HC.out.mono ?_
  rintro e w1 ⟨rfl, b1⟩
  have x01 := HX0.out.below b1 HX0.out.lt
  have c0 := x01.cell 0
  have c1 := x01.cell 1
  have HX01 := Lib.hid x01
  have HX11 := Lib.hid (HX1.out.below b1 HX1.out.lt)
  have ht := dTwin_any x D w1 (HD.out.step b1) (may_fits HM.out)
  simp only [dval] at ht
  have HT := Lib.hid ht
  have HB1 := Lib.hid (HB.out.trans (b1.mono HB.out.size))
  have HZ1 := Lib.hid (show w.heap.size + 2 ≤ w1.heap.size by have := b1.size; have := HZ.out; omega)
  clear b1 x01 ht HX0 HX1 HB HD
  go_wp2_with fail
  refine (HBK.out _).mono ?_
  rintro e w1' ⟨rfl, rfl⟩
  go_wp2_with fail
  clear c0 c1
  refine HT.out.mono ?_
  rintro e w2 ⟨x2, rfl, h2, b2⟩
  obtain ⟨K1, hK1⟩ : ∃ K, D.1.length = K := ⟨_, rfl⟩
  obtain ⟨K2, hK2⟩ : ∃ K, D.2.length = K := ⟨_, rfl⟩
  obtain ⟨g3, hg3⟩ : ∃ g, w2.heap.size = g := ⟨_, rfl⟩
  obtain ⟨w3, hw3⟩ : ∃ w3, w2.alloc (.cells #[.slice x2.ba K1 x2.bc, .slice x2.wa K2 x2.wc] 25) = w3 := ⟨_, rfl⟩
  have bx : Below w2.heap.size w2 w3 := by rw [← hw3]; exact (Below.refl _ w2).alloc (Nat.le_refl _) _
  have h3 := h2.below bx
  have xb3 : Blk w3 g3 25 #[.slice x2.ba K1 x2.bc, .slice x2.wa K2 x2.wc] := by rw [← hw3, ← hg3]; exact Blk.new w2 _ _
  have b3 := b2.trans (bx.mono b2.size)
  have xr3 := HX11.out.below b3 HX11.out.lt
  have hlp : (D.1.getD p []).length = 256 := HM.out.1.2 p hp
  obtain ⟨g, hb, o, e1, k1, e2, e3, e4, e5, e6⟩ := h3.turned (p := p) (q := q) (by rw [HM.out.1.1]; exact hp) (by rw [hlp]; exact hq) b
  obtain ⟨ba2, bc2, wa2, wc2⟩ := x2
  obtain rfl : ba2 = some ⟨hb, 0, none⟩ := e1
  rw [hlp] at e2
  have hK1' : K1 = 256 := by rw [← hK1]; exact HM.out.1.1
  subst hK1'
  obtain ⟨v, hv⟩ : ∃ v, (D.1.getD p []).getD q 0 = v := ⟨_, rfl⟩
  rw [hv] at e3 e6
  have hxor := xor8 v b
  obtain ⟨y, hy⟩ : ∃ y, (v ^^^ b).toNat = y := ⟨_, rfl⟩
  rw [hy] at e6 hxor
  have d0 := xb3.cell 0
  have d1 := xb3.cell 1
  have hz1 := HZ1.out
  have hg3' : w.heap.size + 2 ≤ g3 := by rw [← hg3]; have := b2.size; omega
  have n1 := e5 _ _ _ xb3 (by decide)
  have n2 := e5 _ _ _ xr3 (by decide)
  obtain ⟨w4, hw4⟩ : ∃ w4, w3.setCell ⟨g, o + q, none⟩ (.int .u8 (y : Int)) = w4 := ⟨_, rfl⟩
  have xb4 := xb3.far (p := ⟨g, o + q, none⟩) (Ne.symm n1) (.int .u8 (y : Int))
  have xr4 := xr3.far (p := ⟨g, o + q, none⟩) (Ne.symm n2) (.int .u8 (y : Int))
  have b4 := (HB1.out.trans (b3.mono (by omega))).setCell (p := ⟨g, o + q, none⟩) (by show _ ≤ g; omega) (.int .u8 (y : Int))
  rw [hw4] at xb4 xr4 b4 e6
  have c40 := xb4.cell 0
  have c41 := xb4.cell 1
  have d40 := xr4.cell 0
  have d41 := xr4.cell 1
  have f4 := fun i => xr4.frozen i
  have HE6 := Lib.hid e6
  have HB4 := Lib.hid b4
  have HXR := Lib.hid xr4
  clear xb4 xr4 b4
  have HK1 := Lib.hid hK1
  have HK2 := Lib.hid hK2
  have HG3 := Lib.hid (And.intro hg3' (And.intro hz1 k1))
  clear hy h2 b2 bx h3 xb3 b3 xr3 hlp k1 e5 e6 hK1 hv hz1 hg3' n1 n2 HT HX11 HX01
  simp only [dval]
  rw [HK1.out, hK2]
  clear hK2
  go_wp2_with fail
  have hg := HG3.out
  have hKD := laid_far (g := w.heap.size + 1) (lo' := w.heap.size) HE6.out (by omega) (by omega) (.slice (some ⟨hb, 0, none⟩) 256 bc2) (.slice wa2 K2 wc2)
  have hBF := (HB4.out.setCell (p := ⟨w.heap.size + 1, 0, none⟩) (Nat.le_add_right _ _) (.slice (some ⟨hb, 0, none⟩) 256 bc2)).setCell (p := ⟨w.heap.size + 1, 1, none⟩) (Nat.le_add_right _ _) (.slice wa2 K2 wc2)
  have hXF := (HXR.out.set_ 0 (.slice (some ⟨hb, 0, none⟩) 256 bc2)).set_ 1 (.slice wa2 K2 wc2)
  obtain ⟨wf, hwf⟩ : ∃ wf, ((w4.setCell ⟨w.heap.size + 1, 0, none⟩ (.slice (some ⟨hb, 0, none⟩) 256 bc2)).setCell ⟨w.heap.size + 1, 1, none⟩ (.slice wa2 K2 wc2)) = wf := ⟨_, rfl⟩
  rw [hwf] at hKD hBF hXF ⊢
  clear hwf c40 c41 d40 d41 f4 d0 d1
  have e0 := hXF.cell 0
  have e1 := hXF.cell 1
  refine bodyPost_ret (v := .tuple #[.agg #[.slice (some ⟨hb, 0, none⟩) 256 bc2, .slice wa2 K2 wc2], .int .i64 0]) (by simp [results, Try.f16, go_sem, e0, e1]) rfl ?_
  have hl1 : (turnedD D p q b).1.length = 256 := by rw [← HM.out.1.1]; exact List.length_set ..
  have hl2 : (turnedD D p q b).2.length = K2 := HK2.out
  exact ⟨⟨some ⟨hb, 0, none⟩, bc2, wa2, wc2⟩, by simp only [dval, hl1, hl2], .inr hKD, hBF⟩
theorem dTamper_any (x : DAt) (D : DkL) (p q : Int) (b : UInt8) (w : World) (h : Dsk w w.heap.size x D) : Calls Try.prog 16 #[dval x D, .int .i64 p, .int .i64 q, .int .u8 (b.toNat : Int)] w (ToldD (tamperO D p q b) w) := by
  by_cases hy : MayD D ∧ (0 ≤ p ∧ p < 256) ∧ 0 ≤ q ∧ q < 256
  · obtain ⟨hm, hp, hq⟩ := hy
    rw [tamperO, if_pos hm, if_pos ⟨hp, hq⟩]
    obtain ⟨p', rfl⟩ := Int.eq_ofNat_of_zero_le hp.1
    obtain ⟨q', rfl⟩ := Int.eq_ofNat_of_zero_le hq.1
    exact dTamper_yes x D p' q' b w h hm (by omega) (by omega)
  · exact dTamper_no x D p q b w h hy
end Go.Proofs.Ytgpojnhhcobcbaa
