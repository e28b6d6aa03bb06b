/-
  Texts of one seat, one behind the other.
-/
import Derived.Lib.AppendZeros
import Derived.RangeFuncNested
import Derived.Laws.Cover3
import Derived.ChangeKeysEq
import Derived.Deep.AppendLies
import Derived.OwnWalk
import Derived.Laws.CopyOwn
import Derived.IntWalk
import Derived.Test.YtafbidhbmfdlkaaGreatDoorPkMN2
/-
  dev.Write: what it answers, whatever disk, place and bytes it is handed.
-/
namespace Go.Proofs.YtafbidhbmfdlkaaGreatDoor
open Go.RowKit Go.Shelf
set_option maxRecDepth 100000

/-- A disk on which one more write waits. -/
def withD (D : DkL) (p : Int) (s : List UInt8) : DkL := (D.1, D.2 ++ [(p, s)])
def writeO (D : DkL) (p : Int) (s : List UInt8) : DkL × Int :=
  if MayD D then (if 0 ≤ p ∧ p < 256 then (if s.length = 256 then (if D.2.length = 4096 then (([], []), 9) else (withD D p s, 0)) else (([], []), 3)) else (([], []), 2)) else (([], []), 8)
theorem wr_with (ws : WrL) (p : Int) (s : List UInt8) : (∀ i, i < ws.length → wr_ (ws ++ [(p, s)]) i = wr_ ws i) ∧ wr_ (ws ++ [(p, s)]) ws.length = (p, s) := by
  unfold wr_
  refine ⟨fun i hi => ?_, ?_⟩
  · rw [List.getD_eq_getElem?_getD, List.getElem?_append_left hi, ← List.getD_eq_getElem?_getD]
  · rw [List.getD_eq_getElem?_getD, List.getElem?_append_right (Nat.le_refl _), Nat.sub_self]
    rfl
theorem with_may {D : DkL} {p : Int} {s : List UInt8} (h : MayD D) (hp : 0 ≤ p ∧ p < 256) (hs : s.length = 256) (hn : D.2.length ≠ 4096) : MayD (withD D p s) := by
  obtain ⟨h1, h2, h3⟩ := h
  obtain ⟨e1, e2⟩ := wr_with D.2 p s
  refine ⟨h1, by show (D.2 ++ [(p, s)]).length ≤ 4096; rw [List.length_append]; simp; omega, fun i hi => ?_⟩
  have hi' : i < D.2.length + 1 := by have : i < (D.2 ++ [(p, s)]).length := hi; rwa [List.length_append] at this
  show (0 ≤ (wr_ (D.2 ++ [(p, s)]) i).1 ∧ (wr_ (D.2 ++ [(p, s)]) i).1 < 256) ∧ (wr_ (D.2 ++ [(p, s)]) i).2.length = 256
  rcases Nat.lt_or_ge i D.2.length with h4 | h4
  · rw [e1 i h4]
    exact h3 i h4
  · obtain rfl : i = D.2.length := by omega
    rw [e2]
    exact ⟨hp, hs⟩
def WriteGoes (D : DkL) (p : Int) (s : List UInt8) : Prop := MayD D ∧ (0 ≤ p ∧ p < 256) ∧ s.length = 256 ∧ D.2.length ≠ 4096
/-- The ways that are refused. -/
theorem dWrite_no (x : DAt) (D : DkL) (p : Int) (a : Option Addr) (n c : Nat) (s : List UInt8) (w : World) (h : Dsk w w.heap.size x D) (hs : Bsl w w.heap.size a n c s) (hno : ¬ WriteGoes D p s) : Calls Tryz.prog 131 #[dval x D, .int .i64 p, .slice a n c] w (ToldD (writeO D p s) w) := by
  obtain ⟨w0, hw0, b0, z0, x0, x1⟩ := two_boxes w (.slice x.ba D.1.length x.bc) (.slice x.wa D.2.length x.wc)
  have h0 := h.step b0
  have c0 := x0.cell 0
  have c1 := x0.cell 1
  have HX0 := Lib.hid x0
  have HX1 := Lib.hid x1
  have HB := Lib.hid b0
  have hbk := dIsBlock_any p
  have hlg := dIsLong_any a n c
  have hsl := hs.1
  unfold writeO
  by_cases hm : MayD D
  · rw [if_pos hm]
    have HC := Lib.hid (dMay_yes x D _ h0 hm)
    simp only [dval] at HC ⊢
    by_cases hp : 0 ≤ p ∧ p < 256
    · rw [if_pos hp]
      simp only [decide_eq_true hp] at hbk
      have HBK := Lib.hid hbk
      by_cases hl : s.length = 256
      · have hf4 : D.2.length = 4096 := Classical.byContradiction fun hh => hno ⟨hm, hp, hl, hh⟩
        rw [if_pos hl, if_pos hf4]
        have hn : n = 256 := by omega
        simp only [decide_eq_true hn] at hlg
        have HLG := Lib.hid hlg
        rw [hf4] at hw0 HX0 c1 HC ⊢
        clear b0 h0 h hm x0 x1 z0 hbk hlg hno hp hl hsl hs hf4 hn
        go_enter Tryz.func131, Tryz.ntmps131
        go_wp2_with fail
        clear hw0 c0 c1
        refine HC.out.mono ?_
        rintro e w1 ⟨rfl, b1⟩
        have HX01 := Lib.hid (HX0.out.below b1 HX0.out.lt)
        have HY := Lib.hid (HX1.out.below b1 HX1.out.lt)
        have HB1 := Lib.hid (HB.out.trans (b1.mono HB.out.size))
        clear b1
        go_wp2_with fail
        refine (HBK.out _).mono ?_
        rintro e w1' ⟨rfl, rfl⟩
        go_wp2_with fail
        refine (HLG.out _).mono ?_
        rintro e w1' ⟨rfl, rfl⟩
        have c1 := HX01.out.cell 1
        have d0 := HY.out.cell 0
        have d1 := HY.out.cell 1
        have hf := fun i => HY.out.frozen i
        go_wp2_with fail
        clear c1
        have hBF := (HB1.out.setCell (p := ⟨w.heap.size + 1, 0, none⟩) (Nat.le_add_right _ _) (.slice none 0 0)).setCell (p := ⟨w.heap.size + 1, 1, none⟩) (Nat.le_add_right _ _) (.slice none 0 0)
        have hXF := (HY.out.set_ 0 (.slice none 0 0)).set_ 1 (.slice none 0 0)
        obtain ⟨wf, hwf⟩ : ∃ wf, ((w1.setCell ⟨w.heap.size + 1, 0, none⟩ (.slice none 0 0)).setCell ⟨w.heap.size + 1, 1, none⟩ (.slice none 0 0)) = wf := ⟨_, rfl⟩
        rw [hwf] at hBF hXF ⊢
        clear hwf d0 d1 hf
        have e0 := hXF.cell 0
        have e1 := hXF.cell 1
        exact bodyPost_ret (v := .tuple #[.agg #[.slice none 0 0, .slice none 0 0], .int .i64 9]) (by simp [results, Tryz.f131, go_sem, e0, e1]) rfl (toldD_no rfl hBF)
      · rw [if_neg hl]
        have hn : n ≠ 256 := by omega
        simp only [decide_eq_false hn] at hlg
        have HLG := Lib.hid hlg
        clear b0 h0 h hm x0 x1 z0 hbk hlg hno hp hl hsl hs hn
        go_enter Tryz.func131, Tryz.ntmps131
        go_wp2_with fail
        clear hw0 c0 c1
        refine HC.out.mono ?_
        rintro e w1 ⟨rfl, b1⟩
        have HX01 := Lib.hid (HX0.out.below b1 HX0.out.lt)
        have HY := Lib.hid (HX1.out.below b1 HX1.out.lt)
        have HB1 := Lib.hid (HB.out.trans (b1.mono HB.out.size))
        clear b1
        go_wp2_with fail
        refine (HBK.out _).mono ?_
        rintro e w1' ⟨rfl, rfl⟩
        go_wp2_with fail
        refine (HLG.out _).mono ?_
        rintro e w1' ⟨rfl, rfl⟩
        have c1 := HX01.out.cell 1
        have d0 := HY.out.cell 0
        have d1 := HY.out.cell 1
        have hf := fun i => HY.out.frozen i
        go_wp2_with fail
        clear c1
        have hBF := (HB1.out.setCell (p := ⟨w.heap.size + 1, 0, none⟩) (Nat.le_add_right _ _) (.slice none 0 0)).setCell (p := ⟨w.heap.size + 1, 1, none⟩) (Nat.le_add_right _ _) (.slice none 0 0)
        have hXF := (HY.out.set_ 0 (.slice none 0 0)).set_ 1 (.slice none 0 0)
        obtain ⟨wf, hwf⟩ : ∃ wf, ((w1.setCell ⟨w.heap.size + 1, 0, none⟩ (.slice none 0 0)).setCell ⟨w.heap.size + 1, 1, none⟩ (.slice none 0 0)) = wf := ⟨_, rfl⟩
        rw [hwf] at hBF hXF ⊢
        clear hwf d0 d1 hf
        have e0 := hXF.cell 0
        have e1 := hXF.cell 1
        exact bodyPost_ret (v := .tuple #[.agg #[.slice none 0 0, .slice none 0 0], .int .i64 3]) (by simp [results, Tryz.f131, go_sem, e0, e1]) rfl (toldD_no rfl hBF)
    · rw [if_neg hp]
      simp only [decide_eq_false hp] at hbk
      have HBK := Lib.hid hbk
      clear b0 h0 h hm x0 x1 z0 hbk hlg hno hp hsl hs
      go_enter Tryz.func131, Tryz.ntmps131
      go_wp2_with fail
      clear hw0 c0 c1
      refine HC.out.mono ?_
      rintro e w1 ⟨rfl, b1⟩
      have HX01 := Lib.hid (HX0.out.below b1 HX0.out.lt)
      have HY := Lib.hid (HX1.out.below b1 HX1.out.lt)
      have HB1 := Lib.hid (HB.out.trans (b1.mono HB.out.size))
      clear b1
      go_wp2_with fail
      refine (HBK.out _).mono ?_
      rintro e w1' ⟨rfl, rfl⟩
      have c1 := HX01.out.cell 1
      have d0 := HY.out.cell 0
      have d1 := HY.out.cell 1
      have hf := fun i => HY.out.frozen i
      go_wp2_with fail
      clear c1
      have hBF := (HB1.out.setCell (p := ⟨w.heap.size + 1, 0, none⟩) (Nat.le_add_right _ _) (.slice none 0 0)).setCell (p := ⟨w.heap.size + 1, 1, none⟩) (Nat.le_add_right _ _) (.slice none 0 0)
      have hXF := (HY.out.set_ 0 (.slice none 0 0)).set_ 1 (.slice none 0 0)
      obtain ⟨wf, hwf⟩ : ∃ wf, ((w1.setCell ⟨w.heap.size + 1, 0, none⟩ (.slice none 0 0)).setCell ⟨w.heap.size + 1, 1, none⟩ (.slice none 0 0)) = wf := ⟨_, rfl⟩
      rw [hwf] at hBF hXF ⊢
      clear hwf d0 d1 hf
      have e0 := hXF.cell 0
      have e1 := hXF.cell 1
      exact bodyPost_ret (v := .tuple #[.agg #[.slice none 0 0, .slice none 0 0], .int .i64 2]) (by simp [results, Tryz.f131, go_sem, e0, e1]) rfl (toldD_no rfl hBF)
  · rw [if_neg hm]
    have HC := Lib.hid (dMay_no x D _ h0 hm)
    simp only [dval] at HC ⊢
    clear b0 h0 h hm x0 x1 z0 hbk hlg hno hsl hs
    go_enter Tryz.func131, Tryz.ntmps131
    go_wp2_with fail
    clear hw0 c0 c1
    refine HC.out.mono ?_
    rintro e w1 ⟨rfl, b1⟩
    have HX01 := Lib.hid (HX0.out.below b1 HX0.out.lt)
    have HY := Lib.hid (HX1.out.below b1 HX1.out.lt)
    have HB1 := Lib.hid (HB.out.trans (b1.mono HB.out.size))
    clear b1
    have c1 := HX01.out.cell 1
    have d0 := HY.out.cell 0
    have d1 := HY.out.cell 1
    have hf := fun i => HY.out.frozen i
    go_wp2_with fail
    clear c1
    have hBF := (HB1.out.setCell (p := ⟨w.heap.size + 1, 0, none⟩) (Nat.le_add_right _ _) (.slice none 0 0)).setCell (p := ⟨w.heap.size + 1, 1, none⟩) (Nat.le_add_right _ _) (.slice none 0 0)
    have hXF := (HY.out.set_ 0 (.slice none 0 0)).set_ 1 (.slice none 0 0)
    obtain ⟨wf, hwf⟩ : ∃ wf, ((w1.setCell ⟨w.heap.size + 1, 0, none⟩ (.slice none 0 0)).setCell ⟨w.heap.size + 1, 1, none⟩ (.slice none 0 0)) = wf := ⟨_, rfl⟩
    rw [hwf] at hBF hXF ⊢
    clear hwf d0 d1 hf
    have e0 := hXF.cell 0
    have e1 := hXF.cell 1
    exact bodyPost_ret (v := .tuple #[.agg #[.slice none 0 0, .slice none 0 0], .int .i64 8]) (by simp [results, Tryz.f131, go_sem, e0, e1]) rfl (toldD_no rfl hBF)
set_option maxHeartbeats 4000000 in
theorem dWrite_yes (x : DAt) (D : DkL) (p : Int) (a : Option Addr) (c : Nat) (s : List UInt8) (w : World) (h : Dsk w w.heap.size x D) (hs : Bsl w w.heap.size a 256 c s) (hm : MayD D) (hp : 0 ≤ p ∧ p < 256) (hn : D.2.length ≠ 4096) : Calls Tryz.prog 131 #[dval x D, .int .i64 p, .slice a 256 c] w (ToldD (withD D p s, 0) w) := by
  obtain ⟨w0, hw0, b0, z0, x0, x1⟩ := two_boxes w (.slice x.ba D.1.length x.bc) (.slice x.wa D.2.length x.wc)
  have h0 := h.step b0
  have c0 := x0.cell 0
  have c1 := x0.cell 1
  have HX0 := Lib.hid x0
  have HX1 := Lib.hid x1
  have HB := Lib.hid b0
  have HZ := Lib.hid z0
  have HD := Lib.hid h0
  have HS0 := Lib.hid (hs.step b0)
  have HC := Lib.hid (dMay_yes x D _ h0 hm)
  have hbk := dIsBlock_any p
  simp only [decide_eq_true hp] at hbk
  have HBK := Lib.hid hbk
  have hlg := dIsLong_any a 256 c
  have HLG : Hid (∀ W, Calls Tryz.prog 25 #[.slice a 256 c] W fun e w' => e = .returned (.bool true) ∧ W = w') := Lib.hid hlg
  have HM := Lib.hid hm
  have HF := Lib.hid (may_fits (with_may hm hp hs.1 hn))
  obtain ⟨m, hm2⟩ : ∃ m, D.2.length = m := ⟨_, rfl⟩
  have m0 : m < 4096 := by have := hm.2.1; omega
  have m1 : ((m : Int) == 4096) = false := by simp; omega
  have HM2 := Lib.hid hm2
  have HP := Lib.hid hp
  simp only [dval] at HC ⊢
  rw [hm2] at HX0 hw0 c1 HC ⊢
  clear b0 h0 h hm x0 x1 z0 hbk hlg hs hn hp
  go_enter Tryz.func131, Tryz.ntmps131
  go_wp2_with fail
  clear hw0 c0 c1 hm2
  refine HC.out.mono ?_
  rintro e w1 ⟨rfl, b1⟩
  have x01 := HX0.out.below b1 HX0.out.lt
  have c0 := x01.cell 0
  have c1 := x01.cell 1
  have HX01 := Lib.hid x01
  have HX11 := Lib.hid (HX1.out.below b1 HX1.out.lt)
  have HB1 := Lib.hid (HB.out.trans (b1.mono HB.out.size))
  have HZ1 := Lib.hid (show w.heap.size + 2 ≤ w1.heap.size by have := b1.size; have := HZ.out; omega)
  have HD1 := Lib.hid (HD.out.step b1)
  have HS1 := Lib.hid (HS0.out.step b1)
  clear b1 x01 HX0 HX1 HB HD HS0
  go_wp2_with fail
  refine (HBK.out _).mono ?_
  rintro e w1' ⟨rfl, rfl⟩
  go_wp2_with fail
  refine (HLG.out _).mono ?_
  rintro e w1' ⟨rfl, rfl⟩
  go_wp2_with fail
  have hsz := HZ1.out
  have hD1 := HD1.out
  have hS1 := HS1.out
  have hp := HP.out
  obtain ⟨g1, hg1⟩ : ∃ g, w1.heap.size = g := ⟨_, rfl⟩
  obtain ⟨w2, hw2⟩ : ∃ w2, (w1.alloc (.cells #[.int .i64 p, .slice a 256 c] 53)).alloc (.cells #[.slice x.wa m x.wc, .slice (some ⟨g1, 0, none⟩) 1 1] 23) = w2 := ⟨_, rfl⟩
  have b2 : Below w1.heap.size w1 w2 := by rw [← hw2]; exact ((Below.refl _ w1).alloc (Nat.le_refl _) _).alloc (by simp) _
  have y1 : Blk w2 g1 53 #[.int .i64 p, .slice a 256 c] := by rw [← hw2, ← hg1]; exact (Blk.new w1 _ _).alloc _
  have y2 : Blk w2 (g1 + 1) 23 #[.slice x.wa m x.wc, .slice (some ⟨g1, 0, none⟩) 1 1] := by
    have := Blk.new (w1.alloc (.cells #[.int .i64 p, .slice a 256 c] 53)) 23 #[.slice x.wa m x.wc, .slice (some ⟨g1, 0, none⟩) 1 1]
    rw [World.size_alloc, hg1, hw2] at this
    exact this
  have hD2 := hD1.step b2
  have hS2 := hS1.step b2
  have hone : Wts w2 w2.heap.size (some ⟨g1, 0, none⟩) 1 1 [(p, s)] := by
    refine ⟨rfl, Nat.le_refl _, by unfold maxLen; omega, fun _ => ⟨g1, 0, rfl, y1.lt, fun i hi => ?_⟩⟩
    obtain rfl : i = 0 := by omega
    have hsl := hS2.1
    refine ⟨wf64 (p := p) (by omega) (by omega), y1.cell 0, a, c, ?_, ?_⟩
    · show w2.cell? ⟨g1, 1, none⟩ = some (.slice a s.length c)
      rw [hsl]
      exact y1.cell 1
    · show Bsl w2 _ a s.length c s
      rw [hsl]
      exact hS2
  have hcon := dConcat_any (g1 + 1) 2 [⟨x.wa, m, x.wc, D.2⟩, ⟨some ⟨g1, 0, none⟩, 1, 1, [(p, s)]⟩] w2 y2.lt (by simp) (fun i hi => by
    have : i = 0 ∨ i = 1 := by simp at hi; omega
    rcases this with rfl | rfl
    · exact y2.cell 0
    · exact y2.cell 1) (fun i hi => by
    have : i = 0 ∨ i = 1 := by simp at hi; omega
    rcases this with rfl | rfl
    · show Wts w2 w2.heap.size x.wa m x.wc D.2
      rw [← HM2.out]
      exact hD2.2
    · exact hone) (by simp [flatW]) (by simp [flatW, HM2.out]; omega)
  have hfl : flatW [⟨x.wa, m, x.wc, D.2⟩, ⟨some ⟨g1, 0, none⟩, 1, 1, [(p, s)]⟩] = D.2 ++ [(p, s)] := by simp [flatW]
  rw [hfl] at hcon
  have HCON := Lib.hid hcon
  have HX02 := Lib.hid (HX01.out.below b2 HX01.out.lt)
  have HX12 := Lib.hid (HX11.out.below b2 HX11.out.lt)
  have HB2 := Lib.hid (HB1.out.trans (b2.mono (by omega)))
  have HZ2 := Lib.hid (show w.heap.size + 2 ≤ w2.heap.size by have := b2.size; omega)
  have HD2 := Lib.hid hD2
  rw [hg1, hw2]
  clear hsz hD1 hS1 hp hg1 hw2 b2 y1 y2 hD2 hS2 hone hcon hfl HB1 HZ1 HD1 HS1 HX01 HX11 c0 c1
  refine HCON.out.mono ?_
  rintro e w3 ⟨v, rfl, hrow, b3⟩
  obtain ⟨wa3, wc3, rfl, hwts⟩ := hrow.wts
  have x03 := HX02.out.below b3 HX02.out.lt
  have c0 := x03.cell 0
  have c1 := x03.cell 1
  have hla := dLaid_any ⟨x.ba, x.bc, wa3, wc3⟩ (withD D p s) w3 ⟨(HD2.out.step b3).1, hwts⟩ HF.out
  have hw1 : (withD D p s).1 = D.1 := rfl
  have hw2 : (withD D p s).2 = D.2 ++ [(p, s)] := rfl
  simp only [hw1, hw2] at hla
  obtain ⟨L, hL⟩ : ∃ L, (D.2 ++ [(p, s)]).length = L := ⟨_, rfl⟩
  rw [hL] at hla ⊢
  have HLA := Lib.hid hla
  have HX2 := Lib.hid (HX12.out.below b3 HX12.out.lt)
  have HB1 := Lib.hid (HB2.out.trans (b3.mono HB2.out.size))
  have HZ1 := Lib.hid (show w.heap.size + 2 ≤ w3.heap.size by have := b3.size; have := HZ2.out; omega)
  have HW2 := Lib.hid (show (withD D p s).2.length = L from hL)
  clear hrow b3 hwts x03 hla hw1 hw2 hL HCON HX02 HX12 HB2 HZ2 HD2
  go_wp2_with fail
  refine HLA.out.mono ?_
  rintro e w4 ⟨x2, rfl, h2, b2⟩
  clear c0 c1
  have y2 := HX2.out.below b2 HX2.out.lt
  have d0 := y2.cell 0
  have d1 := y2.cell 1
  have hf := fun i => y2.frozen i
  have hz := HZ1.out
  have HK := Lib.hid (fun (u v : Value) => laid_far (g := w.heap.size + 1) (lo' := w.heap.size) h2 (by omega) (by omega) u v)
  have HBF := Lib.hid (fun (u v : Value) => ((HB1.out.trans (b2.mono (by omega))).setCell (p := ⟨w.heap.size + 1, 0, none⟩) (Nat.le_add_right _ _) u).setCell (p := ⟨w.heap.size + 1, 1, none⟩) (Nat.le_add_right _ _) v)
  have HXF := Lib.hid (fun (u v : Value) => (y2.set_ 0 u).set_ 1 v)
  obtain ⟨K, hK⟩ : ∃ K, withD D p s = K := ⟨_, rfl⟩
  rw [hK] at HK ⊢
  have HK0 := Lib.hid hK
  obtain ⟨ba2, bc2, wa2, wc2⟩ := x2
  clear h2 b2 y2 hz hK
  simp only [dval]
  go_wp2_with fail
  have hKD := HK.out (.slice ba2 K.1.length bc2) (.slice wa2 K.2.length wc2)
  have hBF := HBF.out (.slice ba2 K.1.length bc2) (.slice wa2 K.2.length wc2)
  have hXF := HXF.out (.slice ba2 K.1.length bc2) (.slice wa2 K.2.length wc2)
  obtain ⟨wf, hwf⟩ : ∃ wf, ((w4.setCell ⟨w.heap.size + 1, 0, none⟩ (.slice ba2 K.1.length bc2)).setCell ⟨w.heap.size + 1, 1, none⟩ (.slice wa2 K.2.length wc2)) = wf := ⟨_, rfl⟩
  rw [hwf] at hKD hBF hXF ⊢
  clear hwf d0 d1 hf
  have e0 := hXF.cell 0
  have e1 := hXF.cell 1
  refine bodyPost_ret (v := .tuple #[dval ⟨ba2, bc2, wa2, wc2⟩ K, .int .i64 0]) (by simp [results, Tryz.f131, go_sem, e0, e1, dval]) rfl ?_
  exact ⟨⟨ba2, bc2, wa2, wc2⟩, by rw [HK0.out], .inr (by rw [HK0.out]; exact hKD), hBF⟩
theorem dWrite_any (x : DAt) (D : DkL) (p : Int) (a : Option Addr) (n c : Nat) (s : List UInt8) (w : World) (h : Dsk w w.heap.size x D) (hs : Bsl w w.heap.size a n c s) : Calls Tryz.prog 131 #[dval x D, .int .i64 p, .slice a n c] w (ToldD (writeO D p s) w) := by
  by_cases hy : WriteGoes D p s
  · obtain ⟨h1, h2, h3, h4⟩ := hy
    rw [writeO, if_pos h1, if_pos h2, if_pos h3, if_neg h4]
    obtain rfl : n = 256 := by rw [← hs.1]; exact h3
    exact dWrite_yes x D p a c s w h hs h1 h2 h4
  · exact dWrite_no x D p a n c s w h hs hy
end Go.Proofs.YtafbidhbmfdlkaaGreatDoor
/-
  The document's own With for layer 9, with the rows that it makes.
-/
namespace Go.Proofs.YtafbidhbmfdlkaaGreatDoor
open Go.RowKit Go.Shelf
set_option maxRecDepth 100000

/-- A disk whose rows are rows: it stays where boxes of disks are written. -/
def DskR (w : World) (x : DAt) (D : DkL) : Prop := ∃ b1 b2, BRowC w 0 b1 (.slice x.ba D.1.length x.bc) D.1 ∧ WRowC w 0 b2 (.slice x.wa D.2.length x.wc) D.2
theorem DskR.dsk {w : World} {x : DAt} {D : DkL} (h : DskR w x D) : Dsk w w.heap.size x D := by
  obtain ⟨b1, b2, h1, h2⟩ := h
  exact rows_dsk h1 h2
theorem DskR.below {w w' : World} {x : DAt} {D : DkL} (h : DskR w x D) (hb : Below w.heap.size w w') : DskR w' x D := by
  obtain ⟨b1, b2, h1, h2⟩ := h
  exact ⟨b1, b2, h1.below hb, h2.below hb⟩
end Go.Proofs.YtafbidhbmfdlkaaGreatDoor
/-
  slices.Grow of nil, and slices.Concat of lists of bytes: new memory that holds them all, one behind the other; nothing that was there is written.
-/
namespace Go.Proofs.YtafbidhbmfdlkaaGreatDoor
open Go.RowKit Go.Shelf
set_option maxRecDepth 100000

set_option maxHeartbeats 1000000 in
theorem grow_any (n : Nat) (h0 : 0 < n) (hn : n ≤ 100000) (w : World) : Calls Tryz.prog 195 #[.slice none 0 0, .int .i64 n] w fun e w' => ∃ v, e = .returned v ∧ w'.ownsRow w.heap.size 5 1 v 0 (vals []) ∧ Below w.heap.size w w' := by
  obtain ⟨i0, hi, hz0, hz1, hz2⟩ := info_parts infoU8
  have hr : ∀ ty, (Builtin.append_ #[26, 3] ty #[.slice none 0 0, .int .i64 n]).run Tryz.prog w =
      .ok (.slice (some ⟨w.heap.size, 0, none⟩) n (grownCap w n 0 5)) (w.drew.alloc (.cells (Builtin.zeroCells (Value.int .u8 0).cells n ++ Builtin.zeroCells (Value.int .u8 0).cells (grownCap w n 0 5 - n)) 5)) := fun ty =>
    Lib.run_append_nil_zeros w 26 3 ty 5 i0 (.int .u8 0) .i64 .i64 Tryz.underlying26 Tryz.underlying3 hi hz0 n h0 (by omega) (by omega) (by rw [hz2]; omega)
  have hG1 : n ≤ grownCap w n 0 5 := grownCap_ge w _ _ _
  have hG2 : grownCap w n 0 5 ≤ maxLen := grownCap_le_maxLen w n 0 5 (by unfold maxLen; omega)
  obtain ⟨G, hG⟩ : ∃ G, grownCap w n 0 5 = G := ⟨_, rfl⟩
  rw [hG] at hr hG1 hG2
  obtain ⟨cs, hcs⟩ : ∃ cs, Builtin.zeroCells (Value.int .u8 0).cells n ++ Builtin.zeroCells (Value.int .u8 0).cells (G - n) = cs := ⟨_, rfl⟩
  have hsz : cs.size = G := by
    rw [← hcs]
    simp [Builtin.zeroCells, Value.cells]
    omega
  rw [hcs] at hr
  have z5 : ∀ w, (Go.sizeOf 5).run Tryz.prog w = .ok 1 w := fun w => by kernel_rfl
  have n1 : ¬ ((n : Int) < 0) := by omega
  have n2 : (0 : Int) < n := by omega
  have n3 : (n : Int) ≤ 100000 := by omega
  have g0 : (G : Int) ≤ 9223372036854775807 := by unfold maxLen at hG2; omega
  have hown : (w.drew.alloc (.cells cs 5)).ownsRow w.heap.size 5 1 (.slice (some ⟨w.heap.size, 0, none⟩) 0 G) 0 (vals []) :=
    ⟨rfl, .inr ⟨w.heap.size, G, cs, rfl, Nat.le_refl _, by have := heap_alloc_new w.drew (.cells cs 5); simpa using this, Nat.zero_le _, hG2, by omega, by simp [vals]⟩⟩
  have hbel : Below w.heap.size w (w.drew.alloc (.cells cs 5)) := (Below.refl _ w).drew.alloc (by simp) _
  have HO := Lib.hid hown; clear hown
  have HB := Lib.hid hbel; clear hbel
  have HG2 := Lib.hid hG2; clear hG2
  clear hG hcs hsz hi hz0 hz1 hz2
  go_enter Tryz.func195, Tryz.ntmps195
  go_wp2_with (at_builtin; refine Lib.wpList_append_run _ rfl _ _ _ _ rfl _ _ rfl rfl _ _ (hr _) ?_)
  go_ret
  exact ⟨_, rfl, HO.out, HB.out⟩

/-- A list of bytes as it is handed in. -/
structure Part where
  a : Option Addr
  len : Nat
  cap : Nat
  s : List UInt8
/-- Lists, one behind the other. -/
def flat (ps : List Part) : List UInt8 := ps.flatMap (·.s)
theorem flat_take_succ (ps : List Part) (k : Nat) (h : k < ps.length) : flat (ps.take (k + 1)) = flat (ps.take k) ++ (ps[k]).s := by
  unfold flat
  rw [List.take_succ_eq_append_getElem h, List.flatMap_append]
  simp
theorem flat_take_le (ps : List Part) (k : Nat) : (flat (ps.take k)).length ≤ (flat ps).length := by
  have : flat ps = flat (ps.take k) ++ flat (ps.drop k) := by
    unfold flat
    rw [← List.flatMap_append, List.take_append_drop]
  rw [this, List.length_append]
  omega

/-- The same, the call's own. -/
def OwnPost (s : List UInt8) (w : World) (e : Ending) (w' : World) : Prop := ∃ v, e = .returned v ∧ w'.ownsRow w.heap.size 5 1 v s.length (vals s) ∧ Below w.heap.size w w'

set_option maxHeartbeats 2000000 in
theorem concat_own (r c : Nat) (ps : List Part) (w : World) (hr : r < w.heap.size) (hl : ps.length ≤ 1000) (_hc : ps.length ≤ c)
    (hcell : ∀ i (h : i < ps.length), w.cell? ⟨r, i, none⟩ = some (.slice (ps[i]).a (ps[i]).len (ps[i]).cap)) (hb : ∀ i (h : i < ps.length), Bsl w w.heap.size (ps[i]).a (ps[i]).len (ps[i]).cap (ps[i]).s)
    (h0 : 0 < (flat ps).length) (hm : (flat ps).length ≤ 100000) :
    Calls Tryz.prog 126 #[.slice (some ⟨r, 0, none⟩) ps.length c] w (OwnPost (flat ps) w) := by
  obtain ⟨n, hn⟩ : ∃ n, ps.length = n := ⟨_, rfl⟩
  have HN := Lib.hid hn
  rw [hn] at hl ⊢
  clear hn
  have n0 : (0 : Int) ≤ n := by omega
  have n1 : (n : Int) ≤ 1000 := by omega
  have HC := Lib.hid hcell; clear hcell
  have HB := Lib.hid hb; clear hb
  have HM := Lib.hid hm; clear hm
  have H0 := Lib.hid h0; clear h0
  go_enter Tryz.func126, Tryz.ntmps126
  go_wp2_with fail
  go_loop [3, 11] (fun z i => ∃ k : Nat, k ≤ n ∧ i = .int .i64 k ∧ z = .int .i64 ((flat (ps.take k)).length : Nat)) (fun _ i => n - (intOf i).toNat)
  case atStart => exact ⟨0, Nat.zero_le _, rfl, rfl⟩
  case round =>
    obtain ⟨k, hk, rfl, rfl⟩ := hrel
    by_cases hlt : k < n
    · have hkp : k < ps.length := by rw [HN.out]; exact hlt
      have hce := HC.out k hkp
      have hbe := (HB.out k hkp).1
      have hsu := flat_take_succ ps k hkp
      have hle := flat_take_le ps (k + 1)
      rw [hsu, List.length_append, hbe] at hle
      have hsl : (flat (ps.take (k + 1))).length = (flat (ps.take k)).length + (ps[k]).len := by rw [hsu, List.length_append, hbe]
      obtain ⟨p, hp⟩ : ∃ p, ps[k] = p := ⟨_, rfl⟩
      rw [hp] at hce hle hsl
      obtain ⟨m, hm⟩ : ∃ m, (flat (ps.take k)).length = m := ⟨_, rfl⟩
      rw [hm] at hle hsl ⊢
      obtain ⟨pa, pl, pc, pss⟩ := p
      dsimp only at hce hle hsl
      have hmm := HM.out
      have m0 : (0 : Int) ≤ (m : Int) := by omega
      have m1 : (m : Int) + (pl : Int) ≤ 100000 := by omega
      have m2 : (0 : Int) ≤ (pl : Int) := by omega
      have m3 : ¬ ((m : Int) + (pl : Int) < 0) := by omega
      have k0 : (k : Int) < n := by omega
      have HSL := Lib.hid hsl; clear hsl
      clear hp hm hsu hbe hle hmm
      go_wp2_with fail
      go_round
      case rel => exact ⟨k + 1, by omega, by go_num, by rw [HSL.out]; go_num⟩
      case measure => simp [intOf]; omega
    · obtain rfl : k = n := by omega
      have ht : ps.take k = ps := List.take_of_length_le (by rw [HN.out]; exact Nat.le_refl _)
      rw [ht]
      obtain ⟨m, hm⟩ : ∃ m, (flat ps).length = m := ⟨_, rfl⟩
      have gr := grow_any m (by rw [← hm]; exact H0.out) (by rw [← hm]; exact HM.out) w
      rw [hm]
      have GR := Lib.hid gr; clear gr
      have HML := Lib.hid hm; clear hm ht
      go_wp2_with fail
      refine GR.out.mono ?_
      rintro e w1 ⟨v, rfl, ho, b1⟩
      have HO := Lib.hid ho; clear ho
      have HB1 := Lib.hid b1; clear b1
      go_wp2_with fail
      go_loopw [6, 27] (fun v i wr => ∃ j : Nat, j ≤ k ∧ i = .int .i64 j ∧ wr.ownsRow w.heap.size 5 1 v (flat (ps.take j)).length (vals (flat (ps.take j))) ∧ Below w.heap.size w wr) (fun _ i _ => k - (intOf i).toNat)
      case atStart => exact ⟨0, Nat.zero_le _, rfl, HO.out, HB1.out⟩
      case round =>
        obtain ⟨j, hj, rfl, ho2, hb2⟩ := hrel
        by_cases hlt2 : j < k
        · have hkp : j < ps.length := by rw [HN.out]; exact hlt2
          have hce := (hb2.cell (p := ⟨r, j, none⟩) hr).trans (HC.out j hkp)
          have hbs := ((HB.out j hkp).below hb2).more hb2.size
          have hbe := (HB.out j hkp).1
          have hsu := flat_take_succ ps j hkp
          have hle := flat_take_le ps (j + 1)
          rw [hsu, List.length_append, hbe] at hle
          obtain ⟨p, hp⟩ : ∃ p, ps[j] = p := ⟨_, rfl⟩
          rw [hp] at hce hle hsu hbs hbe
          obtain ⟨t, ht⟩ : ∃ t, flat (ps.take j) = t := ⟨_, rfl⟩
          rw [ht] at hle hsu ho2
          obtain ⟨pa, pl, pc, pss⟩ := p
          dsimp only at hce hle hsu hbs hbe
          have hmm := HM.out
          have k0 : (j : Int) < k := by omega
          have hnm : t.length + pl ≤ 100000 := by omega
          have HSU := Lib.hid hsu; clear hsu
          have HO2 := Lib.hid ho2; clear ho2
          have HB2 := Lib.hid hb2; clear hb2
          have HBS := Lib.hid hbs; clear hbs
          have HBE := Lib.hid hbe; clear hbe
          clear hp ht hle hmm
          go_wp2_with (at_builtin; refine wpList_append_bsl rfl (.tmp 31) (.tmp 32) rfl w.heap.size u6 t.length _ rfl HO2.out wr.heap.size pa pl pc pss rfl HBS.out hnm HB2.out.size ?_; intro v' W3 hown' hg')
          have hb3 : Below w.heap.size w W3 := HB2.out.grown hg' HB2.out.size (fun k e => (HO2.out.lt k e).1)
          have HO3 := Lib.hid hown'; clear hown'
          have HB3 := Lib.hid hb3; clear hb3 hg'
          go_wp2_with fail
          go_roundw
          case rel => exact ⟨j + 1, by omega, by go_num, by rw [HSU.out, List.length_append, HBE.out]; exact HO3.out, HB3.out⟩
          case measure => simp [intOf]; omega
        · obtain rfl : j = k := by omega
          have ht : ps.take j = ps := List.take_of_length_le (by rw [HN.out]; exact Nat.le_refl _)
          rw [ht] at ho2
          have HO2 := Lib.hid ho2
          have HB2 := Lib.hid hb2; clear hb2
          clear ho2 ht
          go_wp2_with fail
          go_ret
          exact ⟨_, rfl, HO2.out, HB2.out⟩
end Go.Proofs.YtafbidhbmfdlkaaGreatDoor
/-
  A range over a function that has no end of its own: it goes on until the body leaves it. What the iterator tells of each value and of the world is handed to the body; a bound on the rounds comes from the caller.
-/
namespace Go.Proofs.YtafbidhbmfdlkaaGreatDoor
open Go Go.RowKit
set_option maxRecDepth 100000

/-- Cells at or behind block B stay. -/
def CellsFrom (B : Nat) (W W' : World) : Prop := W.heap.size ≤ W'.heap.size ∧ ∀ p v, B ≤ p.block → W.cell? p = some v → W'.cell? p = some v
/-- All that lies at or behind block B stays. -/
def AllFrom (B : Nat) (W W' : World) : Prop := W.heap.size ≤ W'.heap.size ∧ ∀ k o, B ≤ k → W.heap[k]? = some o → W'.heap[k]? = some o
theorem CellsFrom.trans {B : Nat} {a b c : World} (h : CellsFrom B a b) (k : CellsFrom B b c) : CellsFrom B a c := ⟨Nat.le_trans h.1 k.1, fun p v hp hv => k.2 p v hp (h.2 p v hp hv)⟩
theorem AllFrom.cells {B : Nat} {a b : World} (h : AllFrom B a b) : CellsFrom B a b := ⟨h.1, fun p v hp hv => by
  obtain ⟨o, ho, _⟩ := cells_of_cell hv
  have := h.2 _ o hp ho
  exact (World.cell?_of_block (this.trans ho.symm)).trans hv⟩
end Go.Proofs.YtafbidhbmfdlkaaGreatDoor
/-
  cipher.pieces hands out the pieces of the stream of a key and a number, from the first one on, for as long as they are asked for.
-/
namespace Go.Proofs.YtafbidhbmfdlkaaGreatDoor
open Go.RowKit Go.Shelf
set_option maxRecDepth 100000
attribute [local go_sem] Oper.semAt_some

end Go.Proofs.YtafbidhbmfdlkaaGreatDoor
/-
  cipher's stream, of a key, a number and a length that may be, is so many bytes of its pieces, in new memory; nothing that was there is written.
-/
namespace Go.Proofs.YtafbidhbmfdlkaaGreatDoor
open Go.RowKit Go.Shelf
set_option maxRecDepth 100000
attribute [local go_sem] Oper.semAt_some

/-- What the loop keeps behind c bytes s. -/
def StI (g n : Nat) (w : World) (c : Nat) (s : List UInt8) (W : World) : Prop :=
  Blk W g 3 #[.int .i64 n] ∧ Blk W (g + 2) 26 #[.slice (some ⟨g + 1, 0, none⟩) c n] ∧ W.ownsRow g 5 1 (.slice (some ⟨g + 1, 0, none⟩) c n) c (vals s) ∧ Below g w W
theorem StI.below {g n : Nat} {w : World} {c : Nat} {s : List UInt8} {W W' : World} {B : Nat} (h : StI g n w c s W) (hb : Below B W W') (hB : g + 3 ≤ B) : StI g n w c s W' := by
  obtain ⟨h1, h2, h3, h4⟩ := h
  refine ⟨h1.below hb (by omega), h2.below hb (by omega), ?_, h4.trans (hb.mono (by omega))⟩
  obtain ⟨e1, ⟨e2, _⟩ | ⟨g', cap, cur, e3, e4, e5, e6⟩⟩ := h3
  · cases e2
  · cases e3
    exact ⟨e1, .inr ⟨g + 1, n, cur, rfl, e4, (hb.block _ (by omega)).trans e5, e6⟩⟩

end Go.Proofs.YtafbidhbmfdlkaaGreatDoor
/-
  Words for stores by value (api.Store): a disk, a table, Epoch and Count; where they lie; what calls that answer stores answer.
-/
namespace Go.Proofs.YtafbidhbmfdlkaaGreatDoor
open Go.RowKit Go.Shelf
set_option maxRecDepth 100000

/-- A store: its disk, its table, its Epoch and its Count. -/
abbrev StL := DkL × List UInt8 × Nat × Nat
/-- Where its slices are. -/
structure SAt where
  d : DAt
  a : Option Addr
  c : Nat
/-- The store as a value. -/
@[reducible] def stV (x : SAt) (S : StL) : Value := .agg #[.slice x.d.ba S.1.1.length x.d.bc, .slice x.d.wa S.1.2.length x.d.wc, .slice x.a S.2.1.length x.c, .int .u32 (S.2.2.1 : Int), .int .u32 (S.2.2.2 : Int)]
/-- Its cells. -/
@[reducible] def stC (x : SAt) (S : StL) : Array Value := #[.slice x.d.ba S.1.1.length x.d.bc, .slice x.d.wa S.1.2.length x.d.wc, .slice x.a S.2.1.length x.c, .int .u32 (S.2.2.1 : Int), .int .u32 (S.2.2.2 : Int)]
/-- Its numbers fit. -/
def WfS (S : StL) : Prop := S.2.2.1 < 4294967296 ∧ S.2.2.2 < 4294967296
/-- A store that lies below block B reads as S. -/
def Str (w : World) (B : Nat) (x : SAt) (S : StL) : Prop := Dsk w B x.d S.1 ∧ Bsl w B x.a S.2.1.length x.c S.2.1
/-- It goes on reading so. -/
def StP (L : Nat) (w : World) (x : SAt) (S : StL) : Prop := Lasts L w fun W => Str W W.heap.size x S
/-- None. -/
abbrev st0 : StL := (([], []), [], 0, 0)
def at0 : SAt := ⟨⟨none, 0, none, 0⟩, none, 0⟩
theorem Str.lasts {w : World} {L : Nat} {x : SAt} {S : StL} (h : Str w L x S) (hL : L ≤ w.heap.size) : StP L w x S := (dsk_lasts h.1 hL).and (bsl_lasts h.2 hL)
theorem st0_lasts (L : Nat) (w : World) : StP L w at0 st0 := fun _ _ => ⟨⟨bls_nil _ _, wts_nil _ _⟩, ⟨rfl, Nat.le_refl _, Nat.zero_le _, fun _ => rfl, fun h => absurd h (by simp)⟩⟩
/-- A store may be. -/
def MayS (S : StL) : Prop := MayD S.1 ∧ MayT S.2.1 ∧ (1 ≤ S.2.2.1 ∧ S.2.2.1 ≤ 65535) ∧ S.2.2.2 ≤ 65535
/-- The sum of bytes. -/
def sumOf (b : List UInt8) : Nat := (fourW b).a.toNat
theorem sumOf_lt (b : List UInt8) : sumOf b < 4294967296 := (fourW b).a.isLt
/-- A block laid: a store and its pointer, if there is room. -/
def putS (S : StL) (birth iv tag : Nat) (b : List UInt8) : Option (StL × Pt) :=
  match freeTo S.2.1 256 with
  | [] => none
  | k :: _ => if 4096 ≤ S.1.2.length then none else some ((withD S.1 (k : Int) b, S.2.1.set k 1, S.2.2.1, S.2.2.2), ((k : Int), birth, iv, tag, sumOf b))
theorem putS_none {S : StL} {birth iv tag : Nat} {b : List UInt8} (h : ∀ i, i < 256 → mkT S.2.1 i ≠ 0) : putS S birth iv tag b = none := by
  have e0 : freeTo S.2.1 256 = [] := freeTo_same (p := 0) (Nat.zero_le _) fun i _ hi => h i hi
  unfold putS
  rw [e0]
theorem freeTo_head {s : List UInt8} {k : Nat} (hk : k < 256) (hz : mkT s k = 0) (h0 : ∀ i, i < k → mkT s i ≠ 0) : ∃ r, freeTo s 256 = k :: r := by
  have e1 : ∀ m, k < m → ∃ r, freeTo s m = k :: r := by
    intro m hm
    induction m with
    | zero => omega
    | succ m ih =>
      rcases Nat.lt_or_ge k m with h1 | h1
      · obtain ⟨r, hr⟩ := ih h1
        by_cases h2 : mkT s m = 0
        · exact ⟨r ++ [m], by rw [freeTo_yes h2, hr]; rfl⟩
        · exact ⟨r, by rw [freeTo_no h2, hr]⟩
      · obtain rfl : m = k := by omega
        refine ⟨[], ?_⟩
        rw [freeTo_yes hz, freeTo_same (p := 0) (Nat.zero_le _) fun i _ hi => h0 i hi]
        rfl
  exact e1 256 hk
theorem putS_great {S : StL} {birth iv tag : Nat} {b : List UInt8} (h : 4096 ≤ S.1.2.length) : putS S birth iv tag b = none := by
  unfold putS
  split
  · rfl
  · rw [if_pos h]
theorem putS_some {S : StL} {birth iv tag : Nat} {b : List UInt8} {k : Nat} (hk : k < 256) (hz : mkT S.2.1 k = 0) (h0 : ∀ i, i < k → mkT S.2.1 i ≠ 0) (hw : S.1.2.length < 4096) :
    putS S birth iv tag b = some ((withD S.1 (k : Int) b, S.2.1.set k 1, S.2.2.1, S.2.2.2), ((k : Int), birth, iv, tag, sumOf b)) := by
  obtain ⟨r, hr⟩ := freeTo_head hk hz h0
  unfold putS
  rw [hr]
  simp only
  rw [if_neg (by omega)]
/-- What is answered of what Put answers. -/
def putR : Option (StL × Pt) → StL × Pt × Nat
  | none => (st0, p0, 9)
  | some sp => (sp.1, sp.2, 0)
/-- What Raw answers: a store, a pointer, an error's number. -/
noncomputable def rawO (S : StL) (birth iv tag : Nat) (b : List UInt8) : StL × Pt × Nat :=
  open Classical in
  if MayS S then
    if 1 ≤ birth ∧ birth ≤ 16777215 then
      if b.length = 256 then
        putR (putS S birth iv tag b)
      else (st0, p0, 3)
    else (st0, p0, 2)
  else (st0, p0, 8)
/-- A block as a flush would leave it. -/
def seenS (S : StL) (k : Nat) : List UInt8 := leftD S.1 (fun _ => true) k
/-- What Look answers of a store and a pointer that may be. -/
def seenO (S : StL) (p : Pt) : List UInt8 × Nat :=
  if p = p0 then ([], 6) else if sumOf (seenS S p.1.toNat) = p.2.2.2.2 then (seenS S p.1.toNat, 0) else ([], 130)
noncomputable def lookO (S : StL) (p : Pt) : List UInt8 × Nat :=
  open Classical in if MayS S ∧ MayP p then seenO S p else ([], 8)
/-- Bytes and an error's number. -/
def OutBE (o : List UInt8 × Nat) (w : World) (e : Ending) (w' : World) : Prop := ∃ v, e = .returned (.tuple #[v, .int .i64 o.2]) ∧ w'.ownsRow w.heap.size 5 1 v o.1.length (vals o.1) ∧ Below w.heap.size w w'
theorem mayP_at {p : Pt} (h : MayP p) (hp : p ≠ p0) : ∃ k : Nat, p.1 = (k : Int) ∧ 12 ≤ k ∧ k < 256 := by
  rcases h with h | h
  · exact absurd h hp
  · exact ⟨p.1.toNat, by omega, by omega, by omega⟩
end Go.Proofs.YtafbidhbmfdlkaaGreatDoor
/-
  make([]byte, n, n): a new list of noughts.
-/
namespace Go.Proofs.YtafbidhbmfdlkaaGreatDoor
open Go.RowKit Go.Shelf
set_option maxRecDepth 100000

theorem make_noughts (n : Nat) (hn : n ≤ 100000) (W : World) : (Instr.makeSlice 26 (.int .i64 n) (.int .i64 n)).run Tryz.prog W = .ok (.slice (some ⟨W.heap.size, 0, none⟩) n n) (W.alloc (.cells (Array.replicate n (.int .u8 0)) 5)) := by
  obtain ⟨i0, hi, hz0, hz1, hz2⟩ := info_parts infoU8
  have hr := run_make (P := Tryz.prog) W 26 5 i0 (.int .u8 0) Tryz.underlying26 hi hz0 .i64 .i64 n n (by omega) (Int.le_refl _) (by rw [hz2]; omega) (by omega)
  have e : madeCells (Value.int .u8 0).cells (n * 1) = Array.replicate n (.int .u8 0) := by
    apply Array.ext
    · simp [size_madeCells]
    · intro i h1 h2
      simp [madeCells, Value.cells, Nat.mod_one]
  rw [hz1] at hr
  simp only [Int.toNat_natCast] at hr
  rw [e] at hr
  exact hr
theorem noughts_bsl (n : Nat) (hn : n ≤ 100000) (w : World) : Bsl (w.alloc (.cells (Array.replicate n (.int .u8 0)) 5)) (w.alloc (.cells (Array.replicate n (.int .u8 0)) 5)).heap.size (some ⟨w.heap.size, 0, none⟩) n n (List.replicate n 0) := by
  refine bsl_of_holds (by simp) (Nat.le_refl _) (by unfold maxLen; omega) (Blk.new w 5 _).lt fun i hi => ?_
  have hi' : i < n := by simpa using hi
  rw [(Blk.new w 5 (Array.replicate n (.int .u8 0))).cell i]
  simp [hi']

end Go.Proofs.YtafbidhbmfdlkaaGreatDoor
/-
  What follows of stores as plain lists: a block laid is seen, no other changes; what was sealed is opened; what was given up is seen as before; room; numbers; a byte turned.
-/
namespace Go.Proofs.YtafbidhbmfdlkaaGreatDoor
open Go.RowKit Go.Shelf
set_option maxRecDepth 100000

theorem leftD_withD (D : DkL) (p : Nat) (s : List UInt8) (q : Nat) : leftD (withD D p s) (fun _ => true) q = if q = p then s else leftD D (fun _ => true) q := by
  obtain ⟨h1, h2⟩ := wr_with D.2 (p : Int) s
  have hl : (withD D (p : Int) s).2.length = D.2.length + 1 := by simp [withD]
  have he : (withD D (p : Int) s).2 = D.2 ++ [((p : Int), s)] := rfl
  unfold leftD
  rw [hl, he, lastTo, h2]
  by_cases e : q = p
  · subst e
    rw [if_pos ⟨rfl, rfl⟩, if_pos rfl]
    simp only
    rw [h2]
  · rw [if_neg (fun h => e (by have := h.2; simp only at this; omega)), if_neg e]
    have hc : lastTo (D.2 ++ [((p : Int), s)]) (fun _ => true) (q : Int) D.2.length = lastTo D.2 (fun _ => true) (q : Int) D.2.length := lastTo_congr (fun i hi => by rw [h1 i hi])
    rw [hc]
    cases hx : lastTo D.2 (fun _ => true) (q : Int) D.2.length with
    | none => rfl
    | some i => simp only; rw [h1 i (lastTo_lt hx).1]

/-- A store with a block laid. -/
@[reducible] def putAt (S : StL) (k : Nat) (b : List UInt8) : StL := (withD S.1 (k : Int) b, S.2.1.set k 1, S.2.2.1, S.2.2.2)
theorem seenS_put (S : StL) (k : Nat) (b : List UInt8) (q : Nat) : seenS (putAt S k b) q = if q = k then b else seenS S q := leftD_withD S.1 k b q

theorem free_first {s : List UInt8} {k : Nat} {r : List Nat} (h : freeTo s 256 = k :: r) : k < 256 ∧ mkT s k = 0 ∧ ∀ i, i < k → mkT s i ≠ 0 := by
  have h1 : k ∈ freeTo s 256 := by rw [h]; exact List.mem_cons_self
  obtain ⟨a, b⟩ := freeTo_mem.1 h1
  refine ⟨a, b, fun i hi hz => ?_⟩
  rcases first_from (fun i => mkT s i = 0) 0 256 with ⟨j, _, hj, hjz, hjm⟩ | hn
  · obtain ⟨r', hr'⟩ := freeTo_head hj hjz fun i hi => hjm i (Nat.zero_le _) hi
    rw [h] at hr'
    cases hr'
    exact hjm i (Nat.zero_le _) hi hz
  · exact hn k (Nat.zero_le _) a b
theorem putS_cases {S : StL} (h : MayT S.2.1) (birth iv tag : Nat) (b : List UInt8) : (putS S birth iv tag b = none ∧ (freeTo S.2.1 256 = [] ∨ 4096 ≤ S.1.2.length)) ∨
    ∃ k r, (12 ≤ k ∧ k < 256) ∧ mkT S.2.1 k = 0 ∧ (∀ i, i < k → mkT S.2.1 i ≠ 0) ∧ S.1.2.length < 4096 ∧ freeTo S.2.1 256 = k :: r ∧ putS S birth iv tag b = some (putAt S k b, ((k : Int), birth, iv, tag, sumOf b)) := by
  cases hf : freeTo S.2.1 256 with
  | nil => exact .inl ⟨by unfold putS; rw [hf], .inl rfl⟩
  | cons k r =>
    obtain ⟨h1, h2, h3⟩ := free_first hf
    rcases Nat.lt_or_ge S.1.2.length 4096 with hw | hw
    · exact .inr ⟨k, r, ⟨h.free_ge (by omega), h1⟩, h2, h3, hw, rfl, putS_some h1 h2 h3 hw⟩
    · exact .inl ⟨putS_great hw, .inr hw⟩

/-! What may be. -/
theorem putAt_may {S : StL} (h : MayS S) {k : Nat} (hk : 12 ≤ k ∧ k < 256) {b : List UInt8} (hb : b.length = 256) (hw : S.1.2.length < 4096) : MayS (putAt S k b) :=
  ⟨with_may h.1 (by omega) hb (by omega), set_may h.2.1 hk.1 hk.2 1 (by decide), h.2.2⟩
theorem ptr_may {k birth : Nat} (hk : 12 ≤ k ∧ k < 256) (hb : 1 ≤ birth ∧ birth ≤ 16777215) (iv tag s : Nat) : MayP ((k : Int), birth, iv, tag, s) := .inr ⟨by simp only; omega, hb⟩
theorem ptr_not {k birth : Nat} (hb : 1 ≤ birth) (iv tag s : Nat) : (((k : Int), birth, iv, tag, s) : Pt) ≠ p0 := fun e => by
  have : birth = 0 := congrArg (fun p : Pt => p.2.1) e
  omega

/-! What is seen. -/
theorem seenO_put (S : StL) {k birth : Nat} (hb : 1 ≤ birth) (iv tag : Nat) (b : List UInt8) : seenO (putAt S k b) ((k : Int), birth, iv, tag, sumOf b) = (b, 0) := by
  unfold seenO
  rw [if_neg (ptr_not hb _ _ _)]
  have e : seenS (putAt S k b) ((k : Int)).toNat = b := by rw [seenS_put, if_pos (Int.toNat_natCast k)]
  simp only
  rw [e, if_pos rfl]
theorem seenO_far (S : StL) {k : Nat} {b : List UInt8} {p : Pt} (hp : MayP p) (h : p.1 ≠ (k : Int)) : seenO (putAt S k b) p = seenO S p := by
  unfold seenO
  by_cases h0 : p = p0
  · rw [if_pos h0, if_pos h0]
  · obtain ⟨j, h1, _, _⟩ := mayP_at hp h0
    have hj : p.1.toNat ≠ k := by omega
    rw [if_neg h0, if_neg h0, seenS_put, if_neg hj]
theorem lookO_may {S : StL} {p : Pt} (h : MayS S) (hp : MayP p) : lookO S p = seenO S p := by unfold lookO; rw [if_pos ⟨h, hp⟩]
theorem put_mark {S : StL} {k i : Nat} {b : List UInt8} (hl : S.2.1.length = 256) (hk : k < 256) : mkT (putAt S k b).2.1 i = if i = k then 1 else mkT S.2.1 i := mkT_set S.2.1 k 1 i (by omega)

end Go.Proofs.YtafbidhbmfdlkaaGreatDoor
/-
  What a sync lays for the pool itself, as plain lists: the root's block and the keys' block; and what is read of them.
-/
namespace Go.Proofs.YtafbidhbmfdlkaaGreatDoor
open Go.RowKit Go.Shelf
set_option maxRecDepth 100000

/-- All noughts? -/
def isZ (b : List UInt8) : Bool := b.all fun x => x == 0
/-- Noughts behind, up to a block. -/
def fillB (b : List UInt8) : List UInt8 := b ++ List.replicate (256 - b.length) 0
theorem fillB_length {b : List UInt8} (h : b.length ≤ 256) : (fillB b).length = 256 := by unfold fillB; rw [List.length_append, List.length_replicate]; omega
/-- A key's bytes in the keys' block. -/
def keyB (k : List UInt8) : List UInt8 := k ++ List.replicate (24 - k.length) 0
/-- The keys' block. -/
def keysB (ks : List (List UInt8)) : List UInt8 := fillB (ks.flatMap keyB)
/-- A key as it is read. -/
def keyRd (b : List UInt8) : List UInt8 := if isZ b then [] else b
def winK (s : List UInt8) (i : Nat) : List UInt8 := (s.drop (24 * i)).take 24
/-- The first keys of a block. -/
def keysTo (s : List UInt8) (n : Nat) : List (List UInt8) := (List.range n).map fun i => keyRd (winK s i)
/-- What the root's block tells. -/
structure TrL where
  nextId : Nat
  nextGuid : Nat
  many : Nat
  ls : List Pt
  keys : Pt
def headTr (t : TrL) : List UInt8 := leB 1 82 ++ leB 2 t.nextId ++ leB 4 t.nextGuid ++ leB 1 t.many
theorem headTr_length (t : TrL) : (headTr t).length = 8 := by simp [headTr, leB_length]
/-- The row that it lies over. -/
def trunkR (t : TrL) : List Pt := p0 :: (t.ls ++ List.replicate (4 - t.ls.length) p0 ++ [t.keys])
/-- The root's block. -/
def trunkB (t : TrL) : List UInt8 := headTr t ++ (rowTo (trunkR t) 6).drop 8
/-- How many blocks so many lines need. -/
def blocksN (many : Nat) : Nat := max 1 ((many + 4) / 5)
/-- What a block tells, if it is a root's. -/
def trunkT (s : List UInt8) : TrL := ⟨leN ((s.drop 1).take 2), leN ((s.drop 3).take 4), leN ((s.drop 7).take 1), ((rowsL (List.replicate 16 0 ++ s.drop 16)).drop 1).take (blocksN (leN ((s.drop 7).take 1))), (rowsL (List.replicate 16 0 ++ s.drop 16)).getD 5 p0⟩
/-- What may be laid. -/
structure MayTr (t : TrL) : Prop where
  id : t.nextId < 65536
  guid : t.nextGuid < 4294967296
  many : t.many ≤ 16
  len : t.ls.length = blocksN t.many
  one : ∀ q ∈ t.ls, MayP q ∧ WfP q ∧ q ≠ p0
  key : MayP t.keys ∧ WfP t.keys ∧ t.keys ≠ p0
theorem blocksN_le {m : Nat} (h : m ≤ 16) : 1 ≤ blocksN m ∧ blocksN m ≤ 4 := by unfold blocksN; omega
theorem trunkR_length {t : TrL} (h : MayTr t) : (trunkR t).length = 6 := by
  have := blocksN_le h.many
  have := h.len
  simp only [trunkR, List.length_cons, List.length_append, List.length_replicate, List.length_nil]
  omega
theorem trunkR_may {t : TrL} (h : MayTr t) : (∀ q ∈ trunkR t, MayP q) ∧ ∀ q ∈ trunkR t, WfP q := by
  have hh : ∀ q ∈ trunkR t, MayP q ∧ WfP q := fun q hq => by
    unfold trunkR at hq
    rcases List.mem_cons.1 hq with rfl | hq
    · exact ⟨may_p0, wf_p0⟩
    · rcases List.mem_append.1 hq with hq | hq
      · rcases List.mem_append.1 hq with hq | hq
        · exact ⟨(h.one q hq).1, (h.one q hq).2.1⟩
        · rw [(List.mem_replicate.1 hq).2]; exact ⟨may_p0, wf_p0⟩
      · rw [List.mem_singleton.1 hq]; exact ⟨h.key.1, h.key.2.1⟩
  exact ⟨fun q hq => (hh q hq).1, fun q hq => (hh q hq).2⟩
theorem trunkB_length {t : TrL} (h : MayTr t) : (trunkB t).length = 256 := by
  have := rowTo_length (trunkR t) 6 (by rw [trunkR_length h]; exact Nat.le_refl _) (by omega)
  unfold trunkB
  rw [List.length_append, headTr_length, List.length_drop, this]
theorem bytesP_p0 : bytesP p0 = List.replicate 16 0 := by decide +kernel
/-- The row behind the first pointer is the root's block's. -/
theorem trunk_row (t : TrL) : List.replicate 16 0 ++ (trunkB t).drop 16 = rowTo (trunkR t) 6 := by
  have e : rowTo (trunkR t) 6 = List.replicate 16 0 ++ (((trunkR t).take 6).drop 1).flatMap bytesP ++ List.replicate (256 - 16 * 6) 0 := by
    unfold rowTo trunkR
    rw [List.take_succ_cons, List.flatMap_cons, bytesP_p0]
    rfl
  unfold trunkB
  have h2 : (headTr t ++ (rowTo (trunkR t) 6).drop 8).drop 16 = (rowTo (trunkR t) 6).drop 16 := by
    rw [List.drop_append, headTr_length, List.drop_eq_nil_of_le (by rw [headTr_length]; omega), List.nil_append, List.drop_drop]
  rw [h2, e]
  rw [List.append_assoc, List.drop_left' (by rw [List.length_replicate])]
theorem leN_win {a b c : List UInt8} {k n : Nat} (ha : a.length = n) (hb : b.length = k) : ((a ++ b ++ c).drop n).take k = b := by
  rw [List.append_assoc, ← ha, List.drop_left' rfl, ← hb, List.take_left' rfl]
theorem trunkT_B {t : TrL} (h : MayTr t) : trunkT (trunkB t) = t := by
  have h0 := trunk_row t
  have hL := trunkR_length h
  have e1 : leN (((trunkB t).drop 1).take 2) = t.nextId := by
    have : trunkB t = leB 1 82 ++ leB 2 t.nextId ++ (leB 4 t.nextGuid ++ leB 1 t.many ++ (rowTo (trunkR t) 6).drop 8) := by unfold trunkB headTr; simp only [List.append_assoc]
    rw [this, leN_win (by rw [leB_length]) (by rw [leB_length])]
    exact leN_leB 2 _ h.id
  have e2 : leN (((trunkB t).drop 3).take 4) = t.nextGuid := by
    have : trunkB t = (leB 1 82 ++ leB 2 t.nextId) ++ leB 4 t.nextGuid ++ (leB 1 t.many ++ (rowTo (trunkR t) 6).drop 8) := by unfold trunkB headTr; simp only [List.append_assoc]
    rw [this, leN_win (by rw [List.length_append, leB_length, leB_length]) (by rw [leB_length])]
    exact leN_leB 4 _ h.guid
  have e3 : leN (((trunkB t).drop 7).take 1) = t.many := by
    have : trunkB t = (leB 1 82 ++ leB 2 t.nextId ++ leB 4 t.nextGuid) ++ leB 1 t.many ++ (rowTo (trunkR t) 6).drop 8 := by unfold trunkB headTr; simp only [List.append_assoc]
    rw [this, leN_win (by simp [leB_length]) (by rw [leB_length])]
    exact leN_leB 1 _ (by have := h.many; omega)
  have e4 : rowsL (List.replicate 16 0 ++ (trunkB t).drop 16) = fillL (trunkR t) := by
    have hr := rowsO_row (L := trunkR t) (by rw [hL]; omega) (trunkR_may h).1 (trunkR_may h).2
    rw [hL] at hr
    rw [h0]
    unfold rowsO at hr
    split at hr
    · split at hr
      · exact congrArg Prod.fst hr
      · have := congrArg Prod.snd hr; simp at this
    · have := congrArg Prod.snd hr; simp at this
  have hb := blocksN_le h.many
  have hll := h.len
  unfold trunkT
  rw [e1, e2, e3, e4]
  have f1 : ((fillL (trunkR t)).drop 1).take (blocksN t.many) = t.ls := by
    refine List.ext_getElem (by simp [fillL]; omega) fun i h1 h2 => ?_
    rw [List.getElem_take, List.getElem_drop]
    unfold fillL
    rw [List.getElem_map, List.getElem_range]
    unfold trunkR
    rw [show 1 + i = i + 1 by omega, List.getD_cons_succ, List.append_assoc, List.getD_eq_getElem?_getD, List.getElem?_append_left h2, List.getElem?_eq_getElem h2]
    rfl
  have f2 : (fillL (trunkR t)).getD 5 p0 = t.keys := by
    unfold fillL
    rw [List.getD_eq_getElem?_getD, List.getElem?_map, List.getElem?_range (by omega)]
    show (trunkR t).getD 5 p0 = _
    unfold trunkR
    have h4 : (t.ls ++ List.replicate (4 - t.ls.length) p0).length = 4 := by rw [List.length_append, List.length_replicate]; omega
    rw [List.getD_cons_succ, List.getD_eq_getElem?_getD, List.getElem?_append_right (by omega), h4]
    rfl
  rw [f1, f2]
end Go.Proofs.YtafbidhbmfdlkaaGreatDoor
/-
  The lines' blocks of a pool, as plain lists: what is laid, and what is read of it.
-/
namespace Go.Proofs.YtafbidhbmfdlkaaGreatDoor
open Go.RowKit Go.Shelf
set_option maxRecDepth 100000

/-- A line without its dead list. -/
structure LnH where
  id : Int
  kind : Nat
  owner : Int
  prev : Int
  txg : Nat
  guid : Nat
  key : Int
  root : Pt
/-- A line's numbers, as bytes. -/
def lineN (x : LnH) : List UInt8 := leB 1 x.id.toNat ++ leB 1 x.kind ++ leB 1 x.owner.toNat ++ leB 1 x.prev.toNat ++ leB 3 x.txg ++ leB 4 x.guid ++ leB 1 x.key.toNat
theorem lineN_length (x : LnH) : (lineN x).length = 12 := by simp [lineN, leB_length]
/-- A line with the pointer to its dead list. -/
def lineB (x : LnH × Pt) : List UInt8 := lineN x.1 ++ bytesP x.1.root ++ bytesP x.2 ++ List.replicate 4 0
theorem lineB_length (x : LnH × Pt) : (lineB x).length = 48 := by simp [lineB, lineN_length, bytesP_length]
/-- A block of lines. -/
def linesB (l : List (LnH × Pt)) : List UInt8 := fillB (l.flatMap lineB)
theorem linesB_length {l : List (LnH × Pt)} (h : l.length ≤ 5) : (linesB l).length = 256 := by
  have : ∀ l : List (LnH × Pt), (l.flatMap lineB).length = 48 * l.length := fun l => by
    induction l with
    | nil => rfl
    | cons x l ih => rw [List.flatMap_cons, List.length_append, lineB_length, ih, List.length_cons]; omega
  exact fillB_length (by rw [this]; omega)
end Go.Proofs.YtafbidhbmfdlkaaGreatDoor
/-
  Words for objects by value (api.Object): kind, names, size, pointers; their blocks as bytes; what is written is read as it was, and the other way round.
-/
namespace Go.Proofs.YtafbidhbmfdlkaaGreatDoor
open Go.RowKit Go.Shelf
set_option maxRecDepth 100000

/-- An object: Kind, Links, Size, Data. -/
abbrev ObL := Nat × Int × Int × List Pt
/-- All but its pointers may be. -/
def HeadOb (O : ObL) : Prop := (1 ≤ O.1 ∧ O.1 ≤ 7) ∧ (0 ≤ O.2.1 ∧ O.2.1 ≤ 255) ∧ (0 ≤ O.2.2.1 ∧ O.2.2.1 ≤ 3840) ∧ O.2.2.2.length = 15
instance (O : ObL) : Decidable (HeadOb O) := by unfold HeadOb; exact inferInstance
/-- An object may be. -/
def MayOb (O : ObL) : Prop := HeadOb O ∧ ∀ p ∈ O.2.2.2, MayP p
instance (O : ObL) : Decidable (MayOb O) := by unfold MayOb; exact inferInstance
end Go.Proofs.YtafbidhbmfdlkaaGreatDoor
/-
  obj's heads, arrays of sixteen bytes: loads and stores of them whole, two compared as one; headOf and objectOf.
-/
namespace Go.Proofs.YtafbidhbmfdlkaaGreatDoor
open Go.RowKit Go.Shelf
set_option maxRecDepth 100000

/-- Sixteen noughts. -/
def zs : List UInt8 := List.replicate 16 0
section
variable {P : Program} {ops : Array Oper} {Q : Exit → Act → World → Prop} {a : Act} {w : World} {rest : List Oper}
end
section
variable {ops : Array Oper} {Q : Exit → Act → World → Prop} {a : Act} {w : World} {rest : List Oper} {o : Oper}
end
end Go.Proofs.YtafbidhbmfdlkaaGreatDoor
/-
  obj.Write, whatever object it is handed; nothing that was there is written.
-/
namespace Go.Proofs.YtafbidhbmfdlkaaGreatDoor
open Go.RowKit Go.Shelf
set_option maxRecDepth 100000

section
variable {ops : Array Oper} {Q : Exit → Act → World → Prop} {a : Act} {w : World} {rest : List Oper} {o : Oper}
/-- copy(row, src) into a row of one's own, where src is not longer. -/
theorem wpList_copy_into (hgd : o.guard = none) (d s : Operand)
    (ho : o.op = .call { callee := .builtin .copy, args := #[d, s], argTypes := #[26, 26] })
    (base n : Nat) (v : Value) (t : List UInt8) (hd : a.eval d = v) (hr : w.ownsRow base 5 1 v n (vals t))
    (B : Nat) (A : Option Addr) (m c : Nat) (news : List UInt8) (hs : a.eval s = .slice A m c) (hb : Bsl w B A m c news) (hm : 0 < m) (hmn : m ≤ n)
    (h : ∀ w', w'.ownsRow base 5 1 v n (vals (ovrL t 0 news)) → w.grownBy w' v.ownBlock → w'.heap.size = w.heap.size → wpList Tryz.prog ops Q rest (a.put o.dst (.int .i64 m)) w') : wpList Tryz.prog ops Q (o :: rest) a w := by
  obtain ⟨h1, h2, h3, h4, h5⟩ := hb
  obtain ⟨b, of, rfl, _, hc⟩ := h5 hm
  have hl : (vals news).length = m := by simp [vals, h1]
  obtain ⟨hl0, ⟨rfl, h0⟩ | ⟨g, cap, cur, rfl, q1, q2, q3, q4, q5, q6⟩⟩ := hr
  · omega
  have hcl : cur.toList.length = cap := by rw [Array.length_toList, q5]; omega
  refine wpList_copy_own hgd d s 26 26 ho 5 Tryz.underlying26 infoB1 g 0 n cap ⟨b, of, none⟩ m c hd hs cur 5 q2 (vals news) (by rw [hl]; exact (Nat.min_eq_left hmn).symm) (fun j v hv => ?_) (by rw [hl]; omega) (fun v hv => ?_) ?_
  · obtain ⟨hj, rfl⟩ := vals_get hv
    have : (⟨b, of, none⟩ : Addr).add j = ⟨b, of + j, none⟩ := by unfold Addr.add; split <;> simp_all
    rw [this]
    exact hc j hj
  · obtain ⟨y, _, rfl⟩ := List.mem_map.1 hv
    rfl
  · have hx : (goInt (vals news).length) = .int .i64 m := by rw [hl]; rfl
    rw [hx]
    have ht : t.length = n := by simpa [vals] using hl0
    refine h _ ⟨?_, .inr ⟨g, cap, _, rfl, q1, Blk.setRow (t := 5) q2, q3, q4, ?_, ?_⟩⟩ ⟨rfl, rfl, rfl, by simp [World.setRow], fun i hi hne => setRow_other w g i _ (fun e => hne (by rw [e]; rfl))⟩ (by simp [World.setRow])
    · simp only [vals, List.length_map]
      rw [ovrL_length (by omega), ht, Nat.mul_one]
    · simp only [List.size_toArray, List.take_zero, List.nil_append, List.length_append, List.length_drop, hl, hcl]
      omega
    · rw [Nat.mul_one]
      show (cur.toList.take 0 ++ (vals news ++ cur.toList.drop (0 + (vals news).length))).take n = _
      rw [List.take_zero, List.nil_append, hl, Nat.zero_add, List.take_append, hl, List.take_of_length_le (by omega), List.take_drop, Nat.add_sub_cancel' hmn]
      rw [Nat.mul_one] at q6
      rw [q6]
      simp [ovrL, vals, h1]
end
end Go.Proofs.YtafbidhbmfdlkaaGreatDoor
/-
  obj.Read, whatever bytes it is handed; nothing that was there is written.
-/
namespace Go.Proofs.YtafbidhbmfdlkaaGreatDoor
open Go.RowKit Go.Shelf
set_option maxRecDepth 100000

/-- Where a slice of pointers lies that the call made: in a block of its own. -/
def HiP (w : World) (base : Nat) (a : Option Addr) : Prop := ∀ p, a = some p → base ≤ p.block ∧ ∃ cs, Blk w p.block 31 cs
theorem HiP.none (w : World) (base : Nat) : HiP w base none := fun _ h => (by cases h)
theorem HiP.below {w w' : World} {base : Nat} {a : Option Addr} (h : HiP w base a) (hb : Below w.heap.size w w') : HiP w' base a := fun p e => by
  obtain ⟨h1, cs, h3⟩ := h p e
  exact ⟨h1, cs, h3.below hb h3.lt⟩
theorem HiP.less {w : World} {B B' : Nat} {a : Option Addr} (h : HiP w B a) (hB : B' ≤ B) : HiP w B' a := fun p e => by
  obtain ⟨h1, h2⟩ := h p e
  exact ⟨Nat.le_trans hB h1, h2⟩
/-- Two lists of bytes in a row that has just been made. -/
theorem concatB2 (w : World) (a : Option Addr) (la ca : Nat) (s : List UInt8) (b : Option Addr) (lb cb : Nat) (t : List UInt8) (hA : Bsl w w.heap.size a la ca s) (hB : Bsl w w.heap.size b lb cb t) (h0 : 0 < la + lb) (hm : la + lb ≤ 100000) :
    Calls Tryz.prog 126 #[.slice (some ⟨w.heap.size, 0, none⟩) 2 2] (w.alloc (.cells #[.slice a la ca, .slice b lb cb] 26)) (OwnPost (s ++ t) (w.alloc (.cells #[.slice a la ca, .slice b lb cb] 26))) := by
  have hb : Below w.heap.size w (w.alloc (.cells #[.slice a la ca, .slice b lb cb] 26)) := (Below.refl _ w).alloc (Nat.le_refl _) _
  have hk := Blk.new w 26 #[.slice a la ca, .slice b lb cb]
  have e : flat [⟨a, la, ca, s⟩, ⟨b, lb, cb, t⟩] = s ++ t := by simp [flat]
  have el : (flat [⟨a, la, ca, s⟩, ⟨b, lb, cb, t⟩]).length = la + lb := by rw [e, List.length_append, hA.1, hB.1]
  have := concat_own w.heap.size 2 [⟨a, la, ca, s⟩, ⟨b, lb, cb, t⟩] (w.alloc (.cells #[.slice a la ca, .slice b lb cb] 26)) hk.lt (by simp) (by simp)
    (fun i h => by
      rw [hk.cell i]
      match i, h with
      | 0, _ => rfl
      | 1, _ => rfl)
    (fun i h => by
      match i, h with
      | 0, _ => exact hA.step hb
      | 1, _ => exact hB.step hb)
    (by rw [el]; exact h0) (by rw [el]; exact hm)
  rw [e] at this
  exact this
theorem Pts.same {w w' : World} {g off len cap B B' : Nat} {L : List Pt} {t : TypeId} {cs : Array Value} (h : Pts w B (some ⟨g, off, none⟩) len cap L) (h1 : Blk w g t cs) (h2 : Blk w' g t cs) (hB : g < B') : Pts w' B' (some ⟨g, off, none⟩) len cap L := by
  obtain ⟨q1, q2, q3, q4, q5⟩ := h
  refine ⟨q1, q2, q3, q4, fun hl => ?_⟩
  obtain ⟨b, o, e, _, hc⟩ := q5 hl
  cases e
  exact ⟨_, _, rfl, hB, fun i hi => ⟨(hc i hi).1, fun j u hu => ((h2.cell _).trans (h1.cell _).symm).trans ((hc i hi).2 j u hu)⟩⟩
end Go.Proofs.YtafbidhbmfdlkaaGreatDoor
/-
  Words for lists of whole numbers (Go's []int with no number below nought): a slice that reads as them; appends to a slice of one's own; a cell of it.
-/
namespace Go.Proofs.YtafbidhbmfdlkaaGreatDoor
open Go.RowKit Go.Shelf
set_option maxRecDepth 100000

/-- The values of numbers. -/
def valsN (s : List Nat) : List Value := s.map fun x : Nat => .int .i64 (x : Int)
theorem valsN_append (s t : List Nat) : valsN s ++ valsN t = valsN (s ++ t) := by simp [valsN]
theorem valsN_get {s : List Nat} {j : Nat} {u : Value} (h : (valsN s)[j]? = some u) : ∃ hj : j < s.length, u = .int .i64 ((s[j] : Nat) : Int) := by
  rw [valsN, List.getElem?_map] at h
  rcases Nat.lt_or_ge j s.length with hj | hj
  · rw [List.getElem?_eq_getElem hj] at h
    exact ⟨hj, (Option.some.inj h).symm⟩
  · rw [List.getElem?_eq_none hj] at h; cases h

/-- A slice of numbers that lies below block B reads as s. -/
def Nsl (w : World) (B : Nat) (a : Option Addr) (len cap : Nat) (s : List Nat) : Prop :=
  s.length = len ∧ len ≤ cap ∧ cap ≤ maxLen ∧ (a = none → cap = 0) ∧
    (0 < len → ∃ b off, a = some ⟨b, off, none⟩ ∧ b < B ∧ ∀ i (h : i < s.length), w.cell? ⟨b, off + i, none⟩ = some (.int .i64 ((s[i] : Nat) : Int)))
theorem Nsl.below {w w' : World} {B : Nat} {a : Option Addr} {len cap : Nat} {s : List Nat} (h : Nsl w B a len cap s) (hb : Below B w w') : Nsl w' B a len cap s := by
  obtain ⟨h1, h2, h3, h4, h5⟩ := h
  refine ⟨h1, h2, h3, h4, fun hl => ?_⟩
  obtain ⟨b, off, e, hlt, hc⟩ := h5 hl
  exact ⟨b, off, e, hlt, fun i hi => (hb.cell (p := ⟨b, off + i, none⟩) hlt).trans (hc i hi)⟩
theorem Nsl.more {w : World} {B B' : Nat} {a : Option Addr} {len cap : Nat} {s : List Nat} (h : Nsl w B a len cap s) (hB : B ≤ B') : Nsl w B' a len cap s := by
  obtain ⟨h1, h2, h3, h4, h5⟩ := h
  refine ⟨h1, h2, h3, h4, fun hl => ?_⟩
  obtain ⟨b, off, e, hlt, hc⟩ := h5 hl
  exact ⟨b, off, e, by omega, hc⟩
theorem Nsl.step {w w' : World} {a : Option Addr} {len cap : Nat} {s : List Nat} (h : Nsl w w.heap.size a len cap s) (hb : Below w.heap.size w w') : Nsl w' w'.heap.size a len cap s := (h.below hb).more hb.size
theorem Nsl.cellD {w : World} {B g off len cap : Nat} {s : List Nat} (h : Nsl w B (some ⟨g, off, none⟩) len cap s) (i : Nat) (hi : i < len) : w.cell? ⟨g, off + i, none⟩ = some (.int .i64 ((s.getD i 0 : Nat) : Int)) := by
  obtain ⟨b, o, e, _, hc⟩ := h.2.2.2.2 (by omega)
  cases e
  have hl : i < s.length := by rw [h.1]; exact hi
  rw [hc i hl, List.getD_eq_getElem?_getD, List.getElem?_eq_getElem hl]
  rfl
theorem Nsl.cell0 {w : World} {B g len cap : Nat} {s : List Nat} (h : Nsl w B (some ⟨g, 0, none⟩) len cap s) (i : Nat) (hi : i < len) : w.cell? ⟨g, i, none⟩ = some (.int .i64 ((s.getD i 0 : Nat) : Int)) := by
  have := h.cellD i hi
  rwa [Nat.zero_add] at this

theorem infoInt : (Tryz.prog.info? 3).map (fun i => (i.zero, i.size, i.bytes)) = some (some (.int .i64 0), 1, 8) := by kernel_rfl

theorem wpList_append_nsl {w : World} {ops : Array Oper} {rest : List Oper} {o : Oper} {a : Act} {Q : Exit → Act → World → Prop} (hgd : o.guard = none) (s x : Operand)
    (ho : o.op = .call { callee := .builtin .append, args := #[s, x], argTypes := #[32, 32] })
    (base : Nat) (v : Value) (n : Nat) (xs : List Nat) (hs : a.eval s = v) (hown : w.ownsRow base 3 1 v n (valsN xs))
    (B : Nat) (A : Option Addr) (m c : Nat) (news : List Nat) (hx : a.eval x = .slice A m c) (hr : Nsl w B A m c news)
    (hnm : n + m ≤ 100000) (hbase : base ≤ w.heap.size)
    (h : ∀ v' w', w'.ownsRow base 3 1 v' (n + m) (valsN (xs ++ news)) → w.grownBy w' v.ownBlock → wpList Tryz.prog ops Q rest (a.put o.dst v') w') : wpList Tryz.prog ops Q (o :: rest) a w := by
  obtain ⟨i0, hi, hz0, hz1, hz2⟩ := info_parts infoInt
  obtain ⟨h1, h2, h3, h4, h5⟩ := hr
  have e0 : m = 0 → news = [] := fun e => List.eq_nil_of_length_eq_zero (by omega)
  cases A with
  | none =>
    have hc := h4 rfl
    have hm : m = 0 := by omega
    subst hm; subst hc
    obtain rfl := e0 rfl
    refine wpList_append_own_none hgd s x 32 ho base 3 i0 1 Tryz.underlying32 hi v n (valsN xs) hs hown hx ?_
    exact h v w (by simpa using hown) (World.grownBy.refl w _)
  | some ad =>
    refine wpList_append_own w hgd s x 32 ho base 3 i0 (.int .i64 0) 1 8 Tryz.underlying32 hi hz0 hz1 hz2 rfl (by decide) v n (valsN xs) hs hown ad m c (valsN news) hx (by simp [valsN, h1]) (fun j u hu => ?_) (fun u hu => ?_) (by unfold maxLen; omega) (by omega) hbase ?_
    · obtain ⟨hj, rfl⟩ := valsN_get hu
      obtain ⟨b, off, e, _, hc⟩ := h5 (by omega)
      cases e
      rw [← hc j hj]
      congr 1
      unfold Addr.add
      split <;> simp_all
    · obtain ⟨y, _, rfl⟩ := List.mem_map.1 hu
      rfl
    · intro v' w' h2 h3 _
      exact h v' w' (by rw [← valsN_append]; exact h2) h3

/-- Numbers in a row of one's own: where they lie. -/
theorem nsl_of_own {w : World} {base n : Nat} {v : Value} {s : List Nat} (h : w.ownsRow base 3 1 v n (valsN s)) (hn : 0 < n) :
    ∃ g cap, v = .slice (some ⟨g, 0, none⟩) n cap ∧ base ≤ g ∧ g < w.heap.size ∧ Nsl w w.heap.size (some ⟨g, 0, none⟩) n cap s := by
  have hl : s.length = n := by have := h.1; simpa [valsN] using this
  obtain ⟨h1, h2 | ⟨g, cap, cur, rfl, hb, hh, hnc, hcm, hsz, ht⟩⟩ := h
  · omega
  · have hg : g < w.heap.size := (Array.getElem?_eq_some_iff.1 hh).1
    refine ⟨g, cap, rfl, hb, hg, hl, hnc, hcm, fun e => (by cases e), fun _ => ⟨g, 0, rfl, hg, fun i hi => ?_⟩⟩
    rw [Nat.zero_add, cell_of_row w g i cur 3 (0, 0) hh]
    have : (valsN s)[i]? = some (.int .i64 ((s[i] : Nat) : Int)) := by simp [valsN, hi]
    rw [← ht, List.getElem?_take_of_lt (by omega)] at this
    rw [← this, Array.getElem?_toList]
/-- A new block of numbers, as a slice. -/
theorem nsl_blk {w : World} {g : Nat} {s : List Nat} (h : Blk w g 3 (valsN s).toArray) (hs : s.length ≤ 100000) : Nsl w w.heap.size (some ⟨g, 0, none⟩) s.length s.length s :=
  ⟨rfl, Nat.le_refl _, by unfold maxLen; omega, fun e => (by cases e), fun _ => ⟨g, 0, rfl, h.lt, fun i hi => by
    rw [Nat.zero_add, h.cell i]
    simp [valsN, hi]⟩⟩
/-- Behind a new number: the number's own slice. -/
theorem one_nsl (w : World) (x : Nat) : Nsl (w.alloc (.cells #[.int .i64 (x : Int)] 3)) (w.alloc (.cells #[.int .i64 (x : Int)] 3)).heap.size (some ⟨w.heap.size, 0, none⟩) 1 1 [x] :=
  nsl_blk (s := [x]) (Blk.new w _ _) (by simp)
end Go.Proofs.YtafbidhbmfdlkaaGreatDoor
/-
  txg's own small functions over plain data: within, isThere, isNought, filled, keysBlock, get, put.
-/
namespace Go.Proofs.YtafbidhbmfdlkaaGreatDoor
open Go.RowKit Go.Shelf
set_option maxRecDepth 100000

theorem txWithin_any (a b c : Int) (w : World) : Calls Tryz.prog 108 #[.int .i64 a, .int .i64 b, .int .i64 c] w fun e w' => e = .returned (.bool (decide (b ≤ a ∧ a ≤ c))) ∧ w = w' := by
  by_cases h1 : b ≤ a
  · by_cases h2 : a ≤ c
    · have d1 : decide (a ≥ b) = true := decide_eq_true (by omega)
      have d2 : decide (b ≤ a) = true := decide_eq_true (by omega)
      have d3 : decide (a ≤ c) = true := decide_eq_true (by omega)
      rw [show decide (b ≤ a ∧ a ≤ c) = true from decide_eq_true (by omega)]
      go_enter Tryz.func108, Tryz.ntmps108
      go_wp2_with fail
      go_ret
      exact ⟨rfl, rfl⟩
    · have d1 : decide (a ≥ b) = true := decide_eq_true (by omega)
      have d2 : decide (b ≤ a) = true := decide_eq_true (by omega)
      have d3 : decide (a ≤ c) = false := decide_eq_false (by omega)
      rw [show decide (b ≤ a ∧ a ≤ c) = false from decide_eq_false (by omega)]
      go_enter Tryz.func108, Tryz.ntmps108
      go_wp2_with fail
      go_ret
      exact ⟨rfl, rfl⟩
  · have d1 : decide (a ≥ b) = false := decide_eq_false (by omega)
    have d2 : decide (b ≤ a) = false := decide_eq_false (by omega)
    rw [show decide (b ≤ a ∧ a ≤ c) = false from decide_eq_false (by omega)]
    go_enter Tryz.func108, Tryz.ntmps108
    go_wp2_with fail
    go_ret
    exact ⟨rfl, rfl⟩
theorem txThere_any (p : Pt) (w : World) (R : Bool) (hR : R = true ↔ p ≠ p0) : Calls Tryz.prog 101 #[ptV p] w fun e w' => e = .returned (.bool R) ∧ Below w.heap.size w w' := by
  have hRe : R = !(eqP p p0) := by
    cases R with
    | true => rw [show eqP p p0 = false from decide_eq_false (hR.1 rfl)]; rfl
    | false => rw [show eqP p p0 = true from decide_eq_true (by rcases Decidable.em (p = p0) with h | h; exact h; exact absurd (hR.2 h) (by decide))]; rfl
  rw [hRe]
  clear hRe hR
  obtain ⟨a, b, c, d, e⟩ := p
  have heq := eqPt_zero a b c d e
  go_enter Tryz.func101, Tryz.ntmps101
  go_wp2_with fail
  go_ret
  exact ⟨rfl, (Below.refl _ w).alloc (Nat.le_refl _) _⟩
theorem txFilled_any (a : Option Addr) (n c : Nat) (s : List UInt8) (w : World) (hB : Bsl w w.heap.size a n c s) (hn : n ≤ 256) : Calls Tryz.prog 127 #[.slice a n c] w (OwnV 256 (fillB s) w) := by
  obtain ⟨m, hm⟩ : ∃ m, 256 - n = m := ⟨_, rfl⟩
  have em : (256 : Int) - (n : Int) = (m : Int) := by omega
  have hsl := hB.1
  have hmk := make_noughts m (by omega) w
  have hN := noughts_bsl m (by omega) w
  have bm := (Below.refl w.heap.size w).alloc (Nat.le_refl _) (.cells (Array.replicate m (.int .u8 0)) 5)
  have hA := hB.step bm
  obtain ⟨w1, hw1⟩ : ∃ X, w.alloc (.cells (Array.replicate m (.int .u8 0)) 5) = X := ⟨_, rfl⟩
  obtain ⟨g1, hg1⟩ : ∃ X, w.heap.size = X := ⟨_, rfl⟩
  rw [hw1, hg1] at hmk hN
  rw [hw1] at bm hA
  have hc := concatB2 w1 a n c s (some ⟨g1, 0, none⟩) m m (List.replicate m 0) hA hN (by omega) (by omega)
  have HC := Lib.hid hc
  have HE := Lib.hid (show s ++ List.replicate m 0 = fillB s by unfold fillB; rw [hsl, hm])
  have HL := Lib.hid (show (fillB s).length = 256 from fillB_length (by omega))
  have HB := Lib.hid bm
  have n0 : (0 : Int) ≤ (n : Int) := by omega
  have n1 : (n : Int) ≤ 256 := by omega
  clear hc hA hN bm hB hsl hm hn
  go_enter Tryz.func127, Tryz.ntmps127
  go_wp2_with fail
  refine HC.out.mono ?_
  rintro e w2 ⟨v, rfl, ho, b2⟩
  rw [HE.out, HL.out] at ho
  have HO := Lib.hid ho
  have bx := (Below.refl w1.heap.size w1).alloc (Nat.le_refl _) (.cells #[.slice a n c, .slice (some ⟨g1, 0, none⟩) m m] 26)
  have hbb := HB.out.trans ((bx.trans (b2.mono bx.size)).mono HB.out.size)
  have hsz : w.heap.size ≤ (w1.alloc (.cells #[.slice a n c, .slice (some ⟨g1, 0, none⟩) m m] 26)).heap.size := Nat.le_trans HB.out.size bx.size
  have HBB := Lib.hid hbb
  have HSZ := Lib.hid hsz
  clear ho b2 bx hbb hsz
  go_wp2_with fail
  go_ret
  exact ⟨_, rfl, own_mono HO.out HSZ.out, HBB.out⟩
theorem concatB3 (w : World) (a : Option Addr) (la ca : Nat) (s : List UInt8) (b : Option Addr) (lb cb : Nat) (t : List UInt8) (c : Option Addr) (lc cc : Nat) (u : List UInt8) (hA : Bsl w w.heap.size a la ca s) (hB : Bsl w w.heap.size b lb cb t) (hC : Bsl w w.heap.size c lc cc u) (h0 : 0 < la + lb + lc) (hm : la + lb + lc ≤ 100000) :
    Calls Tryz.prog 126 #[.slice (some ⟨w.heap.size, 0, none⟩) 3 3] (w.alloc (.cells #[.slice a la ca, .slice b lb cb, .slice c lc cc] 26)) (OwnPost (s ++ (t ++ u)) (w.alloc (.cells #[.slice a la ca, .slice b lb cb, .slice c lc cc] 26))) := by
  have hb : Below w.heap.size w (w.alloc (.cells #[.slice a la ca, .slice b lb cb, .slice c lc cc] 26)) := (Below.refl _ w).alloc (Nat.le_refl _) _
  have hk := Blk.new w 26 #[.slice a la ca, .slice b lb cb, .slice c lc cc]
  have e : flat [⟨a, la, ca, s⟩, ⟨b, lb, cb, t⟩, ⟨c, lc, cc, u⟩] = s ++ (t ++ u) := by simp [flat]
  have el : (flat [⟨a, la, ca, s⟩, ⟨b, lb, cb, t⟩, ⟨c, lc, cc, u⟩]).length = la + lb + lc := by rw [e, List.length_append, List.length_append, hA.1, hB.1, hC.1]; omega
  have := concat_own w.heap.size 3 [⟨a, la, ca, s⟩, ⟨b, lb, cb, t⟩, ⟨c, lc, cc, u⟩] (w.alloc (.cells #[.slice a la ca, .slice b lb cb, .slice c lc cc] 26)) hk.lt (by simp) (by simp)
    (fun i h => by
      rw [hk.cell i]
      match i, h with
      | 0, _ => rfl
      | 1, _ => rfl
      | 2, _ => rfl)
    (fun i h => by
      match i, h with
      | 0, _ => exact hA.step hb
      | 1, _ => exact hB.step hb
      | 2, _ => exact hC.step hb)
    (by rw [el]; exact h0) (by rw [el]; exact hm)
  rw [e] at this
  exact this
/-- The first keys, as they are laid. -/
def keysN (bl : List (List UInt8)) (k : Nat) : List UInt8 := (bl.take k).flatMap keyB
theorem keysN_step (bl : List (List UInt8)) (k : Nat) (hk : k < bl.length) : keysN bl (k + 1) = keysN bl k ++ keyB (bl.getD k []) := by
  unfold keysN
  rw [List.take_add_one, List.flatMap_append, List.getElem?_eq_getElem hk]
  simp [hk]
theorem keysN_length {bl : List (List UInt8)} (h : ∀ x ∈ bl, x.length ≤ 24) (k : Nat) (hk : k ≤ bl.length) : (keysN bl k).length = 24 * k := by
  induction k with
  | zero => rfl
  | succ k ih =>
    rw [keysN_step bl k hk, List.length_append, ih (by omega)]
    have := h _ (List.getElem_mem hk)
    have e : (keyB (bl.getD k [])).length = 24 := by
      unfold keyB
      rw [List.length_append, List.length_replicate, List.getD_eq_getElem?_getD, List.getElem?_eq_getElem hk]
      simp only [Option.getD_some]
      omega
    omega
set_option maxHeartbeats 4000000 in
theorem txKeys_any (a : Option Addr) (c : Nat) (bl : List (List UInt8)) (w : World) (h : Bls w w.heap.size a 8 c bl) (hk : ∀ x ∈ bl, x.length ≤ 24) : Calls Tryz.prog 70 #[.slice a 8 c] w (OwnV 256 (keysB bl) w) := by
  have hmk0 : ∀ W : World, (Instr.makeSlice 26 (.int .i64 0) (.int .i64 256)).run Tryz.prog W = _ := make_room 256 (by omega)
  have HL := Lib.hid h
  have HK := Lib.hid hk
  have HN := Lib.hid h.1
  clear h hk
  go_enter Tryz.func70, Tryz.ntmps70
  go_wp2_with fail
  go_loopw [3, 9] (fun v i wr => ∃ k : Nat, k ≤ 8 ∧ i = .int .i64 k ∧ wr.ownsRow w.heap.size 5 1 v (24 * k) (vals (keysN bl k)) ∧ Below w.heap.size w wr) (fun _ i _ => 8 - (intOf i).toNat)
  case atStart => exact ⟨0, Nat.zero_le _, rfl, own_room0 w 256 (by omega), (Below.refl _ w).alloc (Nat.le_refl _) _⟩
  case round =>
    obtain ⟨k, hk8, rfl, ho, hb⟩ := hrel
    have k0 : (0 : Int) ≤ k := by omega
    obtain ⟨ab, cb, rfl⟩ := own_slice ho
    have HO := Lib.hid (own_bsl ho)
    have HB := Lib.hid hb
    by_cases hlt : k < 8
    · have k1 : (k : Int) < 8 := by omega
      obtain ⟨bb, off, A, n, cc, x, ea, hbb, hx, hc, hx2⟩ := (HL.out.below hb).at_ hlt
      subst ea
      have hxl : x.length ≤ 24 := by
        rw [← hx, List.getD_eq_getElem?_getD, List.getElem?_eq_getElem (by rw [HN.out]; exact hlt)]
        exact HK.out _ (List.getElem_mem _)
      have hxn := hx2.1
      obtain ⟨m, hm⟩ : ∃ m, 24 - n = m := ⟨_, rfl⟩
      have em : (24 : Int) - (n : Int) = (m : Int) := by omega
      have hmk := make_noughts m (by omega) wr
      have hZ := noughts_bsl m (by omega) wr
      have bm := (Below.refl wr.heap.size wr).alloc (Nat.le_refl _) (.cells (Array.replicate m (.int .u8 0)) 5)
      have hA := (own_bsl ho).step bm
      have hX := (hx2.more hb.size).step bm
      obtain ⟨w1, hw1⟩ : ∃ X, wr.alloc (.cells (Array.replicate m (.int .u8 0)) 5) = X := ⟨_, rfl⟩
      obtain ⟨g1, hg1⟩ : ∃ X, wr.heap.size = X := ⟨_, rfl⟩
      rw [hw1, hg1] at hmk hZ
      rw [hw1] at bm hA hX
      have hcc := concatB3 w1 ab (24 * k) cb (keysN bl k) A n cc x (some ⟨g1, 0, none⟩) m m (List.replicate m 0) hA hX hZ (by omega) (by omega)
      have hst := keysN_step bl k (by rw [HN.out]; exact hlt)
      rw [hx] at hst
      have hkb : keyB x = x ++ List.replicate m 0 := by unfold keyB; rw [hxn, hm]
      rw [hkb] at hst
      rw [← hst] at hcc
      have HC := Lib.hid hcc
      have HLE := Lib.hid (keysN_length HK.out (k + 1) (by rw [HN.out]; exact hlt))
      have n0 : (0 : Int) ≤ (n : Int) := by omega
      have n1 : (n : Int) ≤ 24 := by omega
      have bx := (Below.refl w1.heap.size w1).alloc (Nat.le_refl _) (.cells #[.slice ab (24 * k) cb, .slice A n cc, .slice (some ⟨g1, 0, none⟩) m m] 26)
      have HBX := Lib.hid ((hb.trans (bm.mono hb.size)).trans (bx.mono (Nat.le_trans hb.size bm.size)))
      clear hcc hA hX hZ bm bx hst hkb hx hxl hxn hm hx2 hbb ho hb
      go_wp2_with fail
      refine HC.out.mono ?_
      rintro e w2 ⟨v2, rfl, ho2, b2⟩
      rw [HLE.out] at ho2
      have HO2 := Lib.hid (own_mono ho2 HBX.out.size)
      have HB2 := Lib.hid (HBX.out.trans (b2.mono HBX.out.size))
      clear ho2 b2
      go_wp2_with fail
      go_roundw
      case rel => exact ⟨k + 1, by omega, by go_num, HO2.out, HB2.out⟩
      case measure => simp [intOf]; omega
    · obtain rfl : k = 8 := by omega
      have HE := Lib.hid (show keysN bl 8 = bl.flatMap keyB by unfold keysN; rw [List.take_of_length_le (by rw [HN.out]; exact Nat.le_refl _)])
      have HF := Lib.hid (txFilled_any ab 192 cb (keysN bl 8) wr HO.out (by omega))
      clear ho hb hlt hk8
      go_wp2_with fail
      refine HF.out.mono ?_
      rintro e w2 ⟨v2, rfl, ho2, b2⟩
      have HO2 := Lib.hid (own_mono ho2 HB.out.size)
      have HB2 := Lib.hid (HB.out.trans (b2.mono HB.out.size))
      clear ho2 b2
      go_wp2_with fail
      go_ret
      refine ⟨_, rfl, ?_, HB2.out⟩
      have := HO2.out
      rw [HE.out] at this
      exact this
/-- Where the numbers of these sizes begin. -/
def offN (sz : List Nat) (j : Nat) : Nat := (sz.take j).sum
theorem offN_step (sz : List Nat) (j : Nat) (hj : j < sz.length) : offN sz (j + 1) = offN sz j + sz.getD j 0 := by
  unfold offN
  rw [List.take_add_one, List.sum_append, List.getElem?_eq_getElem hj, List.getD_eq_getElem?_getD, List.getElem?_eq_getElem hj]
  simp
theorem offN_le (sz : List Nat) (j : Nat) : offN sz j ≤ sz.sum := by
  unfold offN
  have : sz.sum = (sz.take j).sum + (sz.drop j).sum := by rw [← List.sum_append, List.take_append_drop]
  omega
/-- The first numbers of these sizes. -/
def numsN (s : List UInt8) (sz : List Nat) (j : Nat) : List Nat := (List.range j).map fun i => leN ((s.drop (offN sz i)).take (sz.getD i 0))
theorem numsN_step (s : List UInt8) (sz : List Nat) (j : Nat) : numsN s sz (j + 1) = numsN s sz j ++ [leN ((s.drop (offN sz j)).take (sz.getD j 0))] := by simp [numsN, List.range_succ]
set_option maxHeartbeats 4000000 in
theorem txGet_any (a : Option Addr) (n c : Nat) (s : List UInt8) (sa : Option Addr) (k sc : Nat) (sz : List Nat) (w : World) (hB : Bsl w w.heap.size a n c s) (hS : Nsl w w.heap.size sa k sc sz) (h4 : ∀ x ∈ sz, 1 ≤ x ∧ x ≤ 4) (hs : sz.sum ≤ n) (hk : k ≤ 1000) (h0 : 0 < n) :
    Calls Tryz.prog 210 #[.slice a n c, .slice sa k sc] w fun e w' => ∃ v, e = .returned v ∧ w'.ownsRow w.heap.size 3 1 v k (valsN (numsN s sz k)) ∧ Below w.heap.size w w' := by
  have HBS := Lib.hid hB
  have HSS := Lib.hid hS
  have HLN := Lib.hid hS.1
  have n0 : (0 : Int) ≤ (k : Int) := by omega
  have HK := Lib.hid hk
  have HH := Lib.hid h4
  have HSM := Lib.hid hs
  have HNN := Lib.hid hB.1
  have HNC := Lib.hid (And.intro hB.2.1 hB.2.2.1)
  have n9 : n ≤ 9223372036854775807 := by have h1 := hB.2.1; have h2 := hB.2.2.1; unfold maxLen at h2; omega
  have HN9 := Lib.hid n9
  obtain ⟨bb, off, ea, hbb, hcell⟩ : ∃ b off, a = some ⟨b, off, none⟩ ∧ b < w.heap.size ∧ ∀ i (h : i < s.length), w.cell? ⟨b, off + i, none⟩ = some (.int .u8 ((s[i]).toNat : Int)) := by
    obtain ⟨b, off, e, h1, h2⟩ := hB.2.2.2.2 h0
    exact ⟨b, off, e, h1, h2⟩
  subst ea
  have HCL := Lib.hid hcell
  have HBB := Lib.hid hbb
  clear hB hS hk h4 hs n9 hbb hcell
  go_enter Tryz.func210, Tryz.ntmps210
  go_wp2_with fail
  go_loopw [4, 5, 12] (fun v at_ i wr => ∃ j : Nat, j ≤ k ∧ i = .int .i64 j ∧ at_ = .int .i64 (offN sz j : Nat) ∧ wr.ownsRow w.heap.size 3 1 v j (valsN (numsN s sz j)) ∧ Below w.heap.size w wr) (fun _ _ i _ => k - (intOf i).toNat)
  case atStart => exact ⟨0, Nat.zero_le _, rfl, rfl, World.ownsRow_nil _ _ _ _, Below.refl _ _⟩
  case round =>
    obtain ⟨j, hj, rfl, rfl, ho, hb⟩ := hrel
    have j0 : (0 : Int) ≤ j := by omega
    have HO := Lib.hid ho
    have HB := Lib.hid hb
    by_cases hlt : j < k
    · have j1 : (j : Int) < k := by omega
      obtain ⟨_, _, ez, _, hz⟩ := (HSS.out.below hb).2.2.2.2 (by omega)
      cases ez
      have hzj := hz j (by rw [HLN.out]; exact hlt)
      obtain ⟨x, hx⟩ : ∃ x, sz.getD j 0 = x := ⟨_, rfl⟩
      have hlen : j < sz.length := by rw [HLN.out]; exact hlt
      have hxj : sz[j] = x := by rw [← hx, List.getD_eq_getElem?_getD, List.getElem?_eq_getElem hlen]; rfl
      rw [hxj, ← Nat.zero_add j] at hzj
      have hx4 := HH.out x (hxj ▸ List.getElem_mem hlen)
      have hst := offN_step sz j hlen
      rw [hx] at hst
      have hle := offN_le sz (j + 1)
      have hsm := HSM.out
      have hgt := get_ok bb off n c (offN sz j) x s HNN.out HNC.out.1 (by have := HNC.out.2; unfold maxLen at this; omega) hx4.1 hx4.2 (by omega) wr (Nat.lt_of_lt_of_le HBB.out hb.size) (fun i h => (hb.cell (p := ⟨bb, off + i, none⟩) HBB.out).trans (HCL.out i h))
      have HG := Lib.hid hgt
      have HST := Lib.hid hst
      have HXX := Lib.hid hx
      have HOF := Lib.hid (show offN sz (j + 1) ≤ n from Nat.le_trans hle hsm)
      have o0 : (0 : Int) ≤ (offN sz j : Nat) := by omega
      have o9 : ((offN sz j : Nat) : Int) + (x : Int) ≤ 9223372036854775807 := by have := HN9.out; have := HOF.out; rw [hst] at this; omega
      have k9 : (k : Int) ≤ 1000 := by have := HK.out; omega
      have x0 : (0 : Int) ≤ (x : Int) := by omega
      rw [Nat.zero_add] at hzj
      clear hgt hst hle hsm hx4 hxj hlen hx hz ho hb
      go_wp2_with fail
      refine HG.out.mono ?_
      rintro e w1 ⟨rfl, b1⟩
      have HB1 := Lib.hid (HB.out.trans (b1.mono HB.out.size))
      have HO1 := Lib.hid (own_below HO.out b1)
      clear b1
      obtain ⟨y, hy⟩ : ∃ y, leN ((s.drop (offN sz j)).take x) = y := ⟨_, rfl⟩
      have HY := Lib.hid hy
      rw [hy]
      clear hy
      have hbb := (Below.refl w1.heap.size w1).alloc (Nat.le_refl _) (.cells #[.int .i64 (y : Int)] 3)
      have HO2 := Lib.hid (own_below HO1.out hbb)
      have HB2 := Lib.hid (HB1.out.trans (hbb.mono HB1.out.size))
      have HON := Lib.hid (one_nsl w1 y)
      clear hbb
      go_wp2_with (
        at_builtin
        refine wpList_append_nsl rfl (.tmp 23) (.tmp 25) rfl w.heap.size _ j _ rfl HO2.out _ _ 1 1 [y] rfl HON.out (by have := HK.out; omega) HB2.out.size ?_
        intro v2 w2 hp2 hg2
        have HP2 := Lib.hid hp2
        have HB3 := Lib.hid (app_below HB2.out HO2.out hg2 HB2.out.size)
        clear hp2 hg2)
      go_roundw
      case rel =>
        refine ⟨j + 1, by omega, by go_num, ?_, ?_, HB3.out⟩
        · rw [HST.out]; go_num
        · rw [numsN_step, HXX.out, HY.out]
          exact HP2.out
      case measure => simp [intOf]; omega
    · obtain rfl : j = k := by omega
      clear ho hb hlt hj
      go_wp2_with fail
      go_ret
      exact ⟨_, rfl, HO.out, HB.out⟩
end Go.Proofs.YtafbidhbmfdlkaaGreatDoor
/-
  txg's own put: the bytes of numbers, each of its size; sizes of what is laid.
-/
namespace Go.Proofs.YtafbidhbmfdlkaaGreatDoor
open Go.RowKit Go.Shelf
set_option maxRecDepth 100000

/-- The bytes of the first numbers of these sizes. -/
def putN (sz ns : List Nat) (j : Nat) : List UInt8 := (List.range j).flatMap fun i => leB (sz.getD i 0) (ns.getD i 0)
theorem putN_step (sz ns : List Nat) (j : Nat) : putN sz ns (j + 1) = putN sz ns j ++ leB (sz.getD j 0) (ns.getD j 0) := by simp [putN, List.range_succ]
theorem putN_length (sz ns : List Nat) (j : Nat) (hj : j ≤ sz.length) : (putN sz ns j).length = offN sz j := by
  induction j with
  | zero => rfl
  | succ j ih =>
    rw [putN_step, List.length_append, leB_length, ih (by omega), offN_step sz j (by omega)]
theorem sum_le4 {sz : List Nat} (h4 : ∀ x ∈ sz, 1 ≤ x ∧ x ≤ 4) : sz.sum ≤ 4 * sz.length := by
  induction sz with
  | nil => simp
  | cons a l ih =>
    have h1 := h4 a (by simp)
    have h2 := ih fun x hx => h4 x (by simp [hx])
    simp only [List.sum_cons, List.length_cons]
    omega
set_option maxHeartbeats 4000000 in
theorem txPut_any (sa : Option Addr) (k sc : Nat) (sz : List Nat) (na : Option Addr) (nc : Nat) (ns : List Nat) (w : World) (hS : Nsl w w.heap.size sa k sc sz) (hN : Nsl w w.heap.size na k nc ns)
    (h4 : ∀ x ∈ sz, 1 ≤ x ∧ x ≤ 4) (hf : ∀ i, i < k → ns.getD i 0 < 256 ^ sz.getD i 0) (hk : k ≤ 1000) :
    Calls Tryz.prog 124 #[.slice sa k sc, .slice na k nc] w fun e w' => ∃ v, e = .returned (.tuple #[v, .int .i64 0]) ∧ w'.ownsRow w.heap.size 5 1 v (putN sz ns k).length (vals (putN sz ns k)) ∧ Below w.heap.size w w' := by
  have HSS := Lib.hid hS
  have HNS := Lib.hid hN
  have HLN := Lib.hid hS.1
  have HNN := Lib.hid hN.1
  have n0 : (0 : Int) ≤ (k : Int) := by omega
  have HK := Lib.hid hk
  have HH := Lib.hid h4
  have HF := Lib.hid hf
  clear hS hN h4 hf
  go_enter Tryz.func124, Tryz.ntmps124
  go_wp2_with fail
  go_loopw [4, 12] (fun v i wr => ∃ j : Nat, j ≤ k ∧ i = .int .i64 j ∧ wr.ownsRow w.heap.size 5 1 v (putN sz ns j).length (vals (putN sz ns j)) ∧ Below w.heap.size w wr) (fun _ i _ => k - (intOf i).toNat)
  case atStart => exact ⟨0, Nat.zero_le _, rfl, World.ownsRow_nil _ _ _ _, Below.refl _ _⟩
  case round =>
    obtain ⟨j, hj, rfl, ho, hb⟩ := hrel
    have j0 : (0 : Int) ≤ j := by omega
    have HO := Lib.hid ho
    have HB := Lib.hid hb
    by_cases hlt : j < k
    · have j1 : (j : Int) < k := by omega
      obtain ⟨sb, so, rfl, _, hz⟩ := (HSS.out.below hb).2.2.2.2 (by omega)
      obtain ⟨nb, no, rfl, _, hn⟩ := (HNS.out.below hb).2.2.2.2 (by omega)
      have hzj := hz j (by rw [HLN.out]; exact hlt)
      have hnj := hn j (by rw [HNN.out]; exact hlt)
      obtain ⟨x, hx⟩ : ∃ x, sz.getD j 0 = x := ⟨_, rfl⟩
      obtain ⟨n, hnn⟩ : ∃ n, ns.getD j 0 = n := ⟨_, rfl⟩
      have hlen : j < sz.length := by rw [HLN.out]; exact hlt
      have hlen2 : j < ns.length := by rw [HNN.out]; exact hlt
      have hxj : sz[j] = x := by rw [← hx, List.getD_eq_getElem?_getD, List.getElem?_eq_getElem hlen]; rfl
      have hnj' : ns[j] = n := by rw [← hnn, List.getD_eq_getElem?_getD, List.getElem?_eq_getElem hlen2]; rfl
      rw [hxj] at hzj
      rw [hnj'] at hnj
      have hx4 := HH.out x (hxj ▸ List.getElem_mem hlen)
      have hfit := HF.out j hlt
      rw [hx, hnn] at hfit
      have HP := Lib.hid (put_ok n x hx4.1 hx4.2 hfit wr)
      have HX4 := Lib.hid hx4
      have hst := putN_step sz ns j
      rw [hx, hnn] at hst
      have HST := Lib.hid hst
      have hol := putN_length sz ns j (by omega)
      have hos := offN_le sz j
      have hsm := sum_le4 HH.out
      have HLE := Lib.hid (show (putN sz ns j).length ≤ 4000 by have := HK.out; have := HLN.out; omega)
      clear hx4 hfit hst hol hos hsm hxj hnj' hlen hlen2 hx hnn hz hn ho hb
      go_wp2_with fail
      refine HP.out.mono ?_
      rintro e w1 ⟨rfl, hh, b1, s1⟩
      have HB1 := Lib.hid (bsl_of_holds (cap := x) (leB_length x n) (Nat.le_refl _) (by have := HX4.out; unfold maxLen; omega) s1 hh)
      have HO1 := Lib.hid (own_below HO.out b1)
      have HL1 := Lib.hid (HB.out.trans (b1.mono HB.out.size))
      clear hh s1 b1
      go_wp2_with (
        at_builtin
        refine wpList_append_bsl rfl (.tmp 29) (.tmp 30) rfl w.heap.size _ _ _ rfl HO1.out w1.heap.size (some ⟨wr.heap.size + 1, 0, none⟩) x x (leB x n) rfl HB1.out (by have := HLE.out; have := HX4.out; omega) HL1.out.size ?_
        intro v2 w2 hp2 hg2
        have HP2 := Lib.hid hp2
        have HB2 := Lib.hid (app_below HL1.out HO1.out hg2 HL1.out.size)
        clear hp2 hg2)
      go_roundw
      case rel =>
        refine ⟨j + 1, by omega, by go_num, ?_, HB2.out⟩
        have := HP2.out
        rw [HST.out, List.length_append, leB_length]
        exact this
      case measure => simp [intOf]; omega
    · obtain rfl : j = k := by omega
      clear ho hb hlt hj
      go_wp2_with fail
      go_ret2
      exact ⟨_, rfl, HO.out, HB.out⟩
/-- The sizes of the root's block's numbers. -/
def trSz : List Nat := [1, 2, 4, 1]
theorem txTrunkSizes_any (w : World) : Calls Tryz.prog 128 #[] w (fun e w' => ∃ g, e = .returned (.slice (some ⟨g, 0, none⟩) 4 4) ∧ w.heap.size ≤ g ∧ Nsl w' w'.heap.size (some ⟨g, 0, none⟩) 4 4 trSz ∧ Below w.heap.size w w') := by
  go_enter Tryz.func128, Tryz.ntmps128
  go_wp2_with fail
  go_ret
  exact ⟨_, rfl, Nat.le_refl _, nsl_blk (s := trSz) (Blk.new w _ _) (by decide), (Below.refl _ w).alloc (Nat.le_refl _) _⟩
end Go.Proofs.YtafbidhbmfdlkaaGreatDoor
/-
  txg's own isNought: slices.ContainsFunc over bytes, with a closure.
-/
namespace Go.Proofs.YtafbidhbmfdlkaaGreatDoor
open Go.RowKit Go.Shelf
set_option maxRecDepth 100000

theorem txNot_any (x : UInt8) (w : World) : Calls Tryz.prog 240 #[.int .u8 (x.toNat : Int)] w fun e w' => e = .returned (.bool (decide (x ≠ 0))) ∧ w = w' := by
  by_cases h : x = 0
  · subst h
    rw [show decide ((0 : UInt8) ≠ 0) = false from rfl]
    go_enter Tryz.func240, Tryz.ntmps240
    go_wp2_with fail
    go_ret
    exact ⟨rfl, rfl⟩
  · have hx : x.toNat ≠ 0 := fun e => h (UInt8.toNat_inj.1 e)
    have e1 : ((x.toNat : Int) != 0) = true := by simp; omega
    rw [show decide (x ≠ 0) = true from decide_eq_true h]
    clear h
    go_enter Tryz.func240, Tryz.ntmps240
    go_wp2_with fail
    go_ret
    exact ⟨rfl, rfl⟩
def IxZ (R : Bool) (z : Int) : Prop := (R = true → z = -1) ∧ (R = false → 0 ≤ z)
set_option maxHeartbeats 2000000 in
theorem txIndex_any (a : Option Addr) (n c : Nat) (s : List UInt8) (w : World) (hB : Bsl w w.heap.size a n c s) : Calls Tryz.prog 253 #[.slice a n c, .func (.func 240) #[] #[]] w fun e w' => ∃ z : Int, e = .returned (.int .i64 z) ∧ IxZ (isZ s) z ∧ w = w' := by
  have n0 : (0 : Int) ≤ n := by omega
  have n1 : (n : Int) ≤ 9223372036854775807 := by have h1 := hB.2.1; have h2 := hB.2.2.1; unfold maxLen at h2; omega
  have HN := Lib.hid hB.1
  have HP := Lib.hid hB.2.2.2.2
  clear hB
  go_enter Tryz.func253, Tryz.ntmps253
  go_wp2_with fail
  go_loopw [8] (fun i wr => ∃ j : Nat, j ≤ n ∧ i = .int .i64 j ∧ (∀ t, t < j → s.getD t 0 = 0) ∧ w = wr) (fun i _ => n - (intOf i).toNat)
  case atStart => exact ⟨0, Nat.zero_le _, rfl, fun j hj => absurd hj (Nat.not_lt_zero _), rfl⟩
  case round =>
    obtain ⟨j, hj, rfl, hz, rfl⟩ := hrel
    have j0 : (0 : Int) ≤ j := by omega
    have HZ := Lib.hid hz
    clear hz
    by_cases hlt : j < n
    · have j1 : (j : Int) < n := by omega
      obtain ⟨b, off, ea, _, hc⟩ := HP.out (by omega)
      subst ea
      have hl : j < s.length := by rw [HN.out]; exact hlt
      have hcj := hc j hl
      obtain ⟨x, hx⟩ : ∃ x, s[j] = x := ⟨_, rfl⟩
      have hg : s.getD j 0 = x := by rw [← hx, List.getD_eq_getElem?_getD, List.getElem?_eq_getElem hl]; rfl
      rw [hx] at hcj
      have HM := Lib.hid (show x ∈ s from hx ▸ List.getElem_mem hl)
      have HG := Lib.hid hg
      have HC := Lib.hid (txNot_any x w)
      clear hc hx hg hl
      by_cases h : x = 0
      · rw [show decide (x ≠ 0) = false from decide_eq_false (fun e => e h)] at HC
        have HH := Lib.hid h
        clear h
        go_wp2_with fail
        refine HC.out.mono ?_
        rintro ev w1 ⟨rfl, rfl⟩
        go_wp2_with fail
        go_roundw
        case rel =>
          refine ⟨j + 1, by omega, by go_num, fun t ht => ?_, trivial⟩
          by_cases e : t = j
          · rw [e, HG.out]; exact HH.out
          · exact HZ.out t (by omega)
        case measure => simp [intOf]; omega
      · rw [show decide (x ≠ 0) = true from decide_eq_true h] at HC
        have HR := Lib.hid (show isZ s = false by
          cases hr : isZ s with
          | false => rfl
          | true =>
            unfold isZ at hr
            rw [List.all_eq_true] at hr
            exact absurd (by simpa using hr x HM.out) h)
        clear h
        go_wp2_with fail
        refine HC.out.mono ?_
        rintro ev w1 ⟨rfl, rfl⟩
        go_wp2_with fail
        go_ret
        exact ⟨_, rfl, ⟨fun e => (by rw [HR.out] at e; cases e), fun _ => by omega⟩, rfl⟩
    · obtain rfl : j = n := by omega
      have HR := Lib.hid (show isZ s = true by
        unfold isZ
        rw [List.all_eq_true]
        intro x hx
        obtain ⟨i, hi, rfl⟩ := List.getElem_of_mem hx
        have := HZ.out i (by rw [← HN.out]; exact hi)
        rw [List.getD_eq_getElem?_getD, List.getElem?_eq_getElem hi] at this
        simpa using this)
      clear hlt hj
      go_wp2_with fail
      go_ret
      exact ⟨_, rfl, ⟨fun _ => rfl, fun e => (by rw [HR.out] at e; cases e)⟩, rfl⟩
theorem txContains_any (a : Option Addr) (n c : Nat) (s : List UInt8) (w : World) (hB : Bsl w w.heap.size a n c s) : Calls Tryz.prog 188 #[.slice a n c, .func (.func 240) #[] #[]] w fun e w' => e = .returned (.bool (!isZ s)) ∧ w = w' := by
  have HX := Lib.hid (txIndex_any a n c s w hB)
  clear hB
  obtain ⟨R, hR⟩ : ∃ R, isZ s = R := ⟨_, rfl⟩
  rw [hR] at HX ⊢
  clear hR
  go_enter Tryz.func188, Tryz.ntmps188
  go_wp2_with fail
  refine HX.out.mono ?_
  rintro e w1 ⟨z, rfl, hz, rfl⟩
  cases R with
  | true =>
    obtain rfl : z = -1 := hz.1 rfl
    go_wp2_with fail
    go_ret
    exact ⟨rfl, rfl⟩
  | false =>
    have hz0 : 0 ≤ z := hz.2 rfl
    clear hz
    go_wp2_with fail
    go_ret
    exact ⟨rfl, rfl⟩
theorem txNought_any (a : Option Addr) (n c : Nat) (s : List UInt8) (w : World) (hB : Bsl w w.heap.size a n c s) : Calls Tryz.prog 172 #[.slice a n c] w fun e w' => e = .returned (.bool (isZ s)) ∧ w = w' := by
  have HX := Lib.hid (txContains_any a n c s w hB)
  clear hB
  go_enter Tryz.func172, Tryz.ntmps172
  go_wp2_with fail
  refine HX.out.mono ?_
  rintro e w1 ⟨rfl, rfl⟩
  go_wp2_with fail
  go_ret
  exact ⟨by simp, rfl⟩
end Go.Proofs.YtafbidhbmfdlkaaGreatDoor
/-
  txg's own mayKeys: eight keys, each of which is none or may be.
-/
namespace Go.Proofs.YtafbidhbmfdlkaaGreatDoor
open Go.RowKit Go.Shelf
set_option maxRecDepth 100000

theorem txIsKey_any (a : Option Addr) (c : Nat) (s : List UInt8) (w : World) : Calls Tryz.prog 106 #[.slice a s.length c] w fun e w' => e = .returned (.bool (decide (s.length = 16))) ∧ w = w' := by
  obtain ⟨n, hn⟩ : ∃ n, s.length = n := ⟨_, rfl⟩
  rw [hn]
  by_cases h : n = 16
  · rw [decide_eq_true h]
    subst h
    go_enter Tryz.func106, Tryz.ntmps106
    go_wp2_with fail
    go_ret
    exact ⟨rfl, rfl⟩
  · rw [decide_eq_false h]
    have e1 : ((n : Int) == 16) = false := by simp; omega
    clear h
    go_enter Tryz.func106, Tryz.ntmps106
    go_wp2_with fail
    go_ret
    exact ⟨rfl, rfl⟩
/-- Which wrapped keys may be. -/
def wrapOk (s : List UInt8) : Bool := decide (s.length = 24) && !isZ s
theorem txIsWrapped_any (a : Option Addr) (c : Nat) (s : List UInt8) (w : World) (hB : Bsl w w.heap.size a s.length c s) : Calls Tryz.prog 105 #[.slice a s.length c] w fun e w' => e = .returned (.bool (wrapOk s)) ∧ w = w' := by
  have HX := Lib.hid (txNought_any a s.length c s w hB)
  clear hB
  unfold wrapOk
  obtain ⟨R, hR⟩ : ∃ R, isZ s = R := ⟨_, rfl⟩
  obtain ⟨n, hn⟩ : ∃ n, s.length = n := ⟨_, rfl⟩
  rw [hR, hn] at HX
  rw [hR, hn]
  by_cases h : n = 24
  · rw [decide_eq_true h]
    subst h
    clear hR hn
    go_enter Tryz.func105, Tryz.ntmps105
    go_wp2_with fail
    refine HX.out.mono ?_
    rintro e w1 ⟨rfl, rfl⟩
    go_wp2_with fail
    go_ret
    exact ⟨by simp, rfl⟩
  · rw [decide_eq_false h]
    have e1 : ((n : Int) == 24) = false := by simp; omega
    clear h hR hn
    go_enter Tryz.func105, Tryz.ntmps105
    go_wp2_with fail
    go_ret
    exact ⟨rfl, rfl⟩
/-- What the closure of mayKeys tells, where the function that it holds tells q. -/
def TellsK (F : Nat) (q : List UInt8 → Bool) : Prop := ∀ (a : Option Addr) (c gf : Nat) (s : List UInt8) (w : World), Bsl w w.heap.size a s.length c s → w.cell? ⟨gf, 0, none⟩ = some (.func (.func F) #[] #[]) →
    Calls Tryz.prog 171 #[.slice a s.length c, .pointer (some ⟨gf, 0, none⟩)] w fun e w' => e = .returned (.bool (decide (0 < s.length) && !q s)) ∧ w = w'
def is16 (s : List UInt8) : Bool := decide (s.length = 16)
theorem tellsK_isKey : TellsK 106 is16 := by
  intro a c gf s w hB hf
  have HC := Lib.hid (txIsKey_any a c s w)
  have n0 : (0 : Int) ≤ (s.length : Int) := by omega
  obtain ⟨R, hR⟩ : ∃ R, is16 s = R := ⟨_, rfl⟩
  obtain ⟨n, hn⟩ : ∃ n, s.length = n := ⟨_, rfl⟩
  have HC2 : Hid (Calls Tryz.prog 106 #[.slice a n c] w fun e w' => e = .returned (.bool R) ∧ w = w') := by rw [← hn, ← hR]; exact HC
  rw [hn] at n0
  rw [hR, hn]
  clear hB hR HC
  by_cases h : 0 < n
  · rw [decide_eq_true h]
    have h1 : (0 : Int) < (n : Int) := by omega
    clear h hn
    go_enter Tryz.func171, Tryz.ntmps171
    go_wp2_with fail
    refine HC2.out.mono ?_
    rintro e w1 ⟨rfl, rfl⟩
    go_wp2_with fail
    go_ret
    exact ⟨by simp, rfl⟩
  · rw [decide_eq_false h]
    obtain rfl : n = 0 := by omega
    clear h hn
    go_enter Tryz.func171, Tryz.ntmps171
    go_wp2_with fail
    go_ret
    exact ⟨rfl, rfl⟩
theorem tellsK_wrap : TellsK 105 wrapOk := by
  intro a c gf s w hB hf
  have HC := Lib.hid (txIsWrapped_any a c s w hB)
  have n0 : (0 : Int) ≤ (s.length : Int) := by omega
  obtain ⟨R, hR⟩ : ∃ R, wrapOk s = R := ⟨_, rfl⟩
  obtain ⟨n, hn⟩ : ∃ n, s.length = n := ⟨_, rfl⟩
  have HC2 : Hid (Calls Tryz.prog 105 #[.slice a n c] w fun e w' => e = .returned (.bool R) ∧ w = w') := by rw [← hn, ← hR]; exact HC
  rw [hn] at n0
  rw [hR, hn]
  clear hB hR HC
  by_cases h : 0 < n
  · rw [decide_eq_true h]
    have h1 : (0 : Int) < (n : Int) := by omega
    clear h hn
    go_enter Tryz.func171, Tryz.ntmps171
    go_wp2_with fail
    refine HC2.out.mono ?_
    rintro e w1 ⟨rfl, rfl⟩
    go_wp2_with fail
    go_ret
    exact ⟨by simp, rfl⟩
  · rw [decide_eq_false h]
    obtain rfl : n = 0 := by omega
    clear h hn
    go_enter Tryz.func171, Tryz.ntmps171
    go_wp2_with fail
    go_ret
    exact ⟨rfl, rfl⟩
/-- Is a key one that is there, but may not be? -/
def badK (q : List UInt8 → Bool) (s : List UInt8) : Bool := decide (0 < s.length) && !q s
set_option maxHeartbeats 2000000 in
theorem txIndexK_any (F : Nat) (q : List UInt8 → Bool) (hF : TellsK F q) (a : Option Addr) (n c gf : Nat) (bl : List (List UInt8)) (w : World) (h : Bls w w.heap.size a n c bl) (hf : w.cell? ⟨gf, 0, none⟩ = some (.func (.func F) #[] #[])) :
    Calls Tryz.prog 97 #[.slice a n c, .func (.func 171) #[] #[.pointer (some ⟨gf, 0, none⟩)]] w fun e w' => ∃ z : Int, e = .returned (.int .i64 z) ∧ IxZ (bl.all fun s => !badK q s) z ∧ w = w' := by
  have n0 : (0 : Int) ≤ n := by omega
  have n1 : (n : Int) ≤ 9223372036854775807 := h.len_le
  have HN := Lib.hid h.1
  have HP := Lib.hid h
  have HFF := Lib.hid hF
  have HCF := Lib.hid hf
  clear h hF hf
  go_enter Tryz.func97, Tryz.ntmps97
  go_wp2_with fail
  go_loopw [8] (fun i wr => ∃ j : Nat, j ≤ n ∧ i = .int .i64 j ∧ (∀ t, t < j → badK q (bl.getD t []) = false) ∧ w = wr) (fun i _ => n - (intOf i).toNat)
  case atStart => exact ⟨0, Nat.zero_le _, rfl, fun j hj => absurd hj (Nat.not_lt_zero _), rfl⟩
  case round =>
    obtain ⟨j, hj, rfl, hz, rfl⟩ := hrel
    have j0 : (0 : Int) ≤ j := by omega
    have HZ := Lib.hid hz
    clear hz
    by_cases hlt : j < n
    · have j1 : (j : Int) < n := by omega
      obtain ⟨b, off, A, m, cc, x, ea, _, hx, hcj, hx2⟩ := HP.out.at_ hlt
      subst ea
      have hxl : x.length = m := hx2.1
      subst hxl
      have HC := Lib.hid (HFF.out A cc gf x w hx2 HCF.out)
      have HXX := Lib.hid hx
      clear hx2 hx
      obtain ⟨R, hR⟩ : ∃ R, badK q x = R := ⟨_, rfl⟩
      have HR := Lib.hid hR
      have e1 : (decide (0 < x.length) && !q x) = R := hR
      rw [e1] at HC
      clear hR e1
      cases R with
      | false =>
        go_wp2_with fail
        refine HC.out.mono ?_
        rintro ev w1 ⟨rfl, rfl⟩
        go_wp2_with fail
        go_roundw
        case rel =>
          refine ⟨j + 1, by omega, by go_num, fun t ht => ?_, trivial⟩
          by_cases e : t = j
          · rw [e, HXX.out]; exact HR.out
          · exact HZ.out t (by omega)
        case measure => simp [intOf]; omega
      | true =>
        have HA := Lib.hid (show (bl.all fun s => !badK q s) = false by
          cases hr : (bl.all fun s => !badK q s) with
          | false => rfl
          | true =>
            rw [List.all_eq_true] at hr
            have hl : j < bl.length := by rw [HN.out]; exact hlt
            have := hr (bl.getD j []) (by rw [List.getD_eq_getElem?_getD, List.getElem?_eq_getElem hl]; exact List.getElem_mem _)
            rw [HXX.out, HR.out] at this
            cases this)
        go_wp2_with fail
        refine HC.out.mono ?_
        rintro ev w1 ⟨rfl, rfl⟩
        go_wp2_with fail
        go_ret
        exact ⟨_, rfl, ⟨fun e => (by rw [HA.out] at e; cases e), fun _ => by omega⟩, rfl⟩
    · obtain rfl : j = n := by omega
      have HR := Lib.hid (show (bl.all fun s => !badK q s) = true by
        rw [List.all_eq_true]
        intro x hx
        obtain ⟨i, hi, rfl⟩ := List.getElem_of_mem hx
        have := HZ.out i (by rw [← HN.out]; exact hi)
        rw [List.getD_eq_getElem?_getD, List.getElem?_eq_getElem hi] at this
        simpa using this)
      clear hlt hj
      go_wp2_with fail
      go_ret
      exact ⟨_, rfl, ⟨fun _ => rfl, fun e => (by rw [HR.out] at e; cases e)⟩, rfl⟩
theorem txContainsK_any (F : Nat) (q : List UInt8 → Bool) (hF : TellsK F q) (a : Option Addr) (n c gf : Nat) (bl : List (List UInt8)) (w : World) (h : Bls w w.heap.size a n c bl) (hf : w.cell? ⟨gf, 0, none⟩ = some (.func (.func F) #[] #[])) :
    Calls Tryz.prog 48 #[.slice a n c, .func (.func 171) #[] #[.pointer (some ⟨gf, 0, none⟩)]] w fun e w' => e = .returned (.bool (!(bl.all fun s => !badK q s))) ∧ w = w' := by
  have HX := Lib.hid (txIndexK_any F q hF a n c gf bl w h hf)
  clear hF hf h
  obtain ⟨R, hR⟩ : ∃ R, (bl.all fun s => !badK q s) = R := ⟨_, rfl⟩
  rw [hR] at HX ⊢
  clear hR
  go_enter Tryz.func48, Tryz.ntmps48
  go_wp2_with fail
  refine HX.out.mono ?_
  rintro e w1 ⟨z, rfl, hz, rfl⟩
  cases R with
  | true =>
    obtain rfl : z = -1 := hz.1 rfl
    go_wp2_with fail
    go_ret
    exact ⟨rfl, rfl⟩
  | false =>
    have hz0 : 0 ≤ z := hz.2 rfl
    clear hz
    go_wp2_with fail
    go_ret
    exact ⟨rfl, rfl⟩
theorem txMayKeys_any (F : Nat) (q : List UInt8 → Bool) (hF : TellsK F q) (a : Option Addr) (n c : Nat) (bl : List (List UInt8)) (w : World) (h : Bls w w.heap.size a n c bl) :
    Calls Tryz.prog 104 #[.slice a n c, .func (.func F) #[] #[]] w fun e w' => e = .returned (.bool (decide (bl.length = 8) && bl.all fun s => !badK q s)) ∧ Below w.heap.size w w' := by
  have b0 := (Below.refl w.heap.size w).alloc (Nat.le_refl _) (.cells #[.func (.func F) #[] #[]] 70)
  have hb := Blk.new w 70 #[.func (.func F) #[] #[]]
  have hnl : bl.length = n := h.1
  have n0 : (0 : Int) ≤ n := by omega
  obtain ⟨w0, hw0⟩ : ∃ X, w.alloc (.cells #[.func (.func F) #[] #[]] 70) = X := ⟨_, rfl⟩
  obtain ⟨gf, hgf⟩ : ∃ X, w.heap.size = X := ⟨_, rfl⟩
  have hs := h.step b0
  rw [hw0] at b0 hb hs
  rw [hgf] at hb
  have HB := Lib.hid b0
  have HC := Lib.hid (txContainsK_any F q hF a n c gf bl w0 hs (hb.cell 0))
  obtain ⟨R, hR⟩ : ∃ R, (bl.all fun s => !badK q s) = R := ⟨_, rfl⟩
  rw [hR] at HC
  rw [hR, hnl]
  clear h hF hb hs b0 hR hnl
  by_cases h8 : n = 8
  · subst h8
    go_enter Tryz.func104, Tryz.ntmps104
    go_wp2_with fail
    try rw [hw0]
    try rw [hgf]
    refine HC.out.mono ?_
    rintro e w1 ⟨rfl, rfl⟩
    go_wp2_with fail
    go_ret
    exact ⟨by simp, by first | exact HB.out | (rw [← hgf]; exact HB.out)⟩
  · rw [decide_eq_false h8]
    have e1 : ((n : Int) != 8) = true := by simp; omega
    clear h8
    go_enter Tryz.func104, Tryz.ntmps104
    go_wp2_with fail
    try rw [hw0]
    try rw [hgf]
    go_ret
    exact ⟨rfl, by first | exact HB.out | (rw [← hgf]; exact HB.out)⟩
end Go.Proofs.YtafbidhbmfdlkaaGreatDoor
/-
  Words for dead lists, as plain lists: what Add, Split and Join answer; what follows of them.
-/
namespace Go.Proofs.YtafbidhbmfdlkaaGreatDoor
open Go.RowKit Go.Shelf
set_option maxRecDepth 100000

/-- A pointer may be in a list. -/
def OneP (p : Pt) : Prop := MayP p ∧ p ≠ p0
instance (p : Pt) : Decidable (OneP p) := by unfold OneP; exact inferInstance
/-- The blocks rise. -/
abbrev Rise (l : List Pt) : Prop := l.Pairwise fun p q => p.1 < q.1
/-- A dead list may be. -/
def MayDL (l : List Pt) : Prop := l.length ≤ 240 ∧ (∀ p ∈ l, OneP p) ∧ Rise l
instance (l : List Pt) : Decidable (MayDL l) := by unfold MayDL; exact inferInstance
/-- As a loop asks it. -/
def StepDL (l : List Pt) (i : Nat) : Prop := OneP (l.getD i p0) ∧ (0 < i → (l.getD (i - 1) p0).1 < (l.getD i p0).1)
instance (l : List Pt) (i : Nat) : Decidable (StepDL l i) := by unfold StepDL; exact inferInstance
theorem ddGetD {l : List Pt} {i : Nat} (h : i < l.length) : l.getD i p0 = l[i] := by rw [List.getD_eq_getElem?_getD, List.getElem?_eq_getElem h]; rfl
/-- A list has a pointer of a block. -/
def HasAt (l : List Pt) (n : Int) : Prop := ∃ p ∈ l, p.1 = n
instance (l : List Pt) (n : Int) : Decidable (HasAt l n) := by unfold HasAt; exact inferInstance
def Meet (a b : List Pt) : Prop := ∃ q ∈ b, HasAt a q.1
instance (a b : List Pt) : Decidable (Meet a b) := by unfold Meet; exact inferInstance
end Go.Proofs.YtafbidhbmfdlkaaGreatDoor
/-
  Dead lists as blocks, as plain lists: what Lay and Load answer; what was laid is loaded as it was.
-/
namespace Go.Proofs.YtafbidhbmfdlkaaGreatDoor
open Go.RowKit Go.Shelf
set_option maxRecDepth 100000

/-- Row i of a list. -/
def rowD (l : List Pt) (i : Nat) : List Pt := (l.drop (16 * i)).take 16
theorem rowD_length (l : List Pt) (i : Nat) : (rowD l i).length = min 16 (l.length - 16 * i) := by unfold rowD; rw [List.length_take, List.length_drop]
/-- The blocks of pointers. -/
def blksD (ps : List Pt) : List Nat := ps.map fun q => q.1.toNat
/-- Rows that were laid. -/
structure LaidR (S : StL) (b : Nat) (l : List Pt) (i : Nat) (T : StL) (ps : List Pt) : Prop where
  may : MayS T
  len : ps.length = i
  one : ∀ q ∈ ps, OneP q ∧ WfP q ∧ q.2.1 = b
  see : ∀ j, j < i → seenO T (ps.getD j p0) = (rowTo (rowD l j) (rowD l j).length, 0)
  mrk : ∀ q ∈ ps, ∃ k : Nat, q.1 = (k : Int) ∧ (12 ≤ k ∧ k < 256) ∧ mkT S.2.1 k = 0 ∧ mkT T.2.1 k = 1
  oth : ∀ k : Nat, (∀ q ∈ ps, q.1 ≠ (k : Int)) → mkT T.2.1 k = mkT S.2.1 k
/-- One block more. -/
theorem LaidR.put {S T U : StL} {b i : Nat} {l ps : List Pt} {p : Pt} {s : List UInt8} (h : LaidR S b l i T ps) (hb : 1 ≤ b ∧ b ≤ 16777215) (hs : s.length = 256) (hp : putS T b 0 0 s = some (U, p)) :
    MayS U ∧ (OneP p ∧ WfP p ∧ p.2.1 = b) ∧ seenO U p = (s, 0) ∧ (∀ q, MayP q → (∃ r ∈ ps, r.1 = q.1) → seenO U q = seenO T q) ∧ (∃ k : Nat, p.1 = (k : Int) ∧ (12 ≤ k ∧ k < 256) ∧ mkT S.2.1 k = 0 ∧ mkT U.2.1 k = 1) ∧
    (∀ q ∈ ps, ∃ k : Nat, q.1 = (k : Int) ∧ (12 ≤ k ∧ k < 256) ∧ mkT S.2.1 k = 0 ∧ mkT U.2.1 k = 1) ∧ (∀ k : Nat, (∀ q ∈ ps ++ [p], q.1 ≠ (k : Int)) → mkT U.2.1 k = mkT S.2.1 k) ∧ (∀ q ∈ ps, q.1 ≠ p.1) := by
  have hl : T.2.1.length = 256 := h.may.2.1.1
  rcases putS_cases h.may.2.1 b 0 0 s with ⟨h1, _⟩ | ⟨k, r, hk, hz, h0, hw, _, h1⟩
  · rw [h1] at hp; cases hp
  · rw [h1] at hp
    cases hp
    have hfar : ∀ q ∈ ps, q.1 ≠ (k : Int) := fun q hq e => by
      obtain ⟨k', e', _, _, h4⟩ := h.mrk q hq
      have : k' = k := by omega
      subst this
      omega
    have hmk := fun i => put_mark (S := T) (k := k) (i := i) (b := s) hl hk.2
    have hS : mkT S.2.1 k = 0 := by rw [← h.oth k hfar]; exact hz
    refine ⟨putAt_may h.may hk hs hw, ⟨⟨ptr_may hk hb _ _ _, ptr_not hb.1 _ _ _⟩, ⟨⟨by simp only; omega, by simp only; omega⟩, by simp only; omega, by simp only; omega, by simp only; omega, sumOf_lt s⟩, rfl⟩, seenO_put T hb.1 0 0 s, fun q hq ⟨r, hr, e⟩ => seenO_far T hq (by rw [← e]; exact hfar r hr), ⟨k, rfl, hk, hS, by rw [hmk, if_pos rfl]⟩, fun q hq => ?_, fun k' hk' => ?_, fun q hq => hfar q hq⟩
    · obtain ⟨k', e', h2, h3, h4⟩ := h.mrk q hq
      have := hfar q hq
      exact ⟨k', e', h2, h3, by rw [hmk, if_neg (by omega)]; exact h4⟩
    · have hne : k' ≠ k := fun e => hk' _ (List.mem_append_right _ (List.mem_singleton.2 rfl)) (by simp only; omega)
      rw [hmk, if_neg hne]
      exact h.oth k' fun q hq => hk' q (List.mem_append_left _ hq)
theorem LaidR.step {S T U : StL} {b i : Nat} {l ps : List Pt} {p : Pt} (h : LaidR S b l i T ps) (hb : 1 ≤ b ∧ b ≤ 16777215) (hp : putS T b 0 0 (rowTo (rowD l i) (rowD l i).length) = some (U, p)) : LaidR S b l (i + 1) U (ps ++ [p]) := by
  have hr16 : (rowD l i).length ≤ 16 := by rw [rowD_length]; omega
  obtain ⟨h1, h2, h3, h4, h5, h6, h7, h8⟩ := h.put hb (rowTo_length _ _ (Nat.le_refl _) hr16) hp
  have hlen := h.len
  refine ⟨h1, by rw [List.length_append, hlen]; rfl, fun q hq => ?_, fun j hj => ?_, fun q hq => ?_, h7⟩
  · rcases List.mem_append.1 hq with hq | hq
    · exact h.one q hq
    · rw [List.mem_singleton.1 hq]; exact h2
  · by_cases e : j = i
    · subst e
      have : (ps ++ [p]).getD j p0 = p := by rw [List.getD_eq_getElem?_getD, List.getElem?_append_right (by omega), hlen, Nat.sub_self]; rfl
      rw [this]
      exact h3
    · have hji : j < i := by omega
      have e1 : (ps ++ [p]).getD j p0 = ps.getD j p0 := by rw [List.getD_eq_getElem?_getD, List.getD_eq_getElem?_getD, List.getElem?_append_left (by omega)]
      have hm : ps.getD j p0 ∈ ps := by rw [ddGetD (by omega)]; exact List.getElem_mem _
      rw [e1, h4 _ (h.one _ hm).1.1 ⟨_, hm, rfl⟩]
      exact h.see j hji
  · rcases List.mem_append.1 hq with hq | hq
    · exact h6 q hq
    · rw [List.mem_singleton.1 hq]; exact h5
end Go.Proofs.YtafbidhbmfdlkaaGreatDoor
/-
  Pointers and an error's number that a call answers; append to a row of pointers, and where the new row lies.
-/
namespace Go.Proofs.YtafbidhbmfdlkaaGreatDoor
open Go.RowKit Go.Shelf
set_option maxRecDepth 100000

/-- Not below block B. -/
def HiA (B : Nat) (a : Option Addr) : Prop := ∀ p, a = some p → B ≤ p.block
theorem HiA.less {B B' : Nat} {a : Option Addr} (h : HiA B a) (hB : B' ≤ B) : HiA B' a := fun p e => Nat.le_trans hB (h p e)
end Go.Proofs.YtafbidhbmfdlkaaGreatDoor
/-
  Words for what is below a root: what Ptrs, Object and Walk answer of a store, a root and a sync, as plain lists; what follows of them.
-/
namespace Go.Proofs.YtafbidhbmfdlkaaGreatDoor
open Go.RowKit Go.Shelf
set_option maxRecDepth 100000

/-- Born behind a sync. -/
def Yng (a : Nat) (p : Pt) : Prop := p ≠ p0 ∧ a < p.2.1
instance (a : Nat) (p : Pt) : Decidable (Yng a p) := by unfold Yng; exact inferInstance
end Go.Proofs.YtafbidhbmfdlkaaGreatDoor
/-
  Words for labels by value (api.Label): two numbers and a pointer; two of them compared; a slice of them, and a row of them, in memory.
-/
namespace Go.Proofs.YtafbidhbmfdlkaaGreatDoor
open Go.RowKit Go.Shelf
set_option maxRecDepth 100000

/-- A label: Gen, Epoch, Root. -/
abbrev Lb := Nat × Nat × Pt
/-- The label as a value. -/
@[reducible] def lbV (l : Lb) : Value := .agg #[.int .u32 (l.1 : Int), .int .u32 (l.2.1 : Int), .int .i64 l.2.2.1, .int .u32 (l.2.2.2.1 : Int), .int .u32 (l.2.2.2.2.1 : Int), .int .u32 (l.2.2.2.2.2.1 : Int), .int .u32 (l.2.2.2.2.2.2 : Int)]
/-- Its cells. -/
def lbC (l : Lb) : List Value := [.int .u32 (l.1 : Int), .int .u32 (l.2.1 : Int), .int .i64 l.2.2.1, .int .u32 (l.2.2.2.1 : Int), .int .u32 (l.2.2.2.2.1 : Int), .int .u32 (l.2.2.2.2.2.1 : Int), .int .u32 (l.2.2.2.2.2.2 : Int)]
/-- Each of its numbers is one of its kind. -/
def WfL (l : Lb) : Prop := l.1 < 4294967296 ∧ l.2.1 < 4294967296 ∧ WfP l.2.2
abbrev l0 : Lb := (0, 0, p0)
/-- A label may be. -/
def MayL (l : Lb) : Prop := (1 ≤ l.1 ∧ l.1 ≤ 16777215) ∧ (1 ≤ l.2.1 ∧ l.2.1 ≤ 65535) ∧ l.2.2 ≠ p0 ∧ MayP l.2.2
instance (l : Lb) : Decidable (MayL l) := by unfold MayL; exact inferInstance

/-- A slice of labels that lies below block B reads as L. -/
def Lbs (w : World) (B : Nat) (a : Option Addr) (len cap : Nat) (L : List Lb) : Prop :=
  L.length = len ∧ len ≤ cap ∧ cap ≤ maxLen ∧ (a = none → cap = 0) ∧
    (0 < len → ∃ b off, a = some ⟨b, off, none⟩ ∧ b < B ∧ ∀ i (h : i < L.length), WfL L[i] ∧ ∀ j u, (lbC L[i])[j]? = some u → w.cell? ⟨b, off + i * 7 + j, none⟩ = some u)
theorem lbs_nil (w : World) (B : Nat) : Lbs w B none 0 0 [] := ⟨rfl, Nat.le_refl _, Nat.zero_le _, fun _ => rfl, fun h => absurd h (Nat.lt_irrefl _)⟩
section
variable {w w' : World} {B len cap : Nat} {a : Option Addr} {L : List Lb}
theorem Lbs.below (h : Lbs w B a len cap L) (hb : Below B w w') : Lbs w' B a len cap L := by
  obtain ⟨h1, h2, h3, h4, h5⟩ := h
  refine ⟨h1, h2, h3, h4, fun hl => ?_⟩
  obtain ⟨b, off, e, hlt, hc⟩ := h5 hl
  exact ⟨b, off, e, hlt, fun i hi => ⟨(hc i hi).1, fun j u hu => (hb.cell (p := ⟨b, off + i * 7 + j, none⟩) hlt).trans ((hc i hi).2 j u hu)⟩⟩
theorem Lbs.more {B' : Nat} (h : Lbs w B a len cap L) (hB : B ≤ B') : Lbs w B' a len cap L := by
  obtain ⟨h1, h2, h3, h4, h5⟩ := h
  refine ⟨h1, h2, h3, h4, fun hl => ?_⟩
  obtain ⟨b, off, e, hlt, hc⟩ := h5 hl
  exact ⟨b, off, e, by omega, hc⟩
theorem Lbs.step (h : Lbs w w.heap.size a len cap L) (hb : Below w.heap.size w w') : Lbs w' w'.heap.size a len cap L := (h.below hb).more hb.size
theorem Lbs.wf (h : Lbs w B a len cap L) {l : Lb} (hp : l ∈ L) : WfL l := by
  obtain ⟨i, hi, rfl⟩ := List.getElem_of_mem hp
  obtain ⟨b, off, _, _, hc⟩ := h.2.2.2.2 (by rw [← h.1]; omega)
  exact (hc i hi).1
theorem Lbs.len_le (h : Lbs w B a len cap L) : (len : Int) ≤ 9223372036854775807 := by have h1 := h.2.1; have h2 := h.2.2.1; unfold maxLen at h2; omega
/-- The seven cells of a label. -/
theorem Lbs.cells (h : Lbs w B a len cap L) (i : Nat) (hi : i < len) : ∃ b off, a = some ⟨b, off, none⟩ ∧ b < B ∧ WfL (L.getD i l0) ∧ w.cell? ⟨b, off + i * 7, none⟩ = some (.int .u32 ((L.getD i l0).1 : Int)) ∧ w.cell? ⟨b, off + i * 7 + 1, none⟩ = some (.int .u32 ((L.getD i l0).2.1 : Int)) ∧ w.cell? ⟨b, off + i * 7 + 2, none⟩ = some (.int .i64 (L.getD i l0).2.2.1) ∧
    w.cell? ⟨b, off + i * 7 + 3, none⟩ = some (.int .u32 ((L.getD i l0).2.2.2.1 : Int)) ∧ w.cell? ⟨b, off + i * 7 + 4, none⟩ = some (.int .u32 ((L.getD i l0).2.2.2.2.1 : Int)) ∧ w.cell? ⟨b, off + i * 7 + 5, none⟩ = some (.int .u32 ((L.getD i l0).2.2.2.2.2.1 : Int)) ∧ w.cell? ⟨b, off + i * 7 + 6, none⟩ = some (.int .u32 ((L.getD i l0).2.2.2.2.2.2 : Int)) := by
  obtain ⟨b, off, e, hb, hc⟩ := h.2.2.2.2 (by omega)
  have hl : i < L.length := by rw [h.1]; exact hi
  obtain ⟨hw, hx⟩ := hc i hl
  have hg : L.getD i l0 = L[i] := by rw [List.getD_eq_getElem?_getD, List.getElem?_eq_getElem hl]; rfl
  rw [hg]
  exact ⟨b, off, e, hb, hw, hx 0 _ rfl, hx 1 _ rfl, hx 2 _ rfl, hx 3 _ rfl, hx 4 _ rfl, hx 5 _ rfl, hx 6 _ rfl⟩
end
/-- The cells of labels. -/
def lbCs (L : List Lb) : List Value := L.flatMap lbC
theorem lbCs_length : ∀ L : List Lb, (lbCs L).length = L.length * 7
  | [] => rfl
  | p :: L => by
    show (lbC p ++ lbCs L).length = _
    rw [List.length_append, lbCs_length L, List.length_cons]
    show 7 + _ = _
    omega
theorem lbCs_append (L M : List Lb) : lbCs (L ++ M) = lbCs L ++ lbCs M := by simp [lbCs]
theorem lbCs_get : ∀ (L : List Lb) (i : Nat) (h : i < L.length) (j : Nat) (u : Value), (lbC L[i])[j]? = some u → (lbCs L)[i * 7 + j]? = some u
  | p :: L, 0, _, j, u, hu => by
    show (lbC p ++ lbCs L)[_]? = _
    have hj : j < (lbC p).length := by
      rcases Nat.lt_or_ge j (lbC p).length with hj | hj
      · exact hj
      · rw [show ((p :: L)[0]) = p from rfl, List.getElem?_eq_none hj] at hu; cases hu
    rw [List.getElem?_append_left (by omega), Nat.zero_mul, Nat.zero_add]
    exact hu
  | p :: L, i + 1, h, j, u, hu => by
    show (lbC p ++ lbCs L)[_]? = _
    have hl : (lbC p).length = 7 := rfl
    rw [List.getElem?_append_right (by omega), hl, show (i + 1) * 7 + j - 7 = i * 7 + j by omega]
    exact lbCs_get L i (by simpa using h) j u hu
/-- A row of the call's own, of labels. -/
def LRow (w : World) (base : Nat) (v : Value) (L : List Lb) : Prop := w.ownsRow base 67 7 v L.length (lbCs L) ∧ ∀ p ∈ L, WfL p
theorem LRow.lbs {w : World} {base : Nat} {v : Value} {L : List Lb} (h : LRow w base v L) : ∃ a c, v = .slice a L.length c ∧ Lbs w w.heap.size a L.length c L := by
  obtain ⟨⟨hl, ⟨rfl, h0⟩ | ⟨g, cap, cur, rfl, _, h3, h4, h5, h6, h7⟩⟩, hw⟩ := h
  · have : L = [] := List.eq_nil_of_length_eq_zero h0
    subst this
    exact ⟨none, 0, rfl, lbs_nil _ _⟩
  · refine ⟨_, _, rfl, rfl, h4, h5, fun e => (by cases e), fun _ => ⟨g, 0, rfl, (Array.getElem?_eq_some_iff.1 h3).1, fun i hi => ⟨hw _ (List.getElem_mem hi), fun j u hu => ?_⟩⟩⟩
    have hg := lbCs_get L i hi j u hu
    have hj : i * 7 + j < L.length * 7 := by
      rcases Nat.lt_or_ge (i * 7 + j) (lbCs L).length with hj | hj
      · rw [lbCs_length] at hj; exact hj
      · rw [List.getElem?_eq_none hj] at hg; cases hg
    rw [Nat.zero_add, cell_of_row w g _ cur 67 (0, 0) h3, ← Array.getElem?_toList, ← hg, ← h7, List.getElem?_take_of_lt hj]
theorem LRow.below {w w' : World} {base : Nat} {v : Value} {L : List Lb} (h : LRow w base v L) (hb : Below w.heap.size w w') : LRow w' base v L := ⟨own_below h.1 hb, h.2⟩
theorem lrow_nil (w : World) (base : Nat) : LRow w base (.slice none 0 0) [] := ⟨World.ownsRow_nil _ _ _ _, fun _ h => (by cases h)⟩
theorem LRow.mono {w : World} {B B' : Nat} {v : Value} {L : List Lb} (h : LRow w B v L) (hB : B' ≤ B) : LRow w B' v L := ⟨own_mono h.1 hB, h.2⟩
/-- The cells of a block that is a label. -/
theorem Blk.seven {w : World} {g : Nat} {t : TypeId} {x y : Nat} {a : Int} {b c d e : Nat} (h : Blk w g t #[.int .u32 (x : Int), .int .u32 (y : Int), .int .i64 a, .int .u32 (b : Int), .int .u32 (c : Int), .int .u32 (d : Int), .int .u32 (e : Int)]) : w.cell? ⟨g, 0, none⟩ = some (.int .u32 (x : Int)) ∧ w.cell? ⟨g, 1, none⟩ = some (.int .u32 (y : Int)) ∧ w.cell? ⟨g, 2, none⟩ = some (.int .i64 a) ∧ w.cell? ⟨g, 3, none⟩ = some (.int .u32 (b : Int)) ∧ w.cell? ⟨g, 4, none⟩ = some (.int .u32 (c : Int)) ∧ w.cell? ⟨g, 5, none⟩ = some (.int .u32 (d : Int)) ∧ w.cell? ⟨g, 6, none⟩ = some (.int .u32 (e : Int)) :=
  ⟨h.cell 0, h.cell 1, h.cell 2, h.cell 3, h.cell 4, h.cell 5, h.cell 6⟩
/-- Seven cells are written. -/
@[reducible] def set7 (w : World) (g : Nat) (v0 v1 v2 v3 v4 v5 v6 : Value) : World := ((((((w.setCell ⟨g, 0, none⟩ v0).setCell ⟨g, 1, none⟩ v1).setCell ⟨g, 2, none⟩ v2).setCell ⟨g, 3, none⟩ v3).setCell ⟨g, 4, none⟩ v4).setCell ⟨g, 5, none⟩ v5).setCell ⟨g, 6, none⟩ v6
theorem Blk.set7 {w : World} {g : Nat} {t : TypeId} {u0 u1 u2 u3 u4 u5 u6 : Value} (h : Blk w g t #[u0, u1, u2, u3, u4, u5, u6]) (v0 v1 v2 v3 v4 v5 v6 : Value) : Blk (set7 w g v0 v1 v2 v3 v4 v5 v6) g t #[v0, v1, v2, v3, v4, v5, v6] := by
  have h0 : Blk _ g t #[v0, u1, u2, u3, u4, u5, u6] := h.set_ 0 v0
  have h1 : Blk _ g t #[v0, v1, u2, u3, u4, u5, u6] := h0.set_ 1 v1
  have h2 : Blk _ g t #[v0, v1, v2, u3, u4, u5, u6] := h1.set_ 2 v2
  have h3 : Blk _ g t #[v0, v1, v2, v3, u4, u5, u6] := h2.set_ 3 v3
  have h4 : Blk _ g t #[v0, v1, v2, v3, v4, u5, u6] := h3.set_ 4 v4
  have h5 : Blk _ g t #[v0, v1, v2, v3, v4, v5, u6] := h4.set_ 5 v5
  have h6 : Blk _ g t #[v0, v1, v2, v3, v4, v5, v6] := h5.set_ 6 v6
  exact h6
theorem below_set7 {B : Nat} {a w : World} {g : Nat} (h : Below B a w) (hg : B ≤ g) (v0 v1 v2 v3 v4 v5 v6 : Value) : Below B a (set7 w g v0 v1 v2 v3 v4 v5 v6) :=
  ((((((h.setCell (p := ⟨g, 0, none⟩) hg v0).setCell (p := ⟨g, 1, none⟩) hg v1).setCell (p := ⟨g, 2, none⟩) hg v2).setCell (p := ⟨g, 3, none⟩) hg v3).setCell (p := ⟨g, 4, none⟩) hg v4).setCell (p := ⟨g, 5, none⟩) hg v5).setCell (p := ⟨g, 6, none⟩) hg v6
end Go.Proofs.YtafbidhbmfdlkaaGreatDoor
/-
  Labels as bytes, and the labels that stand on a disk, as plain lists.
-/
namespace Go.Proofs.YtafbidhbmfdlkaaGreatDoor
open Go.RowKit Go.Shelf
set_option maxRecDepth 100000

/-- The sum of a text. -/
def sumN (s : List UInt8) : Nat := (fourW s).a.toNat
theorem sumN_lt (s : List UInt8) : sumN s < 4294967296 := (fourW s).a.isLt
/-- What is summed of a label. -/
def summedL (l : Lb) : List UInt8 := [67] ++ (leB 4 l.1 ++ (leB 4 l.2.1 ++ bytesP l.2.2))
theorem summedL_length (l : Lb) : (summedL l).length = 25 := by simp [summedL, leB_length, bytesP_length]
/-- A label's block. -/
def blockL (l : Lb) : List UInt8 := summedL l ++ (leB 4 (sumN (summedL l)) ++ List.replicate 227 0)
theorem blockL_length (l : Lb) : (blockL l).length = 256 := by simp [blockL, summedL_length, leB_length]
/-- The label that a block would be of. -/
def readL (b : List UInt8) : Lb := (leN ((b.drop 1).take 4), leN ((b.drop 5).take 4), getP ((b.drop 9).take 16))
theorem wf_readL (b : List UInt8) : WfL (readL b) := ⟨leN_le b 1 4, leN_le b 5 4, wf_getP _⟩
/-- The label of a block. -/
def labelO (b : List UInt8) : Option Lb := if MayP (readL b).2.2 then (if MayL (readL b) ∧ b = blockL (readL b) then some (readL b) else none) else none
theorem labelO_some {b : List UInt8} {l : Lb} (h : labelO b = some l) : MayL l ∧ WfL l ∧ b = blockL l := by
  unfold labelO at h
  split at h
  · split at h
    · next h1 =>
      cases h
      exact ⟨h1.1, wf_readL b, h1.2⟩
    · cases h
  · cases h
theorem win_of (A B C : List UInt8) (i k : Nat) (hi : A.length = i) (hk : B.length = k) : ((A ++ (B ++ C)).drop i).take k = B := by
  rw [List.drop_append_of_le_length (by omega), List.drop_of_length_le (by omega), List.nil_append, List.take_append_of_le_length (by omega), List.take_of_length_le (by omega)]
theorem readL_block {l : Lb} (hm : MayL l) (hw : WfL l) : readL (blockL l) = l := by
  obtain ⟨g, e, p⟩ := l
  obtain ⟨w1, w2, w3⟩ := hw
  obtain ⟨_, _, _, m4⟩ := hm
  simp only at w1 w2 w3 m4
  obtain ⟨T, hT⟩ : ∃ T, leB 4 (sumN (summedL (g, e, p))) ++ List.replicate 227 0 = T := ⟨_, rfl⟩
  have e0 : blockL (g, e, p) = [67] ++ (leB 4 g ++ (leB 4 e ++ (bytesP p ++ T))) := by rw [blockL, hT]; simp [summedL]
  have e1 : ((blockL (g, e, p)).drop 1).take 4 = leB 4 g := by rw [e0]; exact win_of _ _ _ 1 4 rfl (leB_length 4 g)
  have e2 : ((blockL (g, e, p)).drop 5).take 4 = leB 4 e := by
    rw [e0, ← List.append_assoc]
    exact win_of _ _ _ 5 4 (by simp [leB_length]) (leB_length 4 e)
  have e3 : ((blockL (g, e, p)).drop 9).take 16 = bytesP p := by
    rw [e0, ← List.append_assoc, ← List.append_assoc]
    exact win_of _ _ _ 9 16 (by simp [leB_length]) (bytesP_length p)
  rw [readL, e1, e2, e3, leN_leB 4 g (by omega), leN_leB 4 e (by omega), getP_bytesP m4 w3]
theorem labelO_block {l : Lb} (hm : MayL l) (hw : WfL l) : labelO (blockL l) = some l := by
  unfold labelO
  rw [readL_block hm hw, if_pos hm.2.2.2, if_pos ⟨hm, rfl⟩]

/-- A label is put in ahead of the first one with a smaller Gen. -/
def insL (l : Lb) : List Lb → List Lb
  | [] => [l]
  | m :: r => if m.1 < l.1 then l :: m :: r else m :: insL l r
theorem insL_perm (l : Lb) : ∀ L : List Lb, (insL l L).Perm (l :: L)
  | [] => List.Perm.refl _
  | m :: r => by
    unfold insL
    split
    · exact List.Perm.refl _
    · exact ((insL_perm l r).cons m).trans (List.Perm.swap l m r)
/-- Gens fall. -/
def Falls (L : List Lb) : Prop := L.Pairwise (fun l m => m.1 ≤ l.1)
theorem insL_falls (l : Lb) : ∀ {L : List Lb}, Falls L → Falls (insL l L)
  | [], _ => List.pairwise_singleton _ _
  | m :: r, h => by
    unfold insL
    obtain ⟨h1, h2⟩ := List.pairwise_cons.1 h
    split
    · next hlt =>
      refine List.pairwise_cons.2 ⟨fun x hx => ?_, h⟩
      rcases List.mem_cons.1 hx with rfl | hx
      · omega
      · have := h1 x hx; omega
    · next hge =>
      refine List.pairwise_cons.2 ⟨fun x hx => ?_, insL_falls l h2⟩
      rcases List.mem_cons.1 ((insL_perm l r).mem_iff.1 hx) with rfl | hx
      · omega
      · exact h1 x hx
/-- The labels in the first k slots, the greatest Gen first; as they come. -/
def standL (f : Nat → Option Lb) : Nat → List Lb
  | 0 => []
  | k + 1 => match f k with
    | some l => insL l (standL f k)
    | none => standL f k
def slotsL (f : Nat → Option Lb) : Nat → List Lb
  | 0 => []
  | k + 1 => match f k with
    | some l => slotsL f k ++ [l]
    | none => slotsL f k
theorem standL_perm (f : Nat → Option Lb) : ∀ k, (standL f k).Perm (slotsL f k)
  | 0 => List.Perm.refl _
  | k + 1 => by
    unfold standL slotsL
    cases f k with
    | none => exact standL_perm f k
    | some l => exact (insL_perm l _).trans (((standL_perm f k).cons l).trans (List.perm_append_singleton l _).symm)
theorem standL_falls (f : Nat → Option Lb) : ∀ k, Falls (standL f k)
  | 0 => List.Pairwise.nil
  | k + 1 => by
    unfold standL
    cases f k with
    | none => exact standL_falls f k
    | some l => exact insL_falls l (standL_falls f k)
theorem slotsL_mem {f : Nat → Option Lb} {l : Lb} : ∀ {k : Nat}, l ∈ slotsL f k ↔ ∃ q, q < k ∧ f q = some l
  | 0 => by simp [slotsL]
  | k + 1 => by
    have ih := slotsL_mem (f := f) (l := l) (k := k)
    unfold slotsL
    cases hf : f k with
    | none =>
      simp only
      rw [ih]
      constructor
      · rintro ⟨q, h1, h2⟩
        exact ⟨q, by omega, h2⟩
      · rintro ⟨q, h1, h2⟩
        rcases Nat.lt_or_ge q k with h | h
        · exact ⟨q, h, h2⟩
        · obtain rfl : q = k := by omega
          rw [hf] at h2
          cases h2
    | some m =>
      simp only [List.mem_append, List.mem_singleton]
      rw [ih]
      constructor
      · rintro (⟨q, h1, h2⟩ | rfl)
        · exact ⟨q, by omega, h2⟩
        · exact ⟨k, by omega, hf⟩
      · rintro ⟨q, h1, h2⟩
        rcases Nat.lt_or_ge q k with h | h
        · exact .inl ⟨q, h, h2⟩
        · obtain rfl : q = k := by omega
          rw [hf] at h2
          exact .inr (Option.some.inj h2).symm
theorem standL_mem {f : Nat → Option Lb} {l : Lb} {k : Nat} : l ∈ standL f k ↔ ∃ q, q < k ∧ f q = some l := (standL_perm f k).mem_iff.trans slotsL_mem
theorem slotsL_length (f : Nat → Option Lb) : ∀ k, (slotsL f k).length ≤ k
  | 0 => Nat.le_refl _
  | k + 1 => by
    have := slotsL_length f k
    unfold slotsL
    cases f k with
    | none => simp only; omega
    | some l => simp only [List.length_append, List.length_singleton]; omega
/-- Each in its slot. -/
def Slotted (f : Nat → Option Lb) : Prop := ∀ q l, f q = some l → l.1 % 4 = q
theorem standL_uniq {f : Nat → Option Lb} (hs : Slotted f) {k : Nat} {l m : Lb} (hl : l ∈ standL f k) (hm : m ∈ standL f k) (h : l.1 = m.1) : l = m := by
  obtain ⟨q, _, e1⟩ := standL_mem.1 hl
  obtain ⟨r, _, e2⟩ := standL_mem.1 hm
  have h1 := hs q l e1
  have h2 := hs r m e2
  obtain rfl : q = r := by omega
  rw [e1] at e2
  exact Option.some.inj e2
/-- What falls and holds the same labels is the same list. -/
theorem standL_eq {f : Nat → Option Lb} (hs : Slotted f) {k : Nat} {L : List Lb} (hp : L.Perm (slotsL f k)) (hL : Falls L) : L = standL f k :=
  List.Perm.eq_of_pairwise (le := fun (l m : Lb) => m.1 ≤ l.1) (fun l m h1 h2 a b => standL_uniq hs ((hp.trans (standL_perm f k).symm).mem_iff.1 h1) h2 (by omega)) hL (standL_falls f k) (hp.trans (standL_perm f k).symm)
/-- The label that stands in a slot. -/
def seenL (D : DkL) (p : Nat) : Option Lb := match labelO (leftD D (fun _ => true) p) with
  | some l => if l.1 % 4 = p then some l else none
  | none => none
theorem seenL_slotted (D : DkL) : Slotted (seenL D) := by
  intro q l h
  unfold seenL at h
  split at h
  · split at h
    · next h1 => cases h; exact h1
    · cases h
  · cases h
/-- What Find answers. -/
def findL (D : DkL) : List Lb := standL (seenL D) 4
def findO (D : DkL) : List Lb × Int := if MayD D then (findL D, 0) else ([], 8)
/-- What Put answers. -/
def putO (D : DkL) (l : Lb) : DkL × Int := if MayD D then (if MayL l then writeO D ((l.1 % 4 : Nat) : Int) (blockL l) else (([], []), 8)) else (([], []), 8)
theorem left_with (D : DkL) (p : Nat) (s : List UInt8) (q : Nat) : leftD (withD D p s) (fun _ => true) q = if q = p then s else leftD D (fun _ => true) q := by
  obtain ⟨h1, h2⟩ := wr_with D.2 (p : Int) s
  have hl : (withD D (p : Int) s).2.length = D.2.length + 1 := by simp [withD]
  have he : (withD D (p : Int) s).2 = D.2 ++ [((p : Int), s)] := rfl
  unfold leftD
  rw [hl, he, lastTo, h2]
  by_cases e : q = p
  · subst e
    rw [if_pos ⟨rfl, rfl⟩, if_pos rfl]
    simp only
    rw [h2]
  · rw [if_neg (fun h => e (by have := h.2; simp only at this; omega)), if_neg e]
    have hc : lastTo (D.2 ++ [((p : Int), s)]) (fun _ => true) (q : Int) D.2.length = lastTo D.2 (fun _ => true) (q : Int) D.2.length := lastTo_congr (fun i hi => by rw [h1 i hi])
    rw [hc]
    cases hx : lastTo D.2 (fun _ => true) (q : Int) D.2.length with
    | none => rfl
    | some i => simp only; rw [h1 i (lastTo_lt hx).1]
end Go.Proofs.YtafbidhbmfdlkaaGreatDoor
/-
  The struct of a sync's steps, by pointer: one box of 25 cells; the first error is kept.
-/
namespace Go.Proofs.YtafbidhbmfdlkaaGreatDoor
open Go.RowKit Go.Shelf
set_option maxRecDepth 100000

/-- refuse, where there is none. -/
theorem txRefuse_new (g c : Nat) (cs : Array Value) (w : World) (h : Blk w g 62 cs) (he : cs[24]? = some (.int .i64 0)) :
    Calls Tryz.prog 65 #[.pointer (some ⟨g, 0, none⟩), .int .i64 (c : Int)] w fun r w' => r = .returned (.bool (decide (c ≠ 0))) ∧ w' = w.setCell ⟨g, 24, none⟩ (.int .i64 (c : Int)) ∧ Blk w' g 62 (cs.setIfInBounds 24 (.int .i64 (c : Int))) := by
  have c24 := h.cell 24
  rw [he] at c24
  have hf := h.frozen 24
  have hs := h.set_ 24 (.int .i64 (c : Int))
  have hlt : 24 < cs.size := by
    rcases Nat.lt_or_ge 24 cs.size with h1 | h1
    · exact h1
    · rw [Array.getElem?_eq_none h1] at he; cases he
  have d24 := hs.cell 24
  rw [Array.getElem?_setIfInBounds_self_of_lt hlt] at d24
  obtain ⟨w1, hw1⟩ : ∃ X, w.setCell ⟨g, 24, none⟩ (.int .i64 (c : Int)) = X := ⟨_, rfl⟩
  rw [hw1] at d24 hs ⊢
  have HS := Lib.hid hs
  have HW := Lib.hid hw1
  by_cases hc : c = 0
  · have e2 : ((c : Int) != 0) = false := by simp; omega
    rw [show decide (c ≠ 0) = false from decide_eq_false (by omega)]
    clear h he hs hc
    go_enter Tryz.func65, Tryz.ntmps65
    go_wp2_with fail
    go_ret
    exact ⟨rfl, rfl, HS.out⟩
  · have e2 : ((c : Int) != 0) = true := by simp; omega
    rw [show decide (c ≠ 0) = true from decide_eq_true hc]
    clear h he hs hc
    go_enter Tryz.func65, Tryz.ntmps65
    go_wp2_with fail
    go_ret
    exact ⟨rfl, rfl, HS.out⟩
end Go.Proofs.YtafbidhbmfdlkaaGreatDoor
/-
  space's own: marks, slices.IndexFunc and ContainsFunc over bytes, whether a table may be, bytes.Clone, a table with another mark, the closure that tells the free blocks.
-/
namespace Go.Proofs.YtafbidhbmfdlkaaGreatDoor
open Go.RowKit Go.Shelf
set_option maxRecDepth 100000

theorem Bsl.mk {w : World} {B g off len cap : Nat} {s : List UInt8} (h : Bsl w B (some ⟨g, off, none⟩) len cap s) (i : Nat) (hi : i < len) : w.cell? ⟨g, off + i, none⟩ = some (.int .u8 ((mkT s i : Nat) : Int)) := h.cellD i hi
theorem Bsl.at_ {w : World} {B len cap : Nat} {a : Option Addr} {s : List UInt8} (h : Bsl w B a len cap s) (h0 : 0 < len) : ∃ b off, a = some ⟨b, off, none⟩ ∧ b < B := by
  obtain ⟨b, off, e, hb, _⟩ := h.2.2.2.2 h0
  exact ⟨b, off, e, hb⟩

theorem isNoMark_any (x : Nat) (hx : x < 256) (w : World) : Calls Tryz.prog 189 #[.int .u8 x] w fun e w' => e = .returned (.bool (decide (2 < x))) ∧ w = w' := by
  have x0 : (0 : Int) ≤ x := by omega
  by_cases h0 : x = 0
  · subst h0
    go_enter Tryz.func189, Tryz.ntmps189
    go_wp2_with fail
    go_ret
    exact ⟨rfl, rfl⟩
  · have e0 : ((x : Int) != 0) = true := by simp; omega
    by_cases h1 : x = 1
    · subst h1
      go_enter Tryz.func189, Tryz.ntmps189
      go_wp2_with fail
      go_ret
      exact ⟨rfl, rfl⟩
    · have e1 : ((x : Int) != 1) = true := by simp; omega
      by_cases h2 : x = 2
      · subst h2
        go_enter Tryz.func189, Tryz.ntmps189
        go_wp2_with fail
        go_ret
        exact ⟨rfl, rfl⟩
      · have e2 : ((x : Int) != 2) = true := by simp; omega
        have e3 : decide (2 < x) = true := decide_eq_true (by omega)
        rw [e3]
        clear h0 h1 h2 e3
        go_enter Tryz.func189, Tryz.ntmps189
        go_wp2_with fail
        go_ret
        exact ⟨rfl, rfl⟩
theorem isNotUsed_any (x : Nat) (hx : x < 256) (w : World) : Calls Tryz.prog 190 #[.int .u8 x] w fun e w' => e = .returned (.bool (decide (x ≠ 1))) ∧ w = w' := by
  have x0 : (0 : Int) ≤ x := by omega
  by_cases h1 : x = 1
  · subst h1
    go_enter Tryz.func190, Tryz.ntmps190
    go_wp2_with fail
    go_ret
    exact ⟨rfl, rfl⟩
  · have e1 : ((x : Int) != 1) = true := by simp; omega
    have e3 : decide (x ≠ 1) = true := decide_eq_true (by omega)
    rw [e3]
    clear h1 e3
    go_enter Tryz.func190, Tryz.ntmps190
    go_wp2_with fail
    go_ret
    exact ⟨rfl, rfl⟩
/-- slices.IndexFunc over bytes: none is odd. -/
theorem spIndex_none (F : Nat) (p : Nat → Bool) (hFF : F = 189 ∨ F = 190) (hF : ∀ x : Nat, x < 256 → ∀ W : World, Calls Tryz.prog F #[.int .u8 x] W fun e w' => e = .returned (.bool (p x)) ∧ W = w') (a : Option Addr) (n c B : Nat) (s : List UInt8) (w : World) (hA : Bsl w B a n c s) (hall : ∀ i, i < n → p (mkT s i) = false) :
    Calls Tryz.prog 253 #[.slice a n c, .func (.func F) #[] #[]] w fun e w' => e = .returned (.int .i64 (-1)) ∧ w = w' := by
  have n0 : (0 : Int) ≤ n := by omega
  have n1 := hA.len_le
  have HA := Lib.hid hA
  have HL := Lib.hid hall
  have HF := Lib.hid hF
  clear hA hall hF
  rcases hFF with rfl | rfl
  all_goals
    go_enter Tryz.func253, Tryz.ntmps253
    go_wp2_with fail
    go_loop [8] (fun i => ∃ k : Nat, k ≤ n ∧ i = .int .i64 k) (fun i => n - (intOf i).toNat)
    case atStart => exact ⟨0, Nat.zero_le _, rfl⟩
    case round =>
      obtain ⟨k, hk, rfl⟩ := hrel
      have k0 : (0 : Int) ≤ k := by omega
      by_cases hlt : k < n
      · have k1 : (k : Int) < n := by omega
        obtain ⟨b, off, rfl, _⟩ := HA.out.at_ (by omega)
        have hc := HA.out.mk k hlt
        have hx := HF.out (mkT s k) (mkT_lt s k) w
        rw [HL.out k hlt] at hx
        have HX := Lib.hid hx
        clear hx
        go_wp2_with fail
        refine HX.out.mono ?_
        rintro e w1 ⟨rfl, rfl⟩
        go_wp2_with fail
        go_round
        case rel => exact ⟨k + 1, by omega, by go_num⟩
        case measure => simp [intOf]; omega
      · obtain rfl : k = n := by omega
        go_wp2_with fail
        go_ret
        exact ⟨rfl, rfl⟩
/-- One is odd. -/
theorem spIndex_some (F : Nat) (p : Nat → Bool) (hFF : F = 189 ∨ F = 190) (hF : ∀ x : Nat, x < 256 → ∀ W : World, Calls Tryz.prog F #[.int .u8 x] W fun e w' => e = .returned (.bool (p x)) ∧ W = w') (a : Option Addr) (n c B : Nat) (s : List UInt8) (w : World) (hA : Bsl w B a n c s) (j : Nat) (hj : j < n) (hat : p (mkT s j) = true) (hall : ∀ i, i < j → p (mkT s i) = false) :
    Calls Tryz.prog 253 #[.slice a n c, .func (.func F) #[] #[]] w fun e w' => e = .returned (.int .i64 j) ∧ w = w' := by
  have n0 : (0 : Int) ≤ n := by omega
  have n1 := hA.len_le
  obtain ⟨b, off, rfl, _⟩ := hA.at_ (by omega)
  have HA := Lib.hid hA
  have HL := Lib.hid hall
  have HAT := Lib.hid hat
  have HF := Lib.hid hF
  clear hA hall hF hat
  rcases hFF with rfl | rfl
  all_goals
    go_enter Tryz.func253, Tryz.ntmps253
    go_wp2_with fail
    go_loop [8] (fun i => ∃ k : Nat, k ≤ j ∧ i = .int .i64 k) (fun i => n - (intOf i).toNat)
    case atStart => exact ⟨0, Nat.zero_le _, rfl⟩
    case round =>
      obtain ⟨k, hk, rfl⟩ := hrel
      have k0 : (0 : Int) ≤ k := by omega
      have hlt : k < n := by omega
      have k1 : (k : Int) < n := by omega
      have hc := HA.out.mk k hlt
      have hx := HF.out (mkT s k) (mkT_lt s k) w
      by_cases hkj : k < j
      · rw [HL.out k hkj] at hx
        have HX := Lib.hid hx
        clear hx
        go_wp2_with fail
        refine HX.out.mono ?_
        rintro e w1 ⟨rfl, rfl⟩
        go_wp2_with fail
        go_round
        case rel => exact ⟨k + 1, by omega, by go_num⟩
        case measure => simp [intOf]; omega
      · have hkj' : k = j := by omega
        rw [hkj', HAT.out] at hx
        rw [hkj'] at hc k0 k1 ⊢
        have HX := Lib.hid hx
        clear hx hkj hkj' hk hlt
        go_wp2_with fail
        refine HX.out.mono ?_
        rintro e w1 ⟨rfl, rfl⟩
        go_wp2_with fail
        go_ret
        exact ⟨rfl, rfl⟩
theorem spContains_none (F : Nat) (p : Nat → Bool) (hFF : F = 189 ∨ F = 190) (hF : ∀ x : Nat, x < 256 → ∀ W : World, Calls Tryz.prog F #[.int .u8 x] W fun e w' => e = .returned (.bool (p x)) ∧ W = w') (a : Option Addr) (n c B : Nat) (s : List UInt8) (w : World) (hA : Bsl w B a n c s) (hall : ∀ i, i < n → p (mkT s i) = false) :
    Calls Tryz.prog 188 #[.slice a n c, .func (.func F) #[] #[]] w fun e w' => e = .returned (.bool false) ∧ w = w' := by
  have HX := Lib.hid (spIndex_none F p hFF hF a n c B s w hA hall)
  clear hF hA hall hFF
  go_enter Tryz.func188, Tryz.ntmps188
  go_wp2_with fail
  refine HX.out.mono ?_
  rintro e w1 ⟨rfl, rfl⟩
  go_wp2_with fail
  go_ret
  exact ⟨rfl, rfl⟩
theorem spContains_some (F : Nat) (p : Nat → Bool) (hFF : F = 189 ∨ F = 190) (hF : ∀ x : Nat, x < 256 → ∀ W : World, Calls Tryz.prog F #[.int .u8 x] W fun e w' => e = .returned (.bool (p x)) ∧ W = w') (a : Option Addr) (n c B : Nat) (s : List UInt8) (w : World) (hA : Bsl w B a n c s) (i : Nat) (hi : i < n) (hat : p (mkT s i) = true) :
    Calls Tryz.prog 188 #[.slice a n c, .func (.func F) #[] #[]] w fun e w' => e = .returned (.bool true) ∧ w = w' := by
  rcases first_from (fun k => p (mkT s k) = true) 0 n with ⟨j, _, hj, hpj, hall⟩ | h
  · have HX := Lib.hid (spIndex_some F p hFF hF a n c B s w hA j hj hpj fun k hk => by simpa using hall k (by omega) hk)
    clear hF hA hall hat hFF
    have j0 : (0 : Int) ≤ j := by omega
    go_enter Tryz.func188, Tryz.ntmps188
    go_wp2_with fail
    refine HX.out.mono ?_
    rintro e w1 ⟨rfl, rfl⟩
    go_wp2_with fail
    go_ret
    exact ⟨rfl, rfl⟩
  · exact absurd hat (h i (by omega) hi)
/-- A table may be. -/
theorem spMay_yes (a : Option Addr) (n c B : Nat) (s : List UInt8) (w : World) (hA : Bsl w B a n c s) (h : MayT s) :
    Calls Tryz.prog 119 #[.slice a n c] w fun e w' => e = .returned (.bool true) ∧ w = w' := by
  have hn : n = 256 := by rw [← hA.1]; exact h.1
  subst hn
  obtain ⟨b, off, rfl, _⟩ := hA.at_ (by omega)
  have hc : 256 ≤ c := hA.2.1
  have H1 := Lib.hid (spContains_none 189 (fun x => decide (2 < x)) (.inl rfl) (fun x hx W => isNoMark_any x hx W) _ 256 c B s w hA fun i hi => decide_eq_false (by have := h.2.1 i hi; omega))
  have hp := hA.pre 12 (by omega)
  have H2 := Lib.hid (spContains_none 190 (fun x => decide (x ≠ 1)) (.inr rfl) (fun x hx W => isNotUsed_any x hx W) _ 12 c B (s.take 12) w hp fun i hi => by
    have e : mkT (s.take 12) i = mkT s i := by
      unfold mkT
      rw [List.getD_eq_getElem?_getD, List.getElem?_take_of_lt hi, List.getD_eq_getElem?_getD]
    rw [e, h.2.2 i hi]; rfl)
  have HS : ∀ W : World, (Instr.slice 26 (.slice (some ⟨b, off, none⟩) 256 c) none (some (.int .i64 12)) none).run Tryz.prog W = .ok (.slice (some ⟨b, off, none⟩) 12 c) W := fun W => slice_h W b off 256 c 12 (by omega) (by omega)
  clear hA hp h
  go_enter Tryz.func119, Tryz.ntmps119
  go_wp2_with fail
  refine H1.out.mono ?_
  rintro e w1 ⟨rfl, rfl⟩
  go_wp2_with fail
  refine H2.out.mono ?_
  rintro e w1 ⟨rfl, rfl⟩
  go_wp2_with fail
  go_ret
  exact ⟨rfl, rfl⟩
theorem not_may {s : List UInt8} (h : ¬ MayT s) (hl : s.length = 256) : (∃ i, i < 256 ∧ 2 < mkT s i) ∨ ((∀ i, i < 256 → mkT s i ≤ 2) ∧ ∃ i, i < 12 ∧ mkT s i ≠ 1) := by
  rcases first_from (fun i => 2 < mkT s i) 0 256 with ⟨k, _, hk, h2, _⟩ | h1
  · exact .inl ⟨k, hk, h2⟩
  · have h1' : ∀ i, i < 256 → mkT s i ≤ 2 := fun i hi => by have := h1 i (by omega) hi; omega
    rcases first_from (fun i => mkT s i ≠ 1) 0 12 with ⟨k, _, hk, h2, _⟩ | h3
    · exact .inr ⟨h1', k, hk, h2⟩
    · exact absurd ⟨hl, h1', fun i hi => by have := h3 i (by omega) hi; omega⟩ h
theorem spMay_no (a : Option Addr) (n c B : Nat) (s : List UInt8) (w : World) (hA : Bsl w B a n c s) (h : ¬ MayT s) :
    Calls Tryz.prog 119 #[.slice a n c] w fun e w' => e = .returned (.bool false) ∧ w = w' := by
  by_cases hn : n = 256
  · subst hn
    obtain ⟨b, off, rfl, _⟩ := hA.at_ (by omega)
    have hc : 256 ≤ c := hA.2.1
    rcases not_may h hA.1 with ⟨i, hi, h2⟩ | ⟨h1, i, hi, h2⟩
    · have H1 := Lib.hid (spContains_some 189 (fun x => decide (2 < x)) (.inl rfl) (fun x hx W => isNoMark_any x hx W) _ 256 c B s w hA i hi (decide_eq_true h2))
      clear hA h h2
      go_enter Tryz.func119, Tryz.ntmps119
      go_wp2_with fail
      refine H1.out.mono ?_
      rintro e w1 ⟨rfl, rfl⟩
      go_wp2_with fail
      go_ret
      exact ⟨rfl, rfl⟩
    · have H1 := Lib.hid (spContains_none 189 (fun x => decide (2 < x)) (.inl rfl) (fun x hx W => isNoMark_any x hx W) _ 256 c B s w hA fun i hi => decide_eq_false (by have := h1 i hi; omega))
      have hp := hA.pre 12 (by omega)
      have e : mkT (s.take 12) i = mkT s i := by
        unfold mkT
        rw [List.getD_eq_getElem?_getD, List.getElem?_take_of_lt hi, List.getD_eq_getElem?_getD]
      have H2 := Lib.hid (spContains_some 190 (fun x => decide (x ≠ 1)) (.inr rfl) (fun x hx W => isNotUsed_any x hx W) _ 12 c B (s.take 12) w hp i hi (by rw [e]; exact decide_eq_true h2))
      have HS : ∀ W : World, (Instr.slice 26 (.slice (some ⟨b, off, none⟩) 256 c) none (some (.int .i64 12)) none).run Tryz.prog W = .ok (.slice (some ⟨b, off, none⟩) 12 c) W := fun W => slice_h W b off 256 c 12 (by omega) (by omega)
      clear hA hp h e h1 h2
      go_enter Tryz.func119, Tryz.ntmps119
      go_wp2_with fail
      refine H1.out.mono ?_
      rintro e w1 ⟨rfl, rfl⟩
      go_wp2_with fail
      refine H2.out.mono ?_
      rintro e w1 ⟨rfl, rfl⟩
      go_wp2_with fail
      go_ret
      exact ⟨rfl, rfl⟩
  · have n1 := hA.len_le
    have hb : ((n : Int) == 256) = false := by simp; omega
    clear hA h hn
    go_enter Tryz.func119, Tryz.ntmps119
    go_wp2_with fail
    go_ret
    exact ⟨rfl, rfl⟩
end Go.Proofs.YtafbidhbmfdlkaaGreatDoor
/-
  space's own: bytes.Clone, a table with another mark, New, the closure that tells the free blocks.
-/
namespace Go.Proofs.YtafbidhbmfdlkaaGreatDoor
open Go.RowKit Go.Shelf
set_option maxRecDepth 100000

set_option maxHeartbeats 1000000 in
theorem spClone_any (a : Option Addr) (n c : Nat) (s : List UInt8) (w : World) (hA : Bsl w w.heap.size a n c s) (h0 : 0 < n) (hn : n ≤ 20000) : Calls Tryz.prog 60 #[.slice a n c] w (OwnV n s w) := by
  obtain ⟨b, off, rfl, _⟩ := hA.at_ h0
  have HA := Lib.hid hA.2.2.2
  have b0 := (Below.refl w.heap.size w).alloc (Nat.le_refl _) (.cells #[] 5)
  have HB0 := Lib.hid b0
  have HS := Lib.hid (hA.step b0)
  have HO0 := Lib.hid (own_empty w)
  have HQ : (binOp .eql 26 (.slice (some ⟨b, off, none⟩) n c) (.slice none 0 0)).run Tryz.prog w = .ok (.bool false) w := by kernel_rfl
  clear hA b0
  go_enter Tryz.func60, Tryz.ntmps60
  go_wp2_with (at_builtin
               refine wpList_append_bsl rfl (.tmp 5) (.tmp 6) rfl w.heap.size _ 0 _ rfl HO0.out _ (some ⟨b, off, none⟩) n c s rfl HS.out (by omega) HB0.out.size ?_
               intro v1 W1 hown1 hg1
               rw [Nat.zero_add, List.nil_append] at hown1
               have HB1 := Lib.hid (app_below HB0.out HO0.out hg1 HB0.out.size); clear hg1
               have HO1 := Lib.hid hown1; clear hown1)
  go_ret
  exact ⟨_, rfl, HO1.out, HB1.out⟩
/-- A row of the call's own in which one byte is written. -/
theorem own_put {w : World} {B n c g : Nat} {s : List UInt8} (h : w.ownsRow B 5 1 (.slice (some ⟨g, 0, none⟩) n c) n (vals s)) (i : Nat) (_hi : i < n) (y : UInt8) : (w.setCell ⟨g, i, none⟩ (.int .u8 (y.toNat : Int))).ownsRow B 5 1 (.slice (some ⟨g, 0, none⟩) n c) n (vals (s.set i y)) := by
  obtain ⟨h1, ⟨h2, h3⟩ | ⟨g', cap', cur, h2, hb, hh, hnc, hcm, hsz, ht⟩⟩ := h
  · cases h2
  · cases h2
    refine ⟨by simpa [vals] using h1, .inr ⟨g, c, cur.setIfInBounds i (.int .u8 (y.toNat : Int)), rfl, hb, Blk.set_ (g := g) (t := 5) hh i _, hnc, hcm, by simpa using hsz, ?_⟩⟩
    rw [Array.toList_setIfInBounds, List.take_set, vals, List.map_set]
    have e : List.take (n * 1) cur.toList = vals s := by simpa using ht
    rw [show (List.take (n * 1) cur.toList) = vals s from e]
    rfl
theorem own_mk {w : World} {B n c g : Nat} {s : List UInt8} (h : w.ownsRow B 5 1 (.slice (some ⟨g, 0, none⟩) n c) n (vals s)) (i : Nat) (hi : i < n) : w.cell? ⟨g, i, none⟩ = some (.int .u8 ((mkT s i : Nat) : Int)) := by
  have := (own_bsl h).mk i hi
  rwa [Nat.zero_add] at this
theorem own_at {w : World} {B n : Nat} {v : Value} {s : List UInt8} (h : w.ownsRow B 5 1 v n (vals s)) (h0 : 0 < n) : ∃ g c, v = .slice (some ⟨g, 0, none⟩) n c := by
  obtain ⟨g, c, e, _⟩ := bsl_of_own h h0
  exact ⟨g, c, e⟩
/-- A table with another mark, in new memory. -/
theorem spWith_any (a : Option Addr) (n c : Nat) (s : List UInt8) (k : Nat) (y : UInt8) (w : World) (hA : Bsl w w.heap.size a n c s) (hk : k < n) (hn : n ≤ 20000) : Calls Tryz.prog 120 #[.slice a n c, .int .i64 k, .int .u8 (y.toNat : Int)] w (OwnV n (s.set k y) w) := by
  have HC := Lib.hid (spClone_any a n c s w hA (by omega) hn)
  clear hA
  have k0 : (0 : Int) ≤ k := by omega
  have k1 : (k : Int) < n := by omega
  obtain ⟨z, hz⟩ : ∃ z : Int, (y.toNat : Int) = z := ⟨_, rfl⟩
  have HZ := Lib.hid hz
  rw [hz]
  clear hz
  go_enter Tryz.func120, Tryz.ntmps120
  go_wp2_with fail
  refine HC.out.mono ?_
  rintro e w1 ⟨v, rfl, ho, b1⟩
  obtain ⟨g, c', rfl⟩ := own_at ho (by omega)
  have hc := own_mk ho k hk
  have hw := own_put ho k hk y
  rw [HZ.out] at hw
  have hlt := own_lt ho
  have HB := Lib.hid (b1.setCell (p := ⟨g, k, none⟩) hlt.1 (.int .u8 z))
  have HO := Lib.hid hw
  have hf : w1.frozen? ⟨g, k, none⟩ = false := by
    obtain ⟨cs, hbk⟩ := own_blk ho
    exact hbk.frozen k
  clear ho b1 hw hlt
  go_wp2_with fail
  go_ret
  exact ⟨_, rfl, HO.out, HB.out⟩
set_option maxHeartbeats 1000000 in
theorem spNew_any (w : World) : Calls Tryz.prog 30 #[] w (OwnV 256 (newTo 12) w) := by
  have hmk : ∀ W : World, (Instr.makeSlice 26 (.int .i64 256) (.int .i64 256)).run Tryz.prog W = .ok (.slice (some ⟨W.heap.size, 0, none⟩) 256 256) (W.alloc (.cells (Array.replicate 256 (.int .u8 0)) 5)) := fun W => by kernel_rfl
  obtain ⟨g, hg⟩ : ∃ g, w.heap.size = g := ⟨_, rfl⟩
  obtain ⟨w1, hw1⟩ : ∃ w1, w.alloc (.cells (Array.replicate 256 (.int .u8 0)) 5) = w1 := ⟨_, rfl⟩
  have hown : w1.ownsRow g 5 1 (.slice (some ⟨g, 0, none⟩) 256 256) 256 (vals (newTo 0)) := by
    subst hw1; subst hg
    refine ⟨by simp [vals, newTo], .inr ⟨w.heap.size, 256, Array.replicate 256 (.int .u8 0), rfl, Nat.le_refl _, heap_alloc_new w _, Nat.le_refl _, by unfold maxLen; omega, by simp, ?_⟩⟩
    simp [newTo, vals]
  have hb : Below g w w1 := by
    subst hw1; subst hg
    exact (Below.refl _ w).alloc (Nat.le_refl _) _
  have HO := Lib.hid hown
  have HB := Lib.hid hb
  have HG := Lib.hid hg
  have hmk' : (Instr.makeSlice 26 (.int .i64 256) (.int .i64 256)).run Tryz.prog w = .ok (.slice (some ⟨g, 0, none⟩) 256 256) w1 := by rw [hmk w, hg, hw1]
  clear hown hb hmk hw1 hg
  go_enter Tryz.func30, Tryz.ntmps30
  go_wp2_with fail
  go_loopw [4] (fun i wr => ∃ k : Nat, k ≤ 12 ∧ i = .int .i64 k ∧ wr.ownsRow g 5 1 (.slice (some ⟨g, 0, none⟩) 256 256) 256 (vals (newTo k)) ∧ Below g w wr) (fun i _ => 12 - (intOf i).toNat)
  case atStart => exact ⟨0, Nat.zero_le _, rfl, HO.out, HB.out⟩
  case round =>
    obtain ⟨k, hk, rfl, ho, hb⟩ := hrel
    have k0 : (0 : Int) ≤ k := by omega
    by_cases hlt : k < 12
    · have k1 : (k : Int) < 12 := by omega
      have hc := own_mk ho k (by omega)
      have hw := own_put ho k (by omega) 1
      rw [newTo_set (by omega)] at hw
      have HB2 := Lib.hid (hb.setCell (p := ⟨g, k, none⟩) (Nat.le_refl _) (.int .u8 1))
      have HO2 := Lib.hid (show (wr.setCell ⟨g, k, none⟩ (.int .u8 1)).ownsRow g 5 1 (.slice (some ⟨g, 0, none⟩) 256 256) 256 (vals (newTo (k + 1))) from hw)
      have hf : wr.frozen? ⟨g, k, none⟩ = false := by
        obtain ⟨cs, hbk⟩ := own_blk ho
        exact hbk.frozen k
      clear ho hb hw
      go_wp2_with fail
      go_roundw
      case rel => exact ⟨k + 1, by omega, by go_num, HO2.out, HB2.out⟩
      case measure => simp [intOf]; omega
    · have hkk : k = 12 := by omega
      rw [hkk] at ho ⊢
      have HO2 := Lib.hid ho
      have HB2 := Lib.hid hb
      clear ho hb hkk hlt hk k0
      go_wp2_with fail
      go_ret
      exact ⟨_, rfl, by rw [HG.out]; exact HO2.out, by rw [HG.out]; exact HB2.out⟩
/-- The closure that tells the free blocks: its place lies in block gp, the table's slice in block gs. -/
theorem spOnes_any (a : Option Addr) (n c : Nat) (w : World) : Calls Tryz.prog 294 #[.slice a n c] w fun e w' => ∃ gp gs, e = .returned (.func (.func 310) #[] #[.pointer (some ⟨gp, 0, none⟩), .pointer (some ⟨gs, 0, none⟩)]) ∧ w.heap.size ≤ gp ∧ w.heap.size ≤ gs ∧ gp ≠ gs ∧ Blk w' gp 3 #[.int .i64 0] ∧ Blk w' gs 26 #[.slice a n c] ∧ Below w.heap.size w w' := by
  have b1 := (Below.refl w.heap.size w).alloc (Nat.le_refl _) (.cells #[.slice a n c] 26)
  have b2 := b1.alloc b1.size (.cells #[.int .i64 0] 3)
  have z1 := (Blk.new w 26 #[.slice a n c]).alloc (.cells #[.int .i64 0] 3)
  have z2 := Blk.new (w.alloc (.cells #[.slice a n c] 26)) 3 #[.int .i64 0]
  have HB := Lib.hid b2
  have HZ1 := Lib.hid z1
  have HZ2 := Lib.hid z2
  clear b1 b2 z1 z2
  go_enter Tryz.func294, Tryz.ntmps294
  go_wp2_with fail
  go_ret
  refine ⟨_, _, rfl, by simp, by simp, by simp, ?_, HZ1.out, HB.out⟩
  have h := HZ2.out
  rw [World.size_alloc] at h
  exact h
end Go.Proofs.YtafbidhbmfdlkaaGreatDoor
/-
  The closure that tells the free blocks, called: the next one from its place on, or none.
-/
namespace Go.Proofs.YtafbidhbmfdlkaaGreatDoor
open Go.RowKit Go.Shelf
set_option maxRecDepth 100000

/-- The number that a block keeps. -/
def keptAt (w : World) (g : Nat) : Nat := (intOf ((w.cell? ⟨g, 0, none⟩).getD undef)).toNat
theorem keptAt_blk {w : World} {g t k : Nat} (h : Blk w g t #[.int .i64 (k : Int)]) : keptAt w g = k := by
  unfold keptAt
  rw [h.cell 0]
  simp [intOf]
set_option maxHeartbeats 1000000 in
theorem spNext_some (gp gs B : Nat) (a : Option Addr) (n c : Nat) (s : List UInt8) (p k : Nat) (w : World) (hp : Blk w gp 3 #[.int .i64 (p : Int)]) (hs : Blk w gs 26 #[.slice a n c]) (hne : gp ≠ gs) (hA : Bsl w B a n c s) (hB : B ≤ gp)
    (h1 : p ≤ k) (h2 : k < n) (h3 : mkT s k = 0) (h4 : ∀ i, p ≤ i → i < k → mkT s i ≠ 0) :
    Calls Tryz.prog 310 #[.pointer (some ⟨gp, 0, none⟩), .pointer (some ⟨gs, 0, none⟩)] w fun e w' => e = .returned (.tuple #[.int .i64 k, .bool true]) ∧ w.grownBy w' (some gp) ∧ Blk w' gp 3 #[.int .i64 ((k + 1 : Nat) : Int)] := by
  have n1 := hA.len_le
  obtain ⟨b, off, rfl, hbB⟩ := hA.at_ (by omega)
  have HP := Lib.hid hp
  have HS := Lib.hid hs
  have HA := Lib.hid hA
  have HB := Lib.hid hB
  have HNE := Lib.hid hne
  have H3 := Lib.hid h3
  have H4 := Lib.hid h4
  clear hp hs hA hB hne h3 h4
  go_enter Tryz.func310, Tryz.ntmps310
  go_wp2_with fail
  go_loopw [4] (fun _ wr => ∃ j : Nat, p ≤ j ∧ j ≤ k ∧ w.grownBy wr (some gp) ∧ Blk wr gp 3 #[.int .i64 (j : Int)]) (fun _ wr => n - keptAt wr gp)
  case atStart => exact ⟨p, Nat.le_refl _, h1, World.grownBy.refl _ _, HP.out⟩
  case round =>
    obtain ⟨j, hj1, hj2, hg, hb⟩ := hrel
    have j0 : (0 : Int) ≤ j := by omega
    have j1 : (j : Int) < n := by omega
    have hlt : j < n := by omega
    have hkm := keptAt_blk hb
    have HKM := Lib.hid hkm
    clear hkm
    have c0 : wr.cell? ⟨gp, 0, none⟩ = some (.int .i64 (j : Int)) := hb.cell 0
    have hsr : Blk wr gs 26 #[.slice (some ⟨b, off, none⟩) n c] := HS.out.grown hg fun e => HNE.out (Option.some.inj e).symm
    have c1 : wr.cell? ⟨gs, 0, none⟩ = some (.slice (some ⟨b, off, none⟩) n c) := hsr.cell 0
    have c1' : (wr.setCell ⟨gp, 0, none⟩ (.int .i64 ((j : Int) + 1))).cell? ⟨gs, 0, none⟩ = some (.slice (some ⟨b, off, none⟩) n c) := (hsr.far (p := ⟨gp, 0, none⟩) (fun e => HNE.out e.symm) _).cell 0
    have hbg : b ≠ gp := by have := HB.out; omega
    have hcell : (wr.setCell ⟨gp, 0, none⟩ (.int .i64 ((j : Int) + 1))).cell? ⟨b, off + j, none⟩ = some (.int .u8 ((mkT s j : Nat) : Int)) := by
      rw [← HA.out.mk j hlt]
      have hbl : b < w.heap.size := by
        have h := HA.out.mk j hlt
        obtain ⟨o, ho, _⟩ := cells_of_cell h
        exact (Array.getElem?_eq_some_iff.1 ho).1
      have e1 : (wr.setCell ⟨gp, 0, none⟩ (.int .i64 ((j : Int) + 1))).heap[b]? = w.heap[b]? := (Below.heap_setCell wr ⟨gp, 0, none⟩ _ b hbg).trans (hg.block b hbl (fun e => hbg (Option.some.inj e)))
      exact World.cell?_of_block (a := ⟨b, off + j, none⟩) e1
    have hw : IntKind.i64.wrap ((j : Int) + 1) = (j : Int) + 1 := IntWalk.i64_in _ (by omega)
    have hg2 : w.grownBy (wr.setCell ⟨gp, 0, none⟩ (.int .i64 ((j : Int) + 1))) (some gp) := only_setCell hg (.inl rfl) _
    have hb2 := hb.set_ 0 (.int .i64 ((j : Int) + 1))
    have hb2' : Blk (wr.setCell ⟨gp, 0, none⟩ (.int .i64 ((j : Int) + 1))) gp 3 #[.int .i64 ((j + 1 : Nat) : Int)] := by
      have e : ((j + 1 : Nat) : Int) = (j : Int) + 1 := by omega
      rw [e]; exact hb2
    have hf := hb.frozen 0
    have HG2 := Lib.hid hg2
    have HB2 := Lib.hid hb2'
    clear hg hb hsr hg2 hb2 hb2' hbg
    by_cases hjk : j = k
    · rw [hjk] at c0 j0 j1 hlt c1' hcell hw HG2 HB2
      rw [H3.out] at hcell
      clear HKM hj1 hj2 hjk
      go_wp2_with fail
      go_ret2
      exact ⟨rfl, HG2.out, HB2.out⟩
    · have hz := H4.out j hj1 (by omega)
      obtain ⟨x, hx⟩ : ∃ x : Nat, mkT s j = x := ⟨_, rfl⟩
      rw [hx] at hcell hz
      have hzz : ((x : Int) == 0) = false := by simp; omega
      clear hx hz
      go_wp2_with fail
      go_roundw
      case rel => exact ⟨j + 1, by omega, by omega, HG2.out, HB2.out⟩
      case measure =>
        rw [keptAt_blk HB2.out, HKM.out]
        omega
set_option maxHeartbeats 1000000 in
theorem spNext_none (gp gs B : Nat) (a : Option Addr) (n c : Nat) (s : List UInt8) (p : Nat) (w : World) (hp : Blk w gp 3 #[.int .i64 (p : Int)]) (hs : Blk w gs 26 #[.slice a n c]) (hne : gp ≠ gs) (hA : Bsl w B a n c s) (hB : B ≤ gp)
    (h1 : p ≤ n) (h4 : ∀ i, p ≤ i → i < n → mkT s i ≠ 0) :
    Calls Tryz.prog 310 #[.pointer (some ⟨gp, 0, none⟩), .pointer (some ⟨gs, 0, none⟩)] w fun e w' => e = .returned (.tuple #[.int .i64 0, .bool false]) ∧ w.grownBy w' (some gp) ∧ Blk w' gp 3 #[.int .i64 (n : Int)] := by
  have n1 := hA.len_le
  have HP := Lib.hid hp
  have HS := Lib.hid hs
  have HA := Lib.hid hA
  have HB := Lib.hid hB
  have HNE := Lib.hid hne
  have H4 := Lib.hid h4
  clear hp hs hA hB hne h4
  go_enter Tryz.func310, Tryz.ntmps310
  go_wp2_with fail
  go_loopw [4] (fun _ wr => ∃ j : Nat, p ≤ j ∧ j ≤ n ∧ w.grownBy wr (some gp) ∧ Blk wr gp 3 #[.int .i64 (j : Int)]) (fun _ wr => n - keptAt wr gp)
  case atStart => exact ⟨p, Nat.le_refl _, h1, World.grownBy.refl _ _, HP.out⟩
  case round =>
    obtain ⟨j, hj1, hj2, hg, hb⟩ := hrel
    have j0 : (0 : Int) ≤ j := by omega
    have hkm := keptAt_blk hb
    have HKM := Lib.hid hkm
    clear hkm
    have c0 : wr.cell? ⟨gp, 0, none⟩ = some (.int .i64 (j : Int)) := hb.cell 0
    have hsr : Blk wr gs 26 #[.slice a n c] := HS.out.grown hg fun e => HNE.out (Option.some.inj e).symm
    have c1 : wr.cell? ⟨gs, 0, none⟩ = some (.slice a n c) := hsr.cell 0
    by_cases hlt : j < n
    · obtain ⟨b, off, rfl, hbB⟩ := HA.out.at_ (by omega)
      have j1 : (j : Int) < n := by omega
      have c1' : (wr.setCell ⟨gp, 0, none⟩ (.int .i64 ((j : Int) + 1))).cell? ⟨gs, 0, none⟩ = some (.slice (some ⟨b, off, none⟩) n c) := (hsr.far (p := ⟨gp, 0, none⟩) (fun e => HNE.out e.symm) _).cell 0
      have hbg : b ≠ gp := by have := HB.out; omega
      have hcell : (wr.setCell ⟨gp, 0, none⟩ (.int .i64 ((j : Int) + 1))).cell? ⟨b, off + j, none⟩ = some (.int .u8 ((mkT s j : Nat) : Int)) := by
        rw [← HA.out.mk j hlt]
        have hbl : b < w.heap.size := by
          have h := HA.out.mk j hlt
          obtain ⟨o, ho, _⟩ := cells_of_cell h
          exact (Array.getElem?_eq_some_iff.1 ho).1
        have e1 : (wr.setCell ⟨gp, 0, none⟩ (.int .i64 ((j : Int) + 1))).heap[b]? = w.heap[b]? := (Below.heap_setCell wr ⟨gp, 0, none⟩ _ b hbg).trans (hg.block b hbl (fun e => hbg (Option.some.inj e)))
        exact World.cell?_of_block (a := ⟨b, off + j, none⟩) e1
      have hw : IntKind.i64.wrap ((j : Int) + 1) = (j : Int) + 1 := IntWalk.i64_in _ (by omega)
      have hg2 : w.grownBy (wr.setCell ⟨gp, 0, none⟩ (.int .i64 ((j : Int) + 1))) (some gp) := only_setCell hg (.inl rfl) _
      have hb2 := hb.set_ 0 (.int .i64 ((j : Int) + 1))
      have hb2' : Blk (wr.setCell ⟨gp, 0, none⟩ (.int .i64 ((j : Int) + 1))) gp 3 #[.int .i64 ((j + 1 : Nat) : Int)] := by
        have e : ((j + 1 : Nat) : Int) = (j : Int) + 1 := by omega
        rw [e]; exact hb2
      have hf := hb.frozen 0
      have HG2 := Lib.hid hg2
      have HB2 := Lib.hid hb2'
      clear hg hb hsr hg2 hb2 hb2' hbg
      have hz := H4.out j hj1 hlt
      obtain ⟨x, hx⟩ : ∃ x : Nat, mkT s j = x := ⟨_, rfl⟩
      rw [hx] at hcell hz
      have hzz : ((x : Int) == 0) = false := by simp; omega
      clear hx hz
      go_wp2_with fail
      go_roundw
      case rel => exact ⟨j + 1, by omega, by omega, HG2.out, HB2.out⟩
      case measure =>
        rw [keptAt_blk HB2.out, HKM.out]
        omega
    · have hjn : j = n := by omega
      rw [hjn] at c0 hb j0
      have HG2 := Lib.hid hg
      have HB2 := Lib.hid hb
      clear hg hb hsr HKM hlt hjn hj1 hj2
      go_wp2_with fail
      go_ret2
      exact ⟨rfl, HG2.out, HB2.out⟩
end Go.Proofs.YtafbidhbmfdlkaaGreatDoor
/-
  What space's calls answer: Check, Free, Take, Give, Settle.
-/
namespace Go.Proofs.YtafbidhbmfdlkaaGreatDoor
open Go.RowKit Go.Shelf
set_option maxRecDepth 100000

/-- A table of the call's own, and an error's number. -/
def OutTb (c : Nat) (x : List UInt8) (w : World) (e : Ending) (w' : World) : Prop := ∃ v, e = .returned (.tuple #[v, .int .i64 c]) ∧ w'.ownsRow w.heap.size 5 1 v x.length (vals x) ∧ Below w.heap.size w w'
/-- A table of the call's own, a block's number, and an error's number. -/
def OutTk (c : Nat) (x : List UInt8) (k : Nat) (w : World) (e : Ending) (w' : World) : Prop := ∃ v, e = .returned (.tuple #[v, .int .i64 k, .int .i64 c]) ∧ w'.ownsRow w.heap.size 5 1 v x.length (vals x) ∧ Below w.heap.size w w'
theorem MayT.len_of {w : World} {B n c : Nat} {a : Option Addr} {s : List UInt8} (h : MayT s) (hA : Bsl w B a n c s) : n = 256 := by rw [← hA.1]; exact h.1

theorem spCheck_yes (a : Option Addr) (n c B : Nat) (s : List UInt8) (w : World) (hA : Bsl w B a n c s) (h : MayT s) : Calls Tryz.prog 235 #[.slice a n c] w fun e w' => e = .returned (.int .i64 0) ∧ w = w' := by
  have HM := Lib.hid (spMay_yes a n c B s w hA h)
  clear hA h
  go_enter Tryz.func235, Tryz.ntmps235
  go_wp2_with fail
  refine HM.out.mono ?_
  rintro e w1 ⟨rfl, rfl⟩
  go_wp2_with fail
  go_ret
  exact ⟨rfl, rfl⟩
theorem spCheck_no (a : Option Addr) (n c B : Nat) (s : List UInt8) (w : World) (hA : Bsl w B a n c s) (h : ¬ MayT s) : Calls Tryz.prog 235 #[.slice a n c] w fun e w' => e = .returned (.int .i64 8) ∧ w = w' := by
  have HM := Lib.hid (spMay_no a n c B s w hA h)
  clear hA h
  go_enter Tryz.func235, Tryz.ntmps235
  go_wp2_with fail
  refine HM.out.mono ?_
  rintro e w1 ⟨rfl, rfl⟩
  go_wp2_with fail
  go_ret
  exact ⟨rfl, rfl⟩

theorem spGive_ok (a : Option Addr) (n c : Nat) (s : List UInt8) (k : Nat) (hk : 12 ≤ k) (hk2 : k < 256) (w : World) (hA : Bsl w w.heap.size a n c s) (h : MayT s) (h1 : mkT s k = 1) : Calls Tryz.prog 64 #[.slice a n c, .int .i64 k] w (OutTb 0 (s.set k 2) w) := by
  have HM := Lib.hid (spMay_yes a n c _ s w hA h)
  have hn := h.len_of hA
  subst hn
  have HW := Lib.hid (spWith_any a 256 c s k 2 w hA hk2 (by omega))
  have hl : (s.set k 2).length = 256 := by simp [h.1]
  have HL := Lib.hid hl
  obtain ⟨b, off, rfl, _⟩ := hA.at_ (by omega)
  have hc := hA.mk k hk2
  rw [h1] at hc
  have k0 : (0 : Int) ≤ k := by omega
  have k1 : (12 : Int) ≤ k := by omega
  have k2 : (k : Int) < 256 := by omega
  clear hA h h1 hl
  go_enter Tryz.func64, Tryz.ntmps64
  go_wp2_with fail
  refine HM.out.mono ?_
  rintro e w1 ⟨rfl, rfl⟩
  go_wp2_with fail
  refine HW.out.mono ?_
  rintro e w1 ⟨v, rfl, ho, b1⟩
  have HO := Lib.hid ho
  have HB := Lib.hid b1
  clear ho b1
  go_wp2_with fail
  go_ret2
  exact ⟨_, rfl, by rw [HL.out]; exact HO.out, HB.out⟩

theorem spTake_full (a : Option Addr) (n c : Nat) (s : List UInt8) (w : World) (hA : Bsl w w.heap.size a n c s) (h : MayT s) (h0 : ∀ i, i < 256 → mkT s i ≠ 0) : Calls Tryz.prog 282 #[.slice a n c] w (OutTk 9 [] 0 w) := by
  have HM := Lib.hid (spMay_yes a n c _ s w hA h)
  have hn := h.len_of hA
  subst hn
  have HF := Lib.hid (spOnes_any a 256 c w)
  have HA := Lib.hid hA
  have H0 := Lib.hid h0
  clear hA h h0
  go_enter Tryz.func282, Tryz.ntmps282
  go_wp2_with fail
  refine HM.out.mono ?_
  rintro e w1 ⟨rfl, rfl⟩
  go_wp2_with fail
  refine HF.out.mono ?_
  rintro e w1 ⟨gp, gs, rfl, hgp, hgs, hne, hp, hs, b1⟩
  have HX := Lib.hid (spNext_none gp gs w.heap.size a 256 c s 0 w1 hp hs hne (HA.out.below b1) hgp (Nat.zero_le _) fun i _ hi => H0.out i hi)
  have HB := Lib.hid b1
  have HG := Lib.hid hgp
  clear hgs hne hp hs b1 hgp
  go_wp2_with fail
  refine HX.out.mono ?_
  rintro e w2 ⟨rfl, hg, _⟩
  have HB2 := Lib.hid (below_only HB.out HG.out hg HB.out.size)
  clear hg
  go_wp2_with fail
  go_ret3
  exact ⟨_, rfl, World.ownsRow_nil _ _ _ _, HB2.out⟩
theorem spTake_ok (a : Option Addr) (n c : Nat) (s : List UInt8) (k : Nat) (w : World) (hA : Bsl w w.heap.size a n c s) (h : MayT s) (hk : k < 256) (hz : mkT s k = 0) (h0 : ∀ i, i < k → mkT s i ≠ 0) : Calls Tryz.prog 282 #[.slice a n c] w (OutTk 0 (s.set k 1) k w) := by
  have HM := Lib.hid (spMay_yes a n c _ s w hA h)
  have hn := h.len_of hA
  subst hn
  have hl : (s.set k 1).length = 256 := by simp [h.1]
  have HL := Lib.hid hl
  have HF := Lib.hid (spOnes_any a 256 c w)
  have HA := Lib.hid hA
  have H0 := Lib.hid h0
  have HZ := Lib.hid hz
  clear hA h h0 hz hl
  go_enter Tryz.func282, Tryz.ntmps282
  go_wp2_with fail
  refine HM.out.mono ?_
  rintro e w1 ⟨rfl, rfl⟩
  go_wp2_with fail
  refine HF.out.mono ?_
  rintro e w1 ⟨gp, gs, rfl, hgp, hgs, hne, hp, hs, b1⟩
  have HX := Lib.hid (spNext_some gp gs w.heap.size a 256 c s 0 k w1 hp hs hne (HA.out.below b1) hgp (Nat.zero_le _) hk HZ.out fun i _ hi => H0.out i hi)
  have HB := Lib.hid b1
  have HG := Lib.hid hgp
  clear hgs hne hp hs b1 hgp
  go_wp2_with fail
  refine HX.out.mono ?_
  rintro e w2 ⟨rfl, hg, _⟩
  have HB2 := Lib.hid (below_only HB.out HG.out hg HB.out.size)
  clear hg
  have HW := Lib.hid (spWith_any a 256 c s k 1 w2 (HA.out.step HB2.out) hk (by omega))
  go_wp2_with fail
  refine HW.out.mono ?_
  rintro e w3 ⟨v, rfl, ho, b3⟩
  have HO := Lib.hid (own_mono ho HB2.out.size)
  have HB3 := Lib.hid (HB2.out.trans (b3.mono HB2.out.size))
  clear ho b3
  go_wp2_with fail
  go_ret3
  exact ⟨_, rfl, by rw [HL.out]; exact HO.out, HB3.out⟩

set_option maxHeartbeats 1000000 in
theorem spSettle_ok (a : Option Addr) (n c : Nat) (s : List UInt8) (w : World) (hA : Bsl w w.heap.size a n c s) (h : MayT s) : Calls Tryz.prog 75 #[.slice a n c] w (OutTb 0 (settleL s) w) := by
  have HM := Lib.hid (spMay_yes a n c _ s w hA h)
  have hn := h.len_of hA
  subst hn
  have HC := Lib.hid (spClone_any a 256 c s w hA (by omega) (by omega))
  have hl : (settleL s).length = 256 := (settleL_may h).1
  have HL := Lib.hid hl
  obtain ⟨b, off, rfl, hbw⟩ := hA.at_ (by omega)
  have HA := Lib.hid hA
  clear hA h hl
  go_enter Tryz.func75, Tryz.ntmps75
  go_wp2_with fail
  refine HM.out.mono ?_
  rintro e w1 ⟨rfl, rfl⟩
  go_wp2_with fail
  refine HC.out.mono ?_
  rintro e w1 ⟨v, rfl, ho, b1⟩
  obtain ⟨g, c', rfl⟩ := own_at ho (by omega)
  have HO := Lib.hid ho
  have HB := Lib.hid b1
  clear ho b1
  go_wp2_with fail
  go_loopw [14] (fun i wr => ∃ k : Nat, k ≤ 256 ∧ i = .int .i64 k ∧ wr.ownsRow w.heap.size 5 1 (.slice (some ⟨g, 0, none⟩) 256 c') 256 (vals (stTo s k)) ∧ Below w.heap.size w wr) (fun i _ => 256 - (intOf i).toNat)
  case atStart => exact ⟨0, Nat.zero_le _, rfl, HO.out, HB.out⟩
  case round =>
    obtain ⟨k, hk, rfl, ho, hb⟩ := hrel
    have k0 : (0 : Int) ≤ k := by omega
    by_cases hlt : k < 256
    · have k1 : (k : Int) < 256 := by omega
      have hc := (HA.out.below hb).mk k hlt
      by_cases h2 : mkT s k = 2
      · rw [h2] at hc
        have hs : stTo s (k + 1) = (stTo s k).set k 0 := by rw [stTo, if_pos h2]
        have hw := own_put ho k hlt 0
        rw [← hs] at hw
        have hoc := own_mk ho k hlt
        have HB2 := Lib.hid (hb.setCell (p := ⟨g, k, none⟩) (own_lt ho).1 (.int .u8 0))
        have HO2 := Lib.hid (show (wr.setCell ⟨g, k, none⟩ (.int .u8 0)).ownsRow w.heap.size 5 1 (.slice (some ⟨g, 0, none⟩) 256 c') 256 (vals (stTo s (k + 1))) from hw)
        have hf : wr.frozen? ⟨g, k, none⟩ = false := by
          obtain ⟨cs, hbk⟩ := own_blk ho
          exact hbk.frozen k
        clear ho hb hw hs h2
        go_wp2_with fail
        go_roundw
        case rel => exact ⟨k + 1, by omega, by go_num, HO2.out, HB2.out⟩
        case measure => simp [intOf]; omega
      · have hs : stTo s (k + 1) = stTo s k := by rw [stTo, if_neg h2]
        obtain ⟨x, hx⟩ : ∃ x : Nat, mkT s k = x := ⟨_, rfl⟩
        rw [hx] at hc h2
        have e2 : ((x : Int) == 2) = false := by simp; omega
        rw [← hs] at ho
        have HB2 := Lib.hid hb
        have HO2 := Lib.hid ho
        clear ho hb hs h2 hx
        go_wp2_with fail
        go_roundw
        case rel => exact ⟨k + 1, by omega, by go_num, HO2.out, HB2.out⟩
        case measure => simp [intOf]; omega
    · have hkk : k = 256 := by omega
      rw [hkk] at ho
      have HO2 := Lib.hid ho
      have HB2 := Lib.hid hb
      have k3 : (256 : Int) ≤ k := by omega
      clear ho hb hkk hlt hk
      go_wp2_with fail
      go_ret2
      exact ⟨_, rfl, by rw [HL.out]; exact HO2.out, HB2.out⟩
end Go.Proofs.YtafbidhbmfdlkaaGreatDoor
/-
  space.Free: all free blocks, rising.
-/
namespace Go.Proofs.YtafbidhbmfdlkaaGreatDoor
open Go.RowKit Go.Shelf
set_option maxRecDepth 100000

/-- What the loop of Free knows: the next free block lies at k, or there is none any more. -/
def FreeI (s : List UInt8) (B0 w : World) (gp gs : Nat) (sl : Value) (v x ok : Value) (wr : World) : Prop :=
  Below w.heap.size w wr ∧ B0.heap.size ≤ wr.heap.size ∧ Blk wr gs 26 #[sl] ∧
    ((∃ k : Nat, k < 256 ∧ mkT s k = 0 ∧ x = .int .i64 k ∧ ok = .bool true ∧ Blk wr gp 3 #[.int .i64 ((k + 1 : Nat) : Int)] ∧ wr.ownsRow B0.heap.size 3 1 v (freeTo s k).length (valsN (freeTo s k))) ∨
     (x = .int .i64 0 ∧ ok = .bool false ∧ wr.ownsRow B0.heap.size 3 1 v (freeTo s 256).length (valsN (freeTo s 256))))
/-- Behind a call of the closure. -/
theorem FreeI.next {s : List UInt8} {B0 w wr w2 : World} {gp gs p : Nat} {sl v : Value} (hb : Below w.heap.size w wr) (hB : B0.heap.size ≤ wr.heap.size) (hs : Blk wr gs 26 #[sl]) (hne : gp ≠ gs) (hgp : w.heap.size ≤ gp) (hgB : gp < B0.heap.size) (ho : wr.ownsRow B0.heap.size 3 1 v (freeTo s p).length (valsN (freeTo s p)))
    (hg : wr.grownBy w2 (some gp)) : Below w.heap.size w w2 ∧ B0.heap.size ≤ w2.heap.size ∧ Blk w2 gs 26 #[sl] ∧ w2.ownsRow B0.heap.size 3 1 v (freeTo s p).length (valsN (freeTo s p)) :=
  ⟨below_only hb hgp hg hb.size, Nat.le_trans hB hg.size, hs.grown hg (fun e => hne (Option.some.inj e).symm), own_other ho hg fun k hk => by have := (ho.lt k hk).1; omega⟩
end Go.Proofs.YtafbidhbmfdlkaaGreatDoor
/-
  The document's own functions of layer 13: May, Check, Great.
-/
namespace Go.Proofs.YtafbidhbmfdlkaaGreatDoor
open Go.RowKit Go.Shelf
set_option maxRecDepth 100000

theorem st_box (w : World) (x : SAt) (S : StL) : Blk (w.alloc (.cells (stC x S) 29)) w.heap.size 29 (stC x S) ∧ Below w.heap.size w (w.alloc (.cells (stC x S) 29)) := ⟨Blk.new w _ _, (Below.refl _ w).alloc (Nat.le_refl _) _⟩
section
variable {w : World} {g : Nat} {t : TypeId} {x : SAt} {S : StL}
theorem stC0 (h : Blk w g t (stC x S)) : w.cell? ⟨g, 0, none⟩ = some (.slice x.d.ba S.1.1.length x.d.bc) := h.cell 0
theorem stC1 (h : Blk w g t (stC x S)) : w.cell? ⟨g, 1, none⟩ = some (.slice x.d.wa S.1.2.length x.d.wc) := h.cell 1
theorem stC2 (h : Blk w g t (stC x S)) : w.cell? ⟨g, 2, none⟩ = some (.slice x.a S.2.1.length x.c) := h.cell 2
theorem stC3 (h : Blk w g t (stC x S)) : w.cell? ⟨g, 3, none⟩ = some (.int .u32 (S.2.2.1 : Int)) := h.cell 3
theorem stC4 (h : Blk w g t (stC x S)) : w.cell? ⟨g, 4, none⟩ = some (.int .u32 (S.2.2.2 : Int)) := h.cell 4
end
end Go.Proofs.YtafbidhbmfdlkaaGreatDoor
/-
  dev.Same tells whether all fields of two disks are the same.
-/
namespace Go.Proofs.YtafbidhbmfdlkaaGreatDoor
open Go.RowKit Go.Shelf
set_option maxRecDepth 100000

theorem dEqual_any (a : Option Addr) (la ca : Nat) (s : List UInt8) (b : Option Addr) (lb cb : Nat) (t : List UInt8) (A B : Nat) (w : World) (hA : Bsl w A a la ca s) (hB : Bsl w B b lb cb t) (r : Bool) (hr : r = true ↔ s = t) :
    Calls Tryz.prog 82 #[.slice a la ca, .slice b lb cb] w fun e w' => e = .returned (.bool r) ∧ w = w' := by
  have c1 := hA.conv
  have c2 := hB.conv
  have eq : ((strOf s).toList == (strOf t).toList) = r := by
    rw [strOf_toList, strOf_toList]
    cases r with
    | true => simp [hr.1 rfl]
    | false =>
      have : s ≠ t := fun h => by have := hr.2 h; cases this
      simp [this]
  have HE := Lib.hid eq; clear eq hA hB hr
  go_enter Tryz.func82, Tryz.ntmps82
  go_wp2_with fail
  go_ret
  exact ⟨by rw [← HE.out]; rfl, rfl⟩
end Go.Proofs.YtafbidhbmfdlkaaGreatDoor
/-
  The document's own functions of layer 13: New, Twin, Same.
-/
namespace Go.Proofs.YtafbidhbmfdlkaaGreatDoor
open Go.RowKit Go.Shelf
set_option maxRecDepth 100000

/-- The cells of a store that is none. -/
abbrev stZ : Array Value := #[.slice none 0 0, .slice none 0 0, .slice none 0 0, .int .u32 0, .int .u32 0]
/-- The cells of a pointer that is none. -/
abbrev ptZ : Array Value := #[.int .i64 0, .int .u32 0, .int .u32 0, .int .u32 0, .int .u32 0]
theorem two_al (w : World) (a b : Array Value) (s t : TypeId) : ∃ w0, (w.alloc (.cells a s)).alloc (.cells b t) = w0 ∧ Below w.heap.size w w0 ∧ w0.heap.size = w.heap.size + 2 ∧ Blk w0 w.heap.size s a ∧ Blk w0 (w.heap.size + 1) t b := by
  refine ⟨_, rfl, ((Below.refl _ w).alloc (Nat.le_refl _) _).alloc (by simp) _, by simp, (Blk.new w s a).alloc _, ?_⟩
  have h := Blk.new (w.alloc (.cells a s)) t b
  rw [World.size_alloc] at h
  exact h
theorem three_al (w : World) (a b c : Array Value) (s t u : TypeId) : ∃ w0, ((w.alloc (.cells a s)).alloc (.cells b t)).alloc (.cells c u) = w0 ∧ Below w.heap.size w w0 ∧ w0.heap.size = w.heap.size + 3 ∧ Blk w0 w.heap.size s a ∧ Blk w0 (w.heap.size + 1) t b ∧ Blk w0 (w.heap.size + 2) u c := by
  obtain ⟨w1, h1, b1, z1, x1, y1⟩ := two_al w a b s t
  rw [h1]
  have h := Blk.new w1 u c
  rw [z1] at h
  exact ⟨_, rfl, b1.trans (((Below.refl _ w1).alloc (Nat.le_refl _) _).mono b1.size), by simp [z1], x1.alloc _, y1.alloc _, h⟩
section
variable {w : World} {g : Nat} {t : TypeId}
theorem stZ0 (h : Blk w g t stZ) : w.cell? ⟨g, 0, none⟩ = some (.slice none 0 0) := h.cell 0
theorem stZ1 (h : Blk w g t stZ) : w.cell? ⟨g, 1, none⟩ = some (.slice none 0 0) := h.cell 1
theorem stZ2 (h : Blk w g t stZ) : w.cell? ⟨g, 2, none⟩ = some (.slice none 0 0) := h.cell 2
theorem stZ3 (h : Blk w g t stZ) : w.cell? ⟨g, 3, none⟩ = some (.int .u32 0) := h.cell 3
theorem stZ4 (h : Blk w g t stZ) : w.cell? ⟨g, 4, none⟩ = some (.int .u32 0) := h.cell 4
theorem ptZ0 (h : Blk w g t ptZ) : w.cell? ⟨g, 0, none⟩ = some (.int .i64 0) := h.cell 0
theorem ptZ1 (h : Blk w g t ptZ) : w.cell? ⟨g, 1, none⟩ = some (.int .u32 0) := h.cell 1
theorem ptZ2 (h : Blk w g t ptZ) : w.cell? ⟨g, 2, none⟩ = some (.int .u32 0) := h.cell 2
theorem ptZ3 (h : Blk w g t ptZ) : w.cell? ⟨g, 3, none⟩ = some (.int .u32 0) := h.cell 3
theorem ptZ4 (h : Blk w g t ptZ) : w.cell? ⟨g, 4, none⟩ = some (.int .u32 0) := h.cell 4
end
/-- Cells of a box are written: it stays a box, and what lasts lasts. -/
theorem box_two {L B g : Nat} {a w : World} {t : TypeId} {c0 c1 c2 c3 c4 : Value} (h : Blk w g t #[c0, c1, c2, c3, c4]) (ht : rowT t = false) (hL : L ≤ g) (hB : Below B a w) (hg : B ≤ g) (u v : Value) :
    Blk ((w.setCell ⟨g, 0, none⟩ u).setCell ⟨g, 1, none⟩ v) g t #[u, v, c2, c3, c4] ∧ Keeps L w ((w.setCell ⟨g, 0, none⟩ u).setCell ⟨g, 1, none⟩ v) ∧ Below B a ((w.setCell ⟨g, 0, none⟩ u).setCell ⟨g, 1, none⟩ v) :=
  ⟨(h.set_ 0 u).set_ 1 v, Keeps.of_box (only_two w g u v) h ht hL, (hB.setCell (p := ⟨g, 0, none⟩) hg u).setCell (p := ⟨g, 1, none⟩) hg v⟩
theorem box_at {L B g : Nat} {a w : World} {t : TypeId} {cs : Array Value} (h : Blk w g t cs) (ht : rowT t = false) (hL : L ≤ g) (hB : Below B a w) (hg : B ≤ g) (i : Nat) (u : Value) :
    Blk (w.setCell ⟨g, i, none⟩ u) g t (cs.setIfInBounds i u) ∧ Keeps L w (w.setCell ⟨g, i, none⟩ u) ∧ Below B a (w.setCell ⟨g, i, none⟩ u) :=
  ⟨h.set_ i u, Keeps.of_box (only_setCell (World.grownBy.refl w (some g)) (.inl rfl) u) h ht hL, hB.setCell (p := ⟨g, i, none⟩) hg u⟩
theorem box_five {L B g : Nat} {a w : World} {t : TypeId} {c0 c1 c2 c3 c4 : Value} (h : Blk w g t #[c0, c1, c2, c3, c4]) (ht : rowT t = false) (hL : L ≤ g) (hB : Below B a w) (hg : B ≤ g) (v0 v1 v2 v3 v4 : Value) :
    Blk (set5 w g v0 v1 v2 v3 v4) g t #[v0, v1, v2, v3, v4] ∧ Keeps L w (set5 w g v0 v1 v2 v3 v4) ∧ Below B a (set5 w g v0 v1 v2 v3 v4) :=
  ⟨h.set5 v0 v1 v2 v3 v4, Keeps.of_box (only_set5 (World.grownBy.refl w (some g)) v0 v1 v2 v3 v4) h ht hL, below_set5 hB hg v0 v1 v2 v3 v4⟩
section
variable {w : World} {g : Nat} {t : TypeId} {c0 c1 c2 c3 c4 : Value}
theorem bx0 (h : Blk w g t #[c0, c1, c2, c3, c4]) : w.cell? ⟨g, 0, none⟩ = some c0 := h.cell 0
theorem bx1 (h : Blk w g t #[c0, c1, c2, c3, c4]) : w.cell? ⟨g, 1, none⟩ = some c1 := h.cell 1
theorem bx2 (h : Blk w g t #[c0, c1, c2, c3, c4]) : w.cell? ⟨g, 2, none⟩ = some c2 := h.cell 2
theorem bx3 (h : Blk w g t #[c0, c1, c2, c3, c4]) : w.cell? ⟨g, 3, none⟩ = some c3 := h.cell 3
theorem bx4 (h : Blk w g t #[c0, c1, c2, c3, c4]) : w.cell? ⟨g, 4, none⟩ = some c4 := h.cell 4
end
end Go.Proofs.YtafbidhbmfdlkaaGreatDoor
/-
  Stores of one's own whose bytes are turned: what is written, and what goes on; law 13's spoil.
-/
namespace Go.Proofs.YtafbidhbmfdlkaaGreatDoor
open Go.RowKit Go.Shelf
set_option maxRecDepth 100000

/-- Bytes of blocks from B on are turned, and nothing else. -/
structure Spoils (B : Nat) (w w' : World) : Prop where
  below : Below B w w'
  box : ∀ b t cs, Blk w b t cs → t ≠ 5 → Blk w' b t cs
  row : ∀ b cs, Blk w b 5 cs → ∃ cs', Blk w' b 5 cs' ∧ ∀ (j : Nat) (z : Int), cs[j]? = some (Value.int .u8 z) → ∃ z', cs'[j]? = some (Value.int .u8 z')
theorem Spoils.refl (B : Nat) (w : World) : Spoils B w w := ⟨Below.refl _ _, fun _ _ _ h _ => h, fun _ cs h => ⟨cs, h, fun _ z hz => ⟨z, hz⟩⟩⟩
theorem Spoils.trans {B : Nat} {a b c : World} (h : Spoils B a b) (k : Spoils B b c) : Spoils B a c :=
  ⟨h.below.trans k.below, fun i t cs hi ht => k.box i t cs (h.box i t cs hi ht) ht, fun i cs hi => by
    obtain ⟨cs1, h1, h2⟩ := h.row i cs hi
    obtain ⟨cs2, h3, h4⟩ := k.row i cs1 h1
    exact ⟨cs2, h3, fun j z hz => by obtain ⟨z1, hz1⟩ := h2 j z hz; exact h4 j z1 hz1⟩⟩
theorem Spoils.of_below {B : Nat} {w w' : World} (h : Below w.heap.size w w') (hB : B ≤ w.heap.size) : Spoils B w w' :=
  ⟨h.mono hB, fun _ _ _ hb _ => hb.below h hb.lt, fun _ cs hb => ⟨cs, hb.below h hb.lt, fun _ z hz => ⟨z, hz⟩⟩⟩
theorem Spoils.less {B B' : Nat} {w w' : World} (h : Spoils B w w') (hB : B' ≤ B) : Spoils B' w w' := ⟨h.below.mono hB, h.box, h.row⟩
/-- Bytes of one's own. -/
def Piece (w : World) (B : Nat) (A : Option Addr) (l : Nat) : Prop := l = 0 ∨ ∃ b off cs, A = some ⟨b, off, none⟩ ∧ B ≤ b ∧ Blk w b 5 cs ∧ ∀ j, j < l → ∃ z, cs[off + j]? = some (.int .u8 z)
theorem Piece.at_ {w : World} {B : Nat} {A : Option Addr} {l : Nat} (h : Piece w B A l) {j : Nat} (hj : j < l) : ∃ b off cs z, A = some ⟨b, off, none⟩ ∧ B ≤ b ∧ Blk w b 5 cs ∧ w.cell? ⟨b, off + j, none⟩ = some (.int .u8 z) := by
  rcases h with h | ⟨b, off, cs, e, hB, hb, hc⟩
  · omega
  · obtain ⟨z, hz⟩ := hc j hj
    exact ⟨b, off, cs, z, e, hB, hb, by rw [hb.cell]; exact hz⟩
/-- A row of slices of bytes of one's own: the row is in a block of its own, and so are all the bytes; st: how far a slice lies from the next one, at: where in it. -/
def Rows9 (w : World) (B : Nat) (a : Option Addr) (n : Nat) (t : TypeId) (st at_ : Nat) (L : Nat → Nat) : Prop :=
  n = 0 ∨ ∃ b off cs, a = some ⟨b, off, none⟩ ∧ Blk w b t cs ∧ ∀ i, i < n → ∃ A c, cs[off + i * st + at_]? = some (.slice A (L i) c) ∧ Piece w B A (L i)
theorem Rows9.at_ {w : World} {B : Nat} {a : Option Addr} {n : Nat} {t : TypeId} {st q : Nat} {L : Nat → Nat} (h : Rows9 w B a n t st q L) {i : Nat} (hi : i < n) : ∃ b off A c, a = some ⟨b, off, none⟩ ∧ w.cell? ⟨b, off + i * st + q, none⟩ = some (.slice A (L i) c) ∧ Piece w B A (L i) := by
  rcases h with h | ⟨b, off, cs, e, hb, hc⟩
  · omega
  · obtain ⟨A, c, h1, h2⟩ := hc i hi
    exact ⟨b, off, A, c, e, by rw [hb.cell]; exact h1, h2⟩
/-- A store of one's own: all its bytes lie from block B on. -/
def HiS (w : World) (B : Nat) (x : SAt) (S : StL) : Prop :=
  Rows9 w B x.d.ba S.1.1.length 26 1 0 (fun i => (S.1.1.getD i []).length) ∧ Rows9 w B x.d.wa S.1.2.length 53 2 1 (fun i => (wr_ S.1.2 i).2.length) ∧ Piece w B x.a S.2.1.length
end Go.Proofs.YtafbidhbmfdlkaaGreatDoor
/-
  Disks that are laid in one new piece, and rows of one's own, are one's own: all their bytes may be turned.
-/
namespace Go.Proofs.YtafbidhbmfdlkaaGreatDoor
open Go.RowKit Go.Shelf
set_option maxRecDepth 100000

theorem piece_own {w : World} {B n c : Nat} {a : Option Addr} {s : List UInt8} (h : w.ownsRow B 5 1 (.slice a n c) n (vals s)) : Piece w B a n := by
  rcases Nat.eq_zero_or_pos n with h0 | h0
  · exact .inl h0
  · obtain ⟨g, c', e⟩ := own_at h h0
    cases e
    obtain ⟨cs, hcs⟩ := own_blk h
    refine .inr ⟨g, 0, cs, rfl, (own_lt h).1, hcs, fun j hj => ⟨(mkT s j : Nat), ?_⟩⟩
    rw [Nat.zero_add, ← hcs.cell]
    exact own_mk h j hj
theorem laid_hi {w : World} {lo : Nat} {x : DAt} {D : DkL} (h : Laid w lo x D) :
    Rows9 w lo x.ba D.1.length 26 1 0 (fun i => (D.1.getD i []).length) ∧ Rows9 w lo x.wa D.2.length 53 2 1 (fun i => (wr_ D.2 i).2.length) := by
  obtain ⟨g, hb, hw, rfl, k1, k2, k3, h1, h2, h3, h4, h5, ⟨cb, h6, h7, h8⟩, cw, h9, h10, h11⟩ := h
  have hst : startP (pieces D) (D.1.length + D.2.length) = sumD D := startP_sumD D
  have hpc : ∀ i v, i < D.1.length + D.2.length → PieceV g (pieces D) i v → ∃ A c, v = .slice A ((pieces D).getD i []).length c ∧ Piece w lo A ((pieces D).getD i []).length := by
    rintro i v hi ⟨o, e, ho⟩
    refine ⟨_, _, e, ?_⟩
    rcases Nat.eq_zero_or_pos ((pieces D).getD i []).length with h0 | h0
    · exact .inl h0
    · have hs := startP_succ (P := pieces D) (k := i) (by rw [pieces_length]; exact hi)
      have hm := startP_mono (P := pieces D) (show i + 1 ≤ D.1.length + D.2.length by omega)
      have ho' := ho h0
      refine .inr ⟨g, o, _, rfl, k1, h5, fun j hj => ?_⟩
      have hlt : o + j < (roomP (pieces D) (sumD D) (D.1.length + D.2.length)).length := by
        rw [roomP_length (by rw [hst]; exact Nat.le_refl _)]
        omega
      exact ⟨_, ar_get _ _ hlt⟩
  refine ⟨.inr ⟨hb, 0, cb, rfl, h6, fun i hi => ?_⟩, .inr ⟨hw, 0, cw, rfl, h9, fun i hi => ?_⟩⟩
  · obtain ⟨v, e1, e2⟩ := h8 i hi
    obtain ⟨A, c, rfl, hp⟩ := hpc i v (by omega) e2
    rw [pieces_left hi] at e1 hp
    exact ⟨A, c, by simpa using e1, hp⟩
  · obtain ⟨_, v, e1, e2⟩ := h11 i hi
    obtain ⟨A, c, rfl, hp⟩ := hpc (D.1.length + i) v (by omega) e2
    rw [pieces_right hi] at e1 hp
    exact ⟨A, c, by simpa using e1, hp⟩
theorem outD_hi {w : World} {lo : Nat} {x : DAt} {D : DkL} (h : OutD w lo x D) :
    Rows9 w lo x.ba D.1.length 26 1 0 (fun i => (D.1.getD i []).length) ∧ Rows9 w lo x.wa D.2.length 53 2 1 (fun i => (wr_ D.2 i).2.length) := by
  rcases h with ⟨rfl, rfl⟩ | h
  · exact ⟨.inl rfl, .inl rfl⟩
  · exact laid_hi h
end Go.Proofs.YtafbidhbmfdlkaaGreatDoor
/-
  What the program's own calls on stores answer: a store of one's own (all its bytes in new blocks), which lasts; with a pointer, with an error's number.
-/
namespace Go.Proofs.YtafbidhbmfdlkaaGreatDoor
open Go.RowKit Go.Shelf
set_option maxRecDepth 100000

/-- What is asked of a store that the program is handed: it is not great. -/
def OkS (S : StL) : Prop := Fits S.1 ∧ S.2.1.length ≤ 20000 ∧ WfS S
theorem MayS.ok {S : StL} (h : MayS S) : OkS S := ⟨may_fits h.1, by rw [h.2.1.1]; omega, by have := h.2.2.1.2; omega, by have := h.2.2.2; omega⟩
/-- A store of one's own. -/
def NewS (S : StL) (w : World) (e : Ending) (w' : World) : Prop := ∃ y, e = .returned (stV y S) ∧ StP 0 w' y S ∧ HiS w' w.heap.size y S ∧ Below w.heap.size w w'
/-- A store of one's own, a pointer, an error's number. -/
def NewSP (o : StL × Pt × Nat) (w : World) (e : Ending) (w' : World) : Prop := ∃ y, e = .returned (.tuple #[stV y o.1, ptV o.2.1, .int .i64 o.2.2]) ∧ StP 0 w' y o.1 ∧ HiS w' w.heap.size y o.1 ∧ Below w.heap.size w w'
theorem StP.any {L : Nat} {w : World} {x : SAt} {S : StL} (h : StP 0 w x S) : StP L w x S := h.less (Nat.zero_le _)
/-- The new store. -/
abbrev newS : StL := (newD, newTo 12, 1, 0)
theorem newS_may : MayS newS := ⟨newD_may, new_may, ⟨Nat.le_refl _, by show 1 ≤ 65535; omega⟩, Nat.zero_le _⟩
theorem laid_keeps3 {L lo : Nat} {w w' : World} {x : DAt} {D : DkL} (h : Laid w lo x D) (k : Keeps3 L w w') : Laid w' lo x D := by
  obtain ⟨g, hb, hw, rfl, h0, h1, h2, h3, h4, h5, h6, h7, ⟨cb, h8, h9, h10⟩, cw, h11, h12, h13⟩ := h
  exact ⟨g, hb, hw, rfl, h0, h1, h2, h3, h4, h5, h6, k.row _ _ _ h7 (by decide), ⟨cb, k.row _ _ _ h8 (by decide), h9, h10⟩, cw, k.row _ _ _ h11 (by decide), h12, h13⟩
theorem outD_keeps3 {L lo : Nat} {w w' : World} {x : DAt} {D : DkL} (h : OutD w lo x D) (k : Keeps3 L w w') : OutD w' lo x D := h.imp id fun h => laid_keeps3 h k
theorem outD_keeps {L lo : Nat} {w w' : World} {x : DAt} {D : DkL} (h : OutD w lo x D) (k : Keeps L w w') : OutD w' lo x D := outD_keeps3 h k.to3
theorem outD_lasts {lo : Nat} {w : World} {x : DAt} {D : DkL} (h : OutD w lo x D) (L : Nat) : Lasts L w fun W => Dsk W W.heap.size x D := fun _ k => (outD_keeps3 h k).dsk
end Go.Proofs.YtafbidhbmfdlkaaGreatDoor
/-
  Store's own: isUpTo, isKey, mayBe, Check; nothing that was there is written.
-/
namespace Go.Proofs.YtafbidhbmfdlkaaGreatDoor
open Go.RowKit Go.Shelf
set_option maxRecDepth 100000

theorem stUpTo_any (n : Nat) (m : Int) (r : Bool) (hr : r = true ↔ (1 ≤ n ∧ (n : Int) ≤ m)) (w : World) : Calls Tryz.prog 236 #[.int .u32 (n : Int), .int .u32 m] w fun e w' => e = .returned (.bool r) ∧ w = w' := by
  by_cases h : 1 ≤ n
  · have i1 : (1 : Int) ≤ (n : Int) := by omega
    by_cases h2 : (n : Int) ≤ m
    · obtain rfl : r = true := hr.2 ⟨h, h2⟩
      clear hr h
      go_enter Tryz.func236, Tryz.ntmps236
      go_wp2_with fail
      go_ret
      exact ⟨rfl, rfl⟩
    · obtain rfl : r = false := by cases r with | false => rfl | true => exact absurd (hr.1 rfl) (fun hh => h2 hh.2)
      clear hr h
      go_enter Tryz.func236, Tryz.ntmps236
      go_wp2_with fail
      go_ret
      exact ⟨rfl, rfl⟩
  · have i1 : ¬ (1 : Int) ≤ (n : Int) := by omega
    obtain rfl : r = false := by cases r with | false => rfl | true => exact absurd (hr.1 rfl) (fun hh => h hh.1)
    clear hr h
    go_enter Tryz.func236, Tryz.ntmps236
    go_wp2_with fail
    go_ret
    exact ⟨rfl, rfl⟩
set_option maxHeartbeats 2000000 in
theorem stMayBe_any (L : Nat) (x : SAt) (S : StL) (w : World) (h : StP L w x S) (R : Bool) (hR : R = true ↔ MayS S) : Calls Tryz.prog 169 #[stV x S] w fun e w' => e = .returned (.bool R) ∧ Below w.heap.size w w' := by
  obtain ⟨xb, b0⟩ := st_box w x S
  obtain ⟨w0, hw0⟩ : ∃ w0, w.alloc (.cells (stC x S) 29) = w0 := ⟨_, rfl⟩
  rw [hw0] at xb b0
  have h0 := h.bel b0
  have c0 := stC0 xb
  have c1 := stC1 xb
  have HX := Lib.hid xb
  have HB := Lib.hid b0
  have HS := Lib.hid h0
  have hm := dCheck_any x.d S.1 w0 h0.now.1
  simp only [dval] at hm
  simp only [stC] at hw0
  clear h h0 xb b0
  have n3 : (0 : Int) ≤ (S.2.2.2 : Int) := by omega
  have n4 : (0 : Int) ≤ (S.2.2.1 : Int) := by omega
  by_cases hd : MayD S.1
  · rw [show checkO S.1 = 0 by unfold checkO; rw [if_pos hd]] at hm
    have HM2 := Lib.hid hm
    clear hm
    by_cases ht : MayT S.2.1
    · by_cases e1 : 1 ≤ S.2.2.1 ∧ S.2.2.1 ≤ 65535
      · have HU := Lib.hid (fun W => stUpTo_any S.2.2.1 65535 true ⟨fun _ => ⟨e1.1, by omega⟩, fun _ => rfl⟩ W)
        by_cases e3 : S.2.2.2 ≤ 65535
        · have n2 : (S.2.2.2 : Int) ≤ 65535 := by omega
          obtain rfl : R = true := hR.2 ⟨hd, ht, e1, e3⟩
          clear hR e1 e3 hd
          go_enter Tryz.func169, Tryz.ntmps169
          go_wp2_with fail
          clear c0 c1
          refine HM2.out.mono ?_
          rintro e w1 ⟨rfl, b1⟩
          have x1 := HX.out.below b1 HX.out.lt
          have c2 := stC2 x1
          have c3 := stC3 x1
          have c4 := stC4 x1
          have HC := Lib.hid (spCheck_yes x.a S.2.1.length x.c _ S.2.1 w1 (HS.out.bel b1).now.2 ht)
          have HB1 := Lib.hid (HB.out.trans (b1.mono HB.out.size))
          clear b1 x1 ht
          go_wp2_with fail
          refine HC.out.mono ?_
          rintro e w2 ⟨rfl, rfl⟩
          go_wp2_with fail
          refine (HU.out w1).mono ?_
          rintro e w2 ⟨rfl, rfl⟩
          go_wp2_with fail
          go_ret
          exact ⟨rfl, HB1.out⟩
        · have n2 : ¬ (S.2.2.2 : Int) ≤ 65535 := by omega
          obtain rfl : R = false := by cases R with | false => rfl | true => exact absurd (hR.1 rfl) (fun hh => e3 hh.2.2.2)
          clear hR e1 e3 hd
          go_enter Tryz.func169, Tryz.ntmps169
          go_wp2_with fail
          clear c0 c1
          refine HM2.out.mono ?_
          rintro e w1 ⟨rfl, b1⟩
          have x1 := HX.out.below b1 HX.out.lt
          have c2 := stC2 x1
          have c3 := stC3 x1
          have c4 := stC4 x1
          have HC := Lib.hid (spCheck_yes x.a S.2.1.length x.c _ S.2.1 w1 (HS.out.bel b1).now.2 ht)
          have HB1 := Lib.hid (HB.out.trans (b1.mono HB.out.size))
          clear b1 x1 ht
          go_wp2_with fail
          refine HC.out.mono ?_
          rintro e w2 ⟨rfl, rfl⟩
          go_wp2_with fail
          refine (HU.out w1).mono ?_
          rintro e w2 ⟨rfl, rfl⟩
          go_wp2_with fail
          go_ret
          exact ⟨by simp; omega, HB1.out⟩
      · have HU := Lib.hid (fun W => stUpTo_any S.2.2.1 65535 false ⟨fun h => (by cases h), fun h => absurd (show 1 ≤ S.2.2.1 ∧ S.2.2.1 ≤ 65535 by omega) e1⟩ W)
        obtain rfl : R = false := by cases R with | false => rfl | true => exact absurd (hR.1 rfl) (fun hh => e1 hh.2.2.1)
        clear hR e1 hd
        go_enter Tryz.func169, Tryz.ntmps169
        go_wp2_with fail
        clear c0 c1
        refine HM2.out.mono ?_
        rintro e w1 ⟨rfl, b1⟩
        have x1 := HX.out.below b1 HX.out.lt
        have c2 := stC2 x1
        have c3 := stC3 x1
        have c4 := stC4 x1
        have HC := Lib.hid (spCheck_yes x.a S.2.1.length x.c _ S.2.1 w1 (HS.out.bel b1).now.2 ht)
        have HB1 := Lib.hid (HB.out.trans (b1.mono HB.out.size))
        clear b1 x1 ht
        go_wp2_with fail
        refine HC.out.mono ?_
        rintro e w2 ⟨rfl, rfl⟩
        go_wp2_with fail
        refine (HU.out w1).mono ?_
        rintro e w2 ⟨rfl, rfl⟩
        go_wp2_with fail
        go_ret
        exact ⟨rfl, HB1.out⟩
    · obtain rfl : R = false := by cases R with | false => rfl | true => exact absurd (hR.1 rfl) (fun hh => ht hh.2.1)
      clear hR hd
      go_enter Tryz.func169, Tryz.ntmps169
      go_wp2_with fail
      clear c0 c1
      refine HM2.out.mono ?_
      rintro e w1 ⟨rfl, b1⟩
      have x1 := HX.out.below b1 HX.out.lt
      have c2 := stC2 x1
      have c3 := stC3 x1
      have c4 := stC4 x1
      have HC := Lib.hid (spCheck_no x.a S.2.1.length x.c _ S.2.1 w1 (HS.out.bel b1).now.2 ht)
      have HB1 := Lib.hid (HB.out.trans (b1.mono HB.out.size))
      clear b1 x1 ht
      go_wp2_with fail
      refine HC.out.mono ?_
      rintro e w2 ⟨rfl, rfl⟩
      go_wp2_with fail
      go_ret
      exact ⟨rfl, HB1.out⟩
  · rw [show checkO S.1 = 8 by unfold checkO; rw [if_neg hd]] at hm
    have HM2 := Lib.hid hm
    clear hm
    obtain rfl : R = false := by cases R with | false => rfl | true => exact absurd (hR.1 rfl) (fun hh => hd hh.1)
    clear hR hd
    go_enter Tryz.func169, Tryz.ntmps169
    go_wp2_with fail
    clear c0 c1
    refine HM2.out.mono ?_
    rintro e w1 ⟨rfl, b1⟩
    have HB1 := Lib.hid (HB.out.trans (b1.mono HB.out.size))
    clear b1
    go_wp2_with fail
    go_ret
    exact ⟨rfl, HB1.out⟩
theorem stCheck_all (L : Nat) (x : SAt) (S : StL) (w : World) (h : StP L w x S) (_hL : L ≤ w.heap.size) (c : Nat) (hc : (MayS S → c = 0) ∧ (¬ MayS S → c = 8)) : Calls Tryz.prog 99 #[stV x S] w fun e w' => e = .returned (.int .i64 c) ∧ Below w.heap.size w w' := by
  obtain ⟨xb, b0⟩ := st_box w x S
  obtain ⟨w0, hw0⟩ : ∃ w0, w.alloc (.cells (stC x S) 29) = w0 := ⟨_, rfl⟩
  rw [hw0] at xb b0
  have c0 := stC0 xb
  have c1 := stC1 xb
  have c2 := stC2 xb
  have c3 := stC3 xb
  have c4 := stC4 xb
  have HB := Lib.hid b0
  have HMY := fun R hR => stMayBe_any L x S w0 (h.bel b0) R hR
  simp only [stC] at hw0
  clear h xb b0
  by_cases hm : MayS S
  · obtain rfl : c = 0 := hc.1 hm
    have HM := Lib.hid (HMY true ⟨fun _ => hm, fun _ => rfl⟩)
    clear HMY hc hm
    go_enter Tryz.func99, Tryz.ntmps99
    go_wp2_with fail
    refine HM.out.mono ?_
    rintro e w1 ⟨rfl, b1⟩
    have HB1 := Lib.hid (HB.out.trans (b1.mono HB.out.size))
    clear b1 c0 c1 c2 c3 c4
    go_wp2_with fail
    go_ret
    exact ⟨rfl, HB1.out⟩
  · obtain rfl : c = 8 := hc.2 hm
    have HM := Lib.hid (HMY false ⟨fun h => (by cases h), fun h => absurd h hm⟩)
    clear HMY hc hm
    go_enter Tryz.func99, Tryz.ntmps99
    go_wp2_with fail
    refine HM.out.mono ?_
    rintro e w1 ⟨rfl, b1⟩
    have HB1 := Lib.hid (HB.out.trans (b1.mono HB.out.size))
    clear b1 c0 c1 c2 c3 c4
    go_wp2_with fail
    go_ret
    exact ⟨rfl, HB1.out⟩
end Go.Proofs.YtafbidhbmfdlkaaGreatDoor
/-
  Two arrays of four words are compared as one: equal just where each word is.
-/
namespace Go.Proofs.YtafbidhbmfdlkaaGreatDoor
open Go.RowKit Go.Shelf
set_option maxRecDepth 100000

theorem z22 (w : World) : (Go.sizeOf 27).run Tryz.prog w = .ok 1 w := by kernel_rfl
end Go.Proofs.YtafbidhbmfdlkaaGreatDoor
/-
  The document's own Seen, Look, Opened and Open of layer 13.
-/
namespace Go.Proofs.YtafbidhbmfdlkaaGreatDoor
open Go.RowKit Go.Shelf
set_option maxRecDepth 100000

/-- The cells of a pointer. -/
abbrev ptA (p : Pt) : Array Value := #[.int .i64 p.1, .int .u32 (p.2.1 : Int), .int .u32 (p.2.2.1 : Int), .int .u32 (p.2.2.2.1 : Int), .int .u32 (p.2.2.2.2 : Int)]
theorem outBE_no (c : Nat) {w w' : World} (hb : Below w.heap.size w w') : OutBE ([], c) w (.returned (.tuple #[.slice none 0 0, .int .i64 c])) w' := ⟨_, rfl, World.ownsRow_nil _ _ _ _, hb⟩
end Go.Proofs.YtafbidhbmfdlkaaGreatDoor
/-
  Store's own: wrong, wrongToSeal, wrongPtr, with; nothing that was there is written.
-/
namespace Go.Proofs.YtafbidhbmfdlkaaGreatDoor
open Go.RowKit Go.Shelf
set_option maxRecDepth 100000

/-- What is wrong with a store, a birth and a text's length. -/
noncomputable def wrongO (S : StL) (birth n : Nat) : Nat := open Classical in if MayS S then if 1 ≤ birth ∧ birth ≤ 16777215 then if n = 256 then 0 else 3 else 2 else 8
/-- What is wrong with a store or a pointer. -/
noncomputable def wrongPO (S : StL) (p : Pt) : Nat := open Classical in if MayS S ∧ MayP p then if p = p0 then 6 else 0 else 8
set_option maxHeartbeats 1000000 in
theorem stWrong_any (L : Nat) (x : SAt) (S : StL) (birth : Nat) (a : Option Addr) (n c : Nat) (w : World) (h : StP L w x S) (z : Nat) (hz : wrongO S birth n = z) : Calls Tryz.prog 251 #[stV x S, .int .u32 (birth : Int), .slice a n c] w fun e w' => e = .returned (.int .i64 (z : Int)) ∧ Below w.heap.size w w' := by
  obtain ⟨xb, b0⟩ := st_box w x S
  obtain ⟨w0, hw0⟩ : ∃ w0, w.alloc (.cells (stC x S) 29) = w0 := ⟨_, rfl⟩
  rw [hw0] at xb b0
  have c0 := stC0 xb
  have c1 := stC1 xb
  have c2 := stC2 xb
  have c3 := stC3 xb
  have c4 := stC4 xb
  have HB := Lib.hid b0
  have HMY := fun R hR => stMayBe_any L x S w0 (h.bel b0) R hR
  simp only [stC] at hw0
  clear h xb b0
  unfold wrongO at hz
  by_cases hm : MayS S
  · rw [if_pos hm] at hz
    have HM := Lib.hid (HMY true ⟨fun _ => hm, fun _ => rfl⟩)
    clear HMY hm
    by_cases hb : 1 ≤ birth ∧ birth ≤ 16777215
    · rw [if_pos hb] at hz
      have HU := Lib.hid (fun W => stUpTo_any birth 16777215 true ⟨fun _ => ⟨hb.1, by omega⟩, fun _ => rfl⟩ W)
      clear hb
      by_cases hn : n = 256
      · rw [if_pos hn] at hz
        have e1 : ((n : Int) != 256) = false := by simp; omega
        subst hz
        clear hn
        go_enter Tryz.func251, Tryz.ntmps251
        go_wp2_with fail
        refine HM.out.mono ?_
        rintro e w1 ⟨rfl, b1⟩
        have HB1 := Lib.hid (HB.out.trans (b1.mono HB.out.size))
        clear b1 c0 c1 c2 c3 c4
        go_wp2_with fail
        refine (HU.out w1).mono ?_
        rintro e w2 ⟨rfl, rfl⟩
        go_wp2_with fail
        go_ret
        exact ⟨rfl, HB1.out⟩
      · rw [if_neg hn] at hz
        have e1 : ((n : Int) != 256) = true := by simp; omega
        subst hz
        clear hn
        go_enter Tryz.func251, Tryz.ntmps251
        go_wp2_with fail
        refine HM.out.mono ?_
        rintro e w1 ⟨rfl, b1⟩
        have HB1 := Lib.hid (HB.out.trans (b1.mono HB.out.size))
        clear b1 c0 c1 c2 c3 c4
        go_wp2_with fail
        refine (HU.out w1).mono ?_
        rintro e w2 ⟨rfl, rfl⟩
        go_wp2_with fail
        go_ret
        exact ⟨rfl, HB1.out⟩
    · rw [if_neg hb] at hz
      have HU := Lib.hid (fun W => stUpTo_any birth 16777215 false ⟨fun h => (by cases h), fun h => absurd (show 1 ≤ birth ∧ birth ≤ 16777215 by omega) hb⟩ W)
      subst hz
      clear hb
      go_enter Tryz.func251, Tryz.ntmps251
      go_wp2_with fail
      refine HM.out.mono ?_
      rintro e w1 ⟨rfl, b1⟩
      have HB1 := Lib.hid (HB.out.trans (b1.mono HB.out.size))
      clear b1 c0 c1 c2 c3 c4
      go_wp2_with fail
      refine (HU.out w1).mono ?_
      rintro e w2 ⟨rfl, rfl⟩
      go_wp2_with fail
      go_ret
      exact ⟨rfl, HB1.out⟩
  · rw [if_neg hm] at hz
    have HM := Lib.hid (HMY false ⟨fun h => (by cases h), fun h => absurd h hm⟩)
    subst hz
    clear HMY hm
    go_enter Tryz.func251, Tryz.ntmps251
    go_wp2_with fail
    refine HM.out.mono ?_
    rintro e w1 ⟨rfl, b1⟩
    have HB1 := Lib.hid (HB.out.trans (b1.mono HB.out.size))
    clear b1 c0 c1 c2 c3 c4
    go_wp2_with fail
    go_ret
    exact ⟨rfl, HB1.out⟩
set_option maxHeartbeats 1000000 in
theorem stWrongPtr_any (L : Nat) (x : SAt) (S : StL) (p : Pt) (w : World) (h : StP L w x S) (z : Nat) (hz : wrongPO S p = z) : Calls Tryz.prog 249 #[stV x S, ptV p] w fun e w' => e = .returned (.int .i64 (z : Int)) ∧ Below w.heap.size w w' := by
  obtain ⟨w0, hw0, b0, z0, x0, q0⟩ := two_al w (stC x S) (ptA p) 29 31
  have h0 := h.bel b0
  have c0 := stC0 x0
  have c1 := stC1 x0
  have c2 := stC2 x0
  have c3 := stC3 x0
  have c4 := stC4 x0
  have d0 := bx0 q0
  have d1 := bx1 q0
  have d2 := bx2 q0
  have d3 := bx3 q0
  have d4 := bx4 q0
  have HQ := Lib.hid q0
  have HB := Lib.hid b0
  have HMY := fun R hR => stMayBe_any L x S w0 h0 R hR
  have hpm := fun W => Check_any p W
  simp only [stC, ptA] at hw0
  clear h h0 x0 q0 b0 z0
  unfold wrongPO at hz
  by_cases hms : MayS S
  · have HM := Lib.hid (HMY true ⟨fun _ => hms, fun _ => rfl⟩)
    clear HMY
    by_cases hmp : MayP p
    · rw [if_pos ⟨hms, hmp⟩] at hz
      rw [show pcheckO p = 0 by unfold pcheckO; rw [if_pos hmp]] at hpm
      have HC := Lib.hid hpm
      clear hpm hms hmp
      by_cases hp : p = p0
      · rw [if_pos hp] at hz
        have he : eqP p p0 = true := (eqP_iff p p0).2 hp
        subst hz
        clear hp
        obtain ⟨pa, pb, pc, pd, pe⟩ := p
        have heq := eqPt_zero pa pb pc pd pe
        rw [he] at heq
        clear he
        go_enter Tryz.func249, Tryz.ntmps249
        go_wp2_with fail
        refine HM.out.mono ?_
        rintro e w1 ⟨rfl, b1⟩
        replace HQ := Lib.hid (HQ.out.below b1 HQ.out.lt)
        replace HB := Lib.hid (HB.out.trans (b1.mono HB.out.size))
        clear b1 c0 c1 c2 c3 c4 d0 d1 d2 d3 d4
        have d0 := bx0 HQ.out
        have d1 := bx1 HQ.out
        have d2 := bx2 HQ.out
        have d3 := bx3 HQ.out
        have d4 := bx4 HQ.out
        go_wp2_with fail
        refine (HC.out w1).mono ?_
        rintro e w2 ⟨rfl, b2⟩
        replace HQ := Lib.hid (HQ.out.below b2 HQ.out.lt)
        replace HB := Lib.hid (HB.out.trans (b2.mono HB.out.size))
        clear b2 d0 d1 d2 d3 d4
        have d0 := bx0 HQ.out
        have d1 := bx1 HQ.out
        have d2 := bx2 HQ.out
        have d3 := bx3 HQ.out
        have d4 := bx4 HQ.out
        go_wp2_with fail
        go_ret
        exact ⟨rfl, HB.out⟩
      · rw [if_neg hp] at hz
        have he : eqP p p0 = false := by
          cases hq : eqP p p0 with
          | false => rfl
          | true => exact absurd ((eqP_iff p p0).1 hq) hp
        subst hz
        clear hp
        obtain ⟨pa, pb, pc, pd, pe⟩ := p
        have heq := eqPt_zero pa pb pc pd pe
        rw [he] at heq
        clear he
        go_enter Tryz.func249, Tryz.ntmps249
        go_wp2_with fail
        refine HM.out.mono ?_
        rintro e w1 ⟨rfl, b1⟩
        replace HQ := Lib.hid (HQ.out.below b1 HQ.out.lt)
        replace HB := Lib.hid (HB.out.trans (b1.mono HB.out.size))
        clear b1 c0 c1 c2 c3 c4 d0 d1 d2 d3 d4
        have d0 := bx0 HQ.out
        have d1 := bx1 HQ.out
        have d2 := bx2 HQ.out
        have d3 := bx3 HQ.out
        have d4 := bx4 HQ.out
        go_wp2_with fail
        refine (HC.out w1).mono ?_
        rintro e w2 ⟨rfl, b2⟩
        replace HQ := Lib.hid (HQ.out.below b2 HQ.out.lt)
        replace HB := Lib.hid (HB.out.trans (b2.mono HB.out.size))
        clear b2 d0 d1 d2 d3 d4
        have d0 := bx0 HQ.out
        have d1 := bx1 HQ.out
        have d2 := bx2 HQ.out
        have d3 := bx3 HQ.out
        have d4 := bx4 HQ.out
        go_wp2_with fail
        go_ret
        exact ⟨rfl, HB.out⟩
    · rw [if_neg (fun hh => hmp hh.2)] at hz
      rw [show pcheckO p = 8 by unfold pcheckO; rw [if_neg hmp]] at hpm
      have HC := Lib.hid hpm
      subst hz
      clear hpm hms hmp
      go_enter Tryz.func249, Tryz.ntmps249
      go_wp2_with fail
      refine HM.out.mono ?_
      rintro e w1 ⟨rfl, b1⟩
      replace HQ := Lib.hid (HQ.out.below b1 HQ.out.lt)
      replace HB := Lib.hid (HB.out.trans (b1.mono HB.out.size))
      clear b1 c0 c1 c2 c3 c4 d0 d1 d2 d3 d4
      have d0 := bx0 HQ.out
      have d1 := bx1 HQ.out
      have d2 := bx2 HQ.out
      have d3 := bx3 HQ.out
      have d4 := bx4 HQ.out
      go_wp2_with fail
      refine (HC.out w1).mono ?_
      rintro e w2 ⟨rfl, b2⟩
      replace HQ := Lib.hid (HQ.out.below b2 HQ.out.lt)
      replace HB := Lib.hid (HB.out.trans (b2.mono HB.out.size))
      clear b2 d0 d1 d2 d3 d4
      have d0 := bx0 HQ.out
      have d1 := bx1 HQ.out
      have d2 := bx2 HQ.out
      have d3 := bx3 HQ.out
      have d4 := bx4 HQ.out
      go_wp2_with fail
      go_ret
      exact ⟨rfl, HB.out⟩
  · rw [if_neg (fun hh => hms hh.1)] at hz
    have HM := Lib.hid (HMY false ⟨fun h => (by cases h), fun h => absurd h hms⟩)
    subst hz
    clear HMY hpm hms
    go_enter Tryz.func249, Tryz.ntmps249
    go_wp2_with fail
    refine HM.out.mono ?_
    rintro e w1 ⟨rfl, b1⟩
    replace HQ := Lib.hid (HQ.out.below b1 HQ.out.lt)
    replace HB := Lib.hid (HB.out.trans (b1.mono HB.out.size))
    clear b1 c0 c1 c2 c3 c4 d0 d1 d2 d3 d4
    have d0 := bx0 HQ.out
    have d1 := bx1 HQ.out
    have d2 := bx2 HQ.out
    have d3 := bx3 HQ.out
    have d4 := bx4 HQ.out
    go_wp2_with fail
    go_ret
    exact ⟨rfl, HB.out⟩
set_option maxHeartbeats 1000000 in
theorem stWith_any (x : SAt) (S : StL) (y : DAt) (D : DkL) (a : Option Addr) (n c : Nat) (w : World) : Calls Tryz.prog 110 #[stV x S, dval y D, .slice a n c] w fun e w' => e = .returned (.agg #[.slice y.ba D.1.length y.bc, .slice y.wa D.2.length y.wc, .slice a n c, .int .u32 (S.2.2.1 : Int), .int .u32 (S.2.2.2 : Int)]) ∧ Below w.heap.size w w' := by
  obtain ⟨w0, hw0, b0, z0, x0, y0, q0⟩ := three_al w (stC x S) #[.slice y.ba D.1.length y.bc, .slice y.wa D.2.length y.wc] stZ 29 25 29
  obtain ⟨g, hg⟩ : ∃ g, w.heap.size = g := ⟨_, rfl⟩
  obtain ⟨g1, hg1⟩ : ∃ g1, g + 1 = g1 := ⟨_, rfl⟩
  obtain ⟨g2, hg2⟩ : ∃ g2, g1 + 1 = g2 := ⟨_, rfl⟩
  rw [hg] at x0 y0 q0 b0
  rw [show g + 2 = g1 + 1 by omega] at q0
  rw [hg1] at y0
  rw [hg2] at q0
  have HG := Lib.hid hg
  have HB := Lib.hid b0
  have e0 : w0.cell? ⟨g1, 0, none⟩ = some (.slice y.ba D.1.length y.bc) := y0.cell 0
  have e1 : w0.cell? ⟨g1, 1, none⟩ = some (.slice y.wa D.2.length y.wc) := y0.cell 1
  have c0 := stC0 x0
  have c1 := stC1 x0
  have c2 := stC2 x0
  have c3 := stC3 x0
  have c4 := stC4 x0
  have hfx := fun i => x0.frozen i
  have HX := Lib.hid x0
  have HQ := Lib.hid q0
  have HNE := Lib.hid (show g2 ≠ g by omega)
  have HGE := Lib.hid (show g ≤ g2 by omega)
  obtain ⟨x2, k2, b2⟩ := box_two x0 (by decide) (Nat.zero_le _) b0 (Nat.le_refl _) (.slice y.ba D.1.length y.bc) (.slice y.wa D.2.length y.wc)
  have q2 := (q0.far (p := ⟨g, 0, none⟩) HNE.out (.slice y.ba D.1.length y.bc)).far (p := ⟨g, 1, none⟩) HNE.out (.slice y.wa D.2.length y.wc)
  obtain ⟨w2, hw2⟩ : ∃ w2, (w0.setCell ⟨g, 0, none⟩ (.slice y.ba D.1.length y.bc)).setCell ⟨g, 1, none⟩ (.slice y.wa D.2.length y.wc) = w2 := ⟨_, rfl⟩
  rw [hw2] at x2 k2 b2 q2
  have cc := bx2 x2
  have hf2 := fun i => x2.frozen i
  have q3 := q2.far (p := ⟨g, 2, none⟩) HNE.out (.slice a n c)
  obtain ⟨x3, k3, b3⟩ := box_at x2 (by decide) (Nat.zero_le _) b2 (Nat.le_refl _) 2 (.slice a n c)
  obtain ⟨w3, hw3⟩ : ∃ w3, w2.setCell ⟨g, 2, none⟩ (.slice a n c) = w3 := ⟨_, rfl⟩
  rw [hw3] at x3 k3 b3 q3
  replace x3 : Blk w3 g 29 #[.slice y.ba D.1.length y.bc, .slice y.wa D.2.length y.wc, .slice a n c, .int .u32 (S.2.2.1 : Int), .int .u32 (S.2.2.2 : Int)] := x3
  have p0 := bx0 x3
  have p1 := bx1 x3
  have p2 := bx2 x3
  have p3 := bx3 x3
  have p4 := bx4 x3
  have r0 := stZ0 q3
  have r1 := stZ1 q3
  have r2 := stZ2 q3
  have r3 := stZ3 q3
  have r4 := stZ4 q3
  have hfy := fun i => q3.frozen i
  have H2 := Lib.hid (box_five q3 (by decide) (Nat.zero_le _) b3 HGE.out (.slice y.ba D.1.length y.bc) (.slice y.wa D.2.length y.wc) (.slice a n c) (.int .u32 (S.2.2.1 : Int)) (.int .u32 (S.2.2.2 : Int)))
  simp only [stC, stZ] at hw0
  simp only [dval]
  clear x0 y0 q0 b0 z0 x2 k2 b2 q2 x3 k3 b3 q3 HX HQ
  go_enter Tryz.func110, Tryz.ntmps110
  go_wp2_with fail
  clear p0 p1 p2 p3 p4 r0 r1 r2 r3 r4 hfy hfx c0 c1 c2 c3 c4 e0 e1 hw2 hw3 cc hf2
  obtain ⟨xf, _, bf⟩ := H2.out
  obtain ⟨wf, hwf⟩ : ∃ wf, set5 w3 g2 (.slice y.ba D.1.length y.bc) (.slice y.wa D.2.length y.wc) (.slice a n c) (.int .u32 (S.2.2.1 : Int)) (.int .u32 (S.2.2.2 : Int)) = wf := ⟨_, rfl⟩
  rw [hwf] at xf bf
  simp only [set5] at hwf
  rw [hwf]
  have e0 := bx0 xf
  have e1 := bx1 xf
  have e2 := bx2 xf
  have e3 := bx3 xf
  have e4 := bx4 xf
  refine bodyPost_ret (v := .agg #[.slice y.ba D.1.length y.bc, .slice y.wa D.2.length y.wc, .slice a n c, .int .u32 (S.2.2.1 : Int), .int .u32 (S.2.2.2 : Int)]) (by simp [results, Tryz.f110, go_sem, e0, e1, e2, e3, e4]) rfl ?_
  exact ⟨rfl, by rw [HG.out]; exact bf⟩
end Go.Proofs.YtafbidhbmfdlkaaGreatDoor
/-
  Store's own: laid; a block is laid, if there is room, and nothing that was there is written.
-/
namespace Go.Proofs.YtafbidhbmfdlkaaGreatDoor
open Go.RowKit Go.Shelf
set_option maxRecDepth 100000

/-- What comes behind a block's bytes: nothing, or two numbers. -/
def BySl (w : World) (sl : Value) (iv tag : Nat) : Prop := (sl = .slice none 0 0 ∧ iv = 0 ∧ tag = 0) ∨ ∃ g, sl = .slice (some ⟨g, 0, none⟩) 2 2 ∧ Blk w g 27 #[.int .u32 (iv : Int), .int .u32 (tag : Int)]
theorem BySl.below {w w' : World} {sl : Value} {iv tag : Nat} (h : BySl w sl iv tag) (b : Below w.heap.size w w') : BySl w' sl iv tag := h.imp id fun ⟨g, e, hb⟩ => ⟨g, e, hb.below b hb.lt⟩
theorem BySl.slice {w : World} {sl : Value} {iv tag : Nat} (h : BySl w sl iv tag) : ∃ a n c, sl = .slice a n c := by
  rcases h with ⟨rfl, _⟩ | ⟨g, rfl, _⟩ <;> exact ⟨_, _, _, rfl⟩
theorem atCopy2 {P : Program} {ops : Array Oper} {Q : Exit → Act → World → Prop} {a : Act} {w : World} {rest : List Oper} {d : Option Tmp} {ty : TypeId} {x : Array Operand} {y : Array TypeId} {pos : String} {af : Array Edge} (h : wpList P ops Q (⟨d, .call { callee := .builtin .copy, args := x, argTypes := y }, ty, pos, af, none⟩ :: rest) a w) : wpList P ops Q (⟨d, .call { callee := .builtin .copy, args := x, argTypes := y }, ty, pos, af, none⟩ :: rest) a w := h
theorem infoU32' : (Tryz.prog.info? 27).map (·.size) = some 1 := by kernel_rfl
theorem wpList_copy_two {w : World} {ops : Array Oper} {rest : List Oper} {o : Oper} {a : Act} {Q : Exit → Act → World → Prop} (hgd : o.guard = none) (d s : Operand) (ho : o.op = .call { callee := .builtin .copy, args := #[d, s], argTypes := #[331, 331] }) (g5 : Nat) (sl : Value) (iv tag : Nat)
    (hd : a.eval d = .slice (some ⟨g5, 0, none⟩) 2 2) (hs : a.eval s = sl) (hsl : BySl w sl iv tag) (hx : Blk w g5 334 #[.int .u32 0, .int .u32 0])
    (h : ∀ (m : Nat) w', Blk w' g5 334 #[.int .u32 (iv : Int), .int .u32 (tag : Int)] → Below g5 w w' → wpList Tryz.prog ops Q rest (a.put o.dst (.int .i64 m)) w') : wpList Tryz.prog ops Q (o :: rest) a w := by
  rcases hsl with ⟨rfl, rfl, rfl⟩ | ⟨g, rfl, hg⟩
  · refine wpList_copy_splice hgd d s 331 331 ho 27 Tryz.underlying331 infoU32' (some ⟨g5, 0, none⟩) none 2 2 0 0 hd hs g5 0 [.int .u32 0, .int .u32 0] 334 hx [] rfl
      (fun h => absurd h (by simp)) (by simp) (fun u hu => by cases hu) g5 w (Below.refl _ _) (Nat.le_refl _) ?_
    intro w2 hx2 hb2
    exact h 0 w2 hx2.out hb2
  · refine wpList_copy_splice hgd d s 331 331 ho 27 Tryz.underlying331 infoU32' (some ⟨g5, 0, none⟩) (some ⟨g, 0, none⟩) 2 2 2 2 hd hs g5 0 [.int .u32 0, .int .u32 0] 334 hx [.int .u32 (iv : Int), .int .u32 (tag : Int)] rfl
      (fun _ => ⟨rfl, _, rfl, fun j u hu => ?_⟩) (by simp) (fun u hu => ?_) g5 w (Below.refl _ _) (Nat.le_refl _) ?_
    · have hc := hg.cell j
      have e : (⟨g, 0, none⟩ : Addr).add j = ⟨g, j, none⟩ := by unfold Addr.add; split <;> simp_all
      rw [e, hc]
      simpa using hu
    · simp only [List.mem_cons, List.not_mem_nil, or_false] at hu
      rcases hu with rfl | rfl <;> rfl
    · intro w2 hx2 hb2
      exact h 2 w2 hx2.out hb2
theorem hiS_zero (w : World) (B : Nat) : HiS w B at0 st0 := ⟨.inl rfl, .inl rfl, .inl rfl⟩
theorem newSP_zero (z : Nat) {w w' : World} (hb : Below w.heap.size w w') : NewSP (st0, p0, z) w (.returned (.tuple #[.agg #[.slice none 0 0, .slice none 0 0, .slice none 0 0, .int .u32 0, .int .u32 0], .agg #[.int .i64 0, .int .u32 0, .int .u32 0, .int .u32 0, .int .u32 0], .int .i64 z])) w' :=
  ⟨at0, rfl, st0_lasts 0 w', hiS_zero w' _, hb⟩
theorem far5_bl {w : World} {g g' : Nat} {t : TypeId} {cs : Array Value} (h : Blk w g' t cs) (hne : g' ≠ g) (v0 v1 v2 v3 v4 : Value) : Blk (set5 w g v0 v1 v2 v3 v4) g' t cs :=
  ((((h.far (p := ⟨g, 0, none⟩) hne v0).far (p := ⟨g, 1, none⟩) hne v1).far (p := ⟨g, 2, none⟩) hne v2).far (p := ⟨g, 3, none⟩) hne v3).far (p := ⟨g, 4, none⟩) hne v4
theorem newS_of {w w1 w2 : World} {y : DAt} {D : DkL} {sa : Option Addr} {sc n : Nat} {t : List UInt8} {B B' B'' : Nat} (hd : OutD w1 B y D) (ho : w2.ownsRow B' 5 1 (.slice sa n sc) n (vals t)) (hn : t.length = n) (k : Keeps 0 w1 w) (k2 : Keeps 0 w2 w) (hB : B'' ≤ B) (hB' : B'' ≤ B') (e c : Nat) :
    StP 0 w ⟨y, sa, sc⟩ (D, t, e, c) ∧ HiS w B'' ⟨y, sa, sc⟩ (D, t, e, c) := by
  subst hn
  have hd' := (outD_keeps hd k).lower hB
  have ho' := own_keeps ho (by decide) k2
  have hh := outD_hi hd'
  exact ⟨fun W kk => ⟨(outD_keeps3 hd (k.to3.trans kk)).dsk, own_bsl (own_keeps3 ho' (by decide) kk)⟩, hh.1, hh.2, piece_own (own_mono ho' hB')⟩
set_option maxHeartbeats 4000000 in
theorem stLaid_full (L : Nat) (x : SAt) (S : StL) (birth iv tag : Nat) (a : Option Addr) (c : Nat) (b : List UInt8) (sl : Value) (w : World) (h : StP L w x S) (hb : Bsl w w.heap.size a b.length c b) (hsl : BySl w sl iv tag) (hm : MayS S) (hbl : b.length = 256) (h0' : ∀ i, i < 256 → mkT S.2.1 i ≠ 0) : Calls Tryz.prog 252 #[stV x S, .int .u32 birth, .slice a b.length c, sl] w (NewSP (putR (putS S birth iv tag b)) w) := by
  rw [putS_none h0']
  obtain ⟨w0, hw0, b0, z0, x0, y0, q0⟩ := three_al w (stC x S) stZ ptZ 29 29 31
  obtain ⟨g, hg⟩ : ∃ g, w.heap.size = g := ⟨_, rfl⟩
  obtain ⟨g1, hg1⟩ : ∃ g1, g + 1 = g1 := ⟨_, rfl⟩
  obtain ⟨g2, hg2⟩ : ∃ g2, g1 + 1 = g2 := ⟨_, rfl⟩
  have h0 := h.bel b0
  have hb0 := hb.step b0
  have hs0 := hsl.below b0
  rw [hg] at x0 y0 q0 z0 b0
  rw [hg1] at y0
  rw [show g + 2 = g1 + 1 by omega, hg2] at q0
  obtain ⟨sla, sln, slc, rfl⟩ := hsl.slice
  have HI := Lib.hid (show g ≤ g1 ∧ g ≤ g2 ∧ g1 ≠ g ∧ g2 ≠ g ∧ g2 ≠ g1 ∧ g1 ≠ g2 ∧ w0.heap.size = g + 3 by omega)
  have hle : S.2.1.length = 256 := hm.2.1.1
  have hwl : S.1.2.length ≤ 4096 := hm.1.2.1
  have c0 := stC0 x0
  have c1 := stC1 x0
  have c2 := stC2 x0
  have hsp := h0.now.2
  rw [hle] at c2 hsp
  have HX := Lib.hid x0
  have HY := Lib.hid y0
  have HQ := Lib.hid q0
  have HB := Lib.hid b0
  have HS := Lib.hid h0
  have HA := Lib.hid hb0
  have HY2 := Lib.hid hs0
  have HG := Lib.hid hg
  have HLE := Lib.hid hle
  have HMS := Lib.hid hm
  have HBL := Lib.hid hbl
  have HZ := Lib.hid (show g ≤ w0.heap.size by omega)
  simp only [stC, stZ, ptZ] at hw0
  clear h hb hsl h0 hb0 hs0 x0 y0 q0 b0 z0
  have HT := Lib.hid (spTake_full x.a 256 x.c S.2.1 w0 hsp HMS.out.2.1 h0')
  clear h0' hsp hle hwl hm hbl
  go_enter Tryz.func252, Tryz.ntmps252
  go_wp2_with fail
  clear hw0 c0 c1 c2
  refine HT.out.mono ?_
  rintro e w1 ⟨v, rfl, ho, b1⟩
  replace HX := Lib.hid (HX.out.below b1 HX.out.lt)
  replace HY := Lib.hid (HY.out.below b1 HY.out.lt)
  replace HQ := Lib.hid (HQ.out.below b1 HQ.out.lt)
  replace HB := Lib.hid (HB.out.trans (b1.mono HZ.out))
  clear ho b1 HT
  have m0 := stZ0 HY.out
  have m1 := stZ1 HY.out
  have m2 := stZ2 HY.out
  have m3 := stZ3 HY.out
  have m4 := stZ4 HY.out
  have n0 := ptZ0 HQ.out
  have n1 := ptZ1 HQ.out
  have n2 := ptZ2 HQ.out
  have n3 := ptZ3 HQ.out
  have n4 := ptZ4 HQ.out
  go_wp2_with fail
  refine bodyPost_ret (v := .tuple #[.agg #[.slice none 0 0, .slice none 0 0, .slice none 0 0, .int .u32 0, .int .u32 0], .agg #[.int .i64 0, .int .u32 0, .int .u32 0, .int .u32 0, .int .u32 0], .int .i64 9]) (by simp [results, Tryz.f252, go_sem, m0, m1, m2, m3, m4, n0, n1, n2, n3, n4]) rfl ?_
  exact newSP_zero 9 (by rw [HG.out]; exact HB.out)
set_option maxHeartbeats 4000000 in
theorem stLaid_great (L : Nat) (x : SAt) (S : StL) (birth iv tag : Nat) (a : Option Addr) (c : Nat) (b : List UInt8) (sl : Value) (w : World) (h : StP L w x S) (hb : Bsl w w.heap.size a b.length c b) (hsl : BySl w sl iv tag) (hm : MayS S) (hbl : b.length = 256) (k : Nat) (hk : k < 256) (hz : mkT S.2.1 k = 0) (h0' : ∀ i, i < k → mkT S.2.1 i ≠ 0) (hgr : 4096 ≤ S.1.2.length) : Calls Tryz.prog 252 #[stV x S, .int .u32 birth, .slice a b.length c, sl] w (NewSP (putR (putS S birth iv tag b)) w) := by
  rw [putS_great hgr]
  obtain ⟨w0, hw0, b0, z0, x0, y0, q0⟩ := three_al w (stC x S) stZ ptZ 29 29 31
  obtain ⟨g, hg⟩ : ∃ g, w.heap.size = g := ⟨_, rfl⟩
  obtain ⟨g1, hg1⟩ : ∃ g1, g + 1 = g1 := ⟨_, rfl⟩
  obtain ⟨g2, hg2⟩ : ∃ g2, g1 + 1 = g2 := ⟨_, rfl⟩
  have h0 := h.bel b0
  have hb0 := hb.step b0
  have hs0 := hsl.below b0
  rw [hg] at x0 y0 q0 z0 b0
  rw [hg1] at y0
  rw [show g + 2 = g1 + 1 by omega, hg2] at q0
  obtain ⟨sla, sln, slc, rfl⟩ := hsl.slice
  have HI := Lib.hid (show g ≤ g1 ∧ g ≤ g2 ∧ g1 ≠ g ∧ g2 ≠ g ∧ g2 ≠ g1 ∧ g1 ≠ g2 ∧ w0.heap.size = g + 3 by omega)
  have hle : S.2.1.length = 256 := hm.2.1.1
  have hwl : S.1.2.length ≤ 4096 := hm.1.2.1
  have c0 := stC0 x0
  have c1 := stC1 x0
  have c2 := stC2 x0
  have hsp := h0.now.2
  rw [hle] at c2 hsp
  have HX := Lib.hid x0
  have HY := Lib.hid y0
  have HQ := Lib.hid q0
  have HB := Lib.hid b0
  have HS := Lib.hid h0
  have HA := Lib.hid hb0
  have HY2 := Lib.hid hs0
  have HG := Lib.hid hg
  have HLE := Lib.hid hle
  have HMS := Lib.hid hm
  have HBL := Lib.hid hbl
  have HZ := Lib.hid (show g ≤ w0.heap.size by omega)
  simp only [stC, stZ, ptZ] at hw0
  clear h hb hsl h0 hb0 hs0 x0 y0 q0 b0 z0
  have HT := Lib.hid (spTake_ok x.a 256 x.c S.2.1 k w0 hsp HMS.out.2.1 hk hz h0')
  have hwo : writeO S.1 (k : Int) b = (([], []), 9) := by
    unfold writeO
    rw [if_pos hm.1, if_pos (by omega), if_pos hbl, if_pos (by omega)]
  have HWO := Lib.hid hwo
  clear h0' hsp hle hwl hm hbl hk hz hgr hwo
  go_enter Tryz.func252, Tryz.ntmps252
  go_wp2_with fail
  clear hw0 c0 c1 c2
  refine HT.out.mono ?_
  rintro e w1 ⟨v, rfl, ho, b1⟩
  rw [show (S.2.1.set k 1).length = 256 by rw [List.length_set]; exact HLE.out] at ho
  obtain ⟨sa, sc, rfl⟩ := own_slice ho
  replace HX := Lib.hid (HX.out.below b1 HX.out.lt)
  replace HY := Lib.hid (HY.out.below b1 HY.out.lt)
  replace HQ := Lib.hid (HQ.out.below b1 HQ.out.lt)
  replace HS := Lib.hid (HS.out.bel b1)
  replace HA := Lib.hid (HA.out.step b1)
  replace HY2 := Lib.hid (HY2.out.below b1)
  replace HB := Lib.hid (HB.out.trans (b1.mono HZ.out))
  replace HZ := Lib.hid (Nat.le_trans HZ.out b1.size)
  have HO := Lib.hid ho
  have HZ1 := Lib.hid HZ.out
  clear b1 ho HT
  have c0 := stC0 HX.out
  have c1 := stC1 HX.out
  have hwr := dWrite_any x.d S.1 (k : Int) a b.length c b w1 HS.out.now.1 HA.out
  simp only [dval] at hwr
  rw [HWO.out] at hwr
  have HW := Lib.hid hwr
  clear hwr
  go_wp2_with fail
  clear c0 c1
  refine HW.out.mono ?_
  rintro e w2 ⟨y, rfl, hd, b2⟩
  simp only [dval]
  replace HX := Lib.hid (HX.out.below b2 HX.out.lt)
  replace HY := Lib.hid (HY.out.below b2 HY.out.lt)
  replace HQ := Lib.hid (HQ.out.below b2 HQ.out.lt)
  replace HB := Lib.hid (HB.out.trans (b2.mono HZ.out))
  replace HZ := Lib.hid (Nat.le_trans HZ.out b2.size)
  clear hd b2 HW
  have b3 := (Below.refl w2.heap.size w2).alloc (Nat.le_refl _) (.cells #[.slice y.ba 0 y.bc, .slice y.wa 0 y.wc] 25)
  replace HX := Lib.hid (HX.out.below b3 HX.out.lt)
  replace HY := Lib.hid (HY.out.below b3 HY.out.lt)
  replace HQ := Lib.hid (HQ.out.below b3 HQ.out.lt)
  replace HB := Lib.hid (HB.out.trans (b3.mono HZ.out))
  have m0 := stZ0 HY.out
  have m1 := stZ1 HY.out
  have m2 := stZ2 HY.out
  have m3 := stZ3 HY.out
  have m4 := stZ4 HY.out
  have n0 := ptZ0 HQ.out
  have n1 := ptZ1 HQ.out
  have n2 := ptZ2 HQ.out
  have n3 := ptZ3 HQ.out
  have n4 := ptZ4 HQ.out
  clear b3
  go_wp2_with fail
  refine bodyPost_ret (v := .tuple #[.agg #[.slice none 0 0, .slice none 0 0, .slice none 0 0, .int .u32 0, .int .u32 0], .agg #[.int .i64 0, .int .u32 0, .int .u32 0, .int .u32 0, .int .u32 0], .int .i64 9]) (by simp [results, Tryz.f252, go_sem, m0, m1, m2, m3, m4, n0, n1, n2, n3, n4]) rfl ?_
  exact newSP_zero 9 (by rw [HG.out]; exact HB.out)
set_option maxHeartbeats 8000000 in
theorem stLaid_ok (L : Nat) (x : SAt) (S : StL) (birth iv tag : Nat) (a : Option Addr) (c : Nat) (b : List UInt8) (sl : Value) (w : World) (h : StP L w x S) (hb : Bsl w w.heap.size a b.length c b) (hsl : BySl w sl iv tag) (hm : MayS S) (hbl : b.length = 256) (k : Nat) (hk : k < 256) (hz : mkT S.2.1 k = 0) (h0' : ∀ i, i < k → mkT S.2.1 i ≠ 0) (hgr : S.1.2.length < 4096) : Calls Tryz.prog 252 #[stV x S, .int .u32 birth, .slice a b.length c, sl] w (NewSP (putR (putS S birth iv tag b)) w) := by
  rw [putS_some hk hz h0' hgr]
  have hmx : Tryz.prog.follows Departure.mixedOrders = true := by kernel_rfl
  obtain ⟨w0, hw0, b0, z0, x0, y0, q0⟩ := three_al w (stC x S) stZ ptZ 29 29 31
  obtain ⟨g, hg⟩ : ∃ g, w.heap.size = g := ⟨_, rfl⟩
  obtain ⟨g1, hg1⟩ : ∃ g1, g + 1 = g1 := ⟨_, rfl⟩
  obtain ⟨g2, hg2⟩ : ∃ g2, g1 + 1 = g2 := ⟨_, rfl⟩
  have h0 := h.bel b0
  have hb0 := hb.step b0
  have hs0 := hsl.below b0
  rw [hg] at x0 y0 q0 z0 b0
  rw [hg1] at y0
  rw [show g + 2 = g1 + 1 by omega, hg2] at q0
  obtain ⟨sla, sln, slc, rfl⟩ := hsl.slice
  have HI := Lib.hid (show g ≤ g1 ∧ g ≤ g2 ∧ g1 ≠ g ∧ g2 ≠ g ∧ g2 ≠ g1 ∧ g1 ≠ g2 ∧ w0.heap.size = g + 3 by omega)
  have hle : S.2.1.length = 256 := hm.2.1.1
  have hwl : S.1.2.length ≤ 4096 := hm.1.2.1
  have c0 := stC0 x0
  have c1 := stC1 x0
  have c2 := stC2 x0
  have hsp := h0.now.2
  rw [hle] at c2 hsp
  have HX := Lib.hid x0
  have HY := Lib.hid y0
  have HQ := Lib.hid q0
  have HB := Lib.hid b0
  have HS := Lib.hid h0
  have HA := Lib.hid hb0
  have HY2 := Lib.hid hs0
  have HG := Lib.hid hg
  have HLE := Lib.hid hle
  have HMS := Lib.hid hm
  have HBL := Lib.hid hbl
  have HZ := Lib.hid (show g ≤ w0.heap.size by omega)
  simp only [stC, stZ, ptZ] at hw0
  clear h hb hsl h0 hb0 hs0 x0 y0 q0 b0 z0
  have HT := Lib.hid (spTake_ok x.a 256 x.c S.2.1 k w0 hsp HMS.out.2.1 hk hz h0')
  have hwo : writeO S.1 (k : Int) b = (withD S.1 (k : Int) b, 0) := by
    unfold writeO
    rw [if_pos hm.1, if_pos (by omega), if_pos hbl, if_neg (by omega)]
  have HWO := Lib.hid hwo
  have HKK := Lib.hid hk
  clear h0' hsp hle hwl hm hbl hk hz hgr hwo
  go_enter Tryz.func252, Tryz.ntmps252
  go_wp2_with fail
  clear hw0 c0 c1 c2
  refine HT.out.mono ?_
  rintro e w1 ⟨v, rfl, ho, b1⟩
  rw [show (S.2.1.set k 1).length = 256 by rw [List.length_set]; exact HLE.out] at ho
  obtain ⟨sa, sc, rfl⟩ := own_slice ho
  replace HX := Lib.hid (HX.out.below b1 HX.out.lt)
  replace HY := Lib.hid (HY.out.below b1 HY.out.lt)
  replace HQ := Lib.hid (HQ.out.below b1 HQ.out.lt)
  replace HS := Lib.hid (HS.out.bel b1)
  replace HA := Lib.hid (HA.out.step b1)
  replace HY2 := Lib.hid (HY2.out.below b1)
  replace HB := Lib.hid (HB.out.trans (b1.mono HZ.out))
  replace HZ := Lib.hid (Nat.le_trans HZ.out b1.size)
  have HO := Lib.hid ho
  have HZ1 := Lib.hid HZ.out
  clear b1 ho HT
  have c0 := stC0 HX.out
  have c1 := stC1 HX.out
  have hwr := dWrite_any x.d S.1 (k : Int) a b.length c b w1 HS.out.now.1 HA.out
  simp only [dval] at hwr
  rw [HWO.out] at hwr
  have HW := Lib.hid hwr
  clear hwr
  go_wp2_with fail
  clear c0 c1
  refine HW.out.mono ?_
  rintro e w2 ⟨y, rfl, hd, b2⟩
  simp only [dval]
  replace HX := Lib.hid (HX.out.below b2 HX.out.lt)
  replace HY := Lib.hid (HY.out.below b2 HY.out.lt)
  replace HQ := Lib.hid (HQ.out.below b2 HQ.out.lt)
  replace HA := Lib.hid (HA.out.step b2)
  replace HY2 := Lib.hid (HY2.out.below b2)
  replace HO := Lib.hid (own_below HO.out b2)
  replace HB := Lib.hid (HB.out.trans (b2.mono HZ.out))
  replace HZ := Lib.hid (Nat.le_trans HZ.out b2.size)
  have HD := Lib.hid hd
  obtain ⟨g3, hg3⟩ : ∃ g3, w2.heap.size = g3 := ⟨_, rfl⟩
  obtain ⟨g4, hg4⟩ : ∃ g4, g3 + 1 = g4 := ⟨_, rfl⟩
  obtain ⟨w3, hw3, b3, z3, k3, v3⟩ := two_al w2 #[.slice y.ba (withD S.1 (k : Int) b).1.length y.bc, .slice y.wa (withD S.1 (k : Int) b).2.length y.wc] #[.int .u32 0, .int .u32 0] 25 334
  rw [hg3] at k3 v3
  rw [hg4] at v3
  have HC0 := Lib.hid (show Blk ((w2.alloc (.cells #[.slice y.ba (withD S.1 (k : Int) b).1.length y.bc, .slice y.wa (withD S.1 (k : Int) b).2.length y.wc] 25)).alloc (.cells #[.int .u32 0, .int .u32 0] 334)) g4 334 #[.int .u32 0, .int .u32 0] by rw [hw3]; exact v3)
  have HSL := Lib.hid (show BySl ((w2.alloc (.cells #[.slice y.ba (withD S.1 (k : Int) b).1.length y.bc, .slice y.wa (withD S.1 (k : Int) b).2.length y.wc] 25)).alloc (.cells #[.int .u32 0, .int .u32 0] 334)) (.slice sla sln slc) iv tag by rw [hw3]; exact HY2.out.below b3)
  have HK := Lib.hid k3
  have HB3 := Lib.hid b3
  have HW3 := Lib.hid hw3
  have HG3 := Lib.hid (show w2.heap.size ≤ g4 ∧ g3 < g4 ∧ g1 < g3 ∧ g2 < g3 ∧ g < g3 by have := HY.out.lt; have := HQ.out.lt; have := HX.out.lt; omega)
  clear hd b2 HW b3 hw3 z3 k3 v3
  go_wp2_with (with_reducible refine atCopy2 ?_
               refine wpList_copy_two rfl (.tmp 34) (.tmp 35) rfl g4 (.slice sla sln slc) iv tag rfl rfl HSL.out HC0.out ?_
               intro m w4 hx4 hb4
               rw [HW3.out] at hb4
               have b4 := HB3.out.trans (hb4.mono HG3.out.1)
               replace HK := Lib.hid (HK.out.below hb4 HG3.out.2.1)
               have HV := Lib.hid hx4
               clear hb4 hx4)
  replace HX := Lib.hid (HX.out.below b4 HX.out.lt)
  replace HY := Lib.hid (HY.out.below b4 HY.out.lt)
  replace HQ := Lib.hid (HQ.out.below b4 HQ.out.lt)
  replace HA := Lib.hid (HA.out.step b4)
  replace HO := Lib.hid (own_below HO.out b4)
  replace HB := Lib.hid (HB.out.trans (b4.mono HZ.out))
  replace HZ := Lib.hid (Nat.le_trans HZ.out b4.size)
  have HD4 := Lib.hid (HD.out.below b4)
  clear b4 HD HB3 HC0 HSL HY2 HW3
  obtain ⟨wd, hwd⟩ : ∃ wd, w4.drew = wd := ⟨_, rfl⟩
  have bb : Below w4.heap.size w4 wd := by rw [← hwd]; exact (Below.refl _ w4).drew
  replace HX := Lib.hid (HX.out.below bb HX.out.lt)
  replace HY := Lib.hid (HY.out.below bb HY.out.lt)
  replace HQ := Lib.hid (HQ.out.below bb HQ.out.lt)
  replace HK := Lib.hid (HK.out.below bb HK.out.lt)
  replace HA := Lib.hid (HA.out.step bb)
  replace HO := Lib.hid (own_below HO.out bb)
  replace HB := Lib.hid (HB.out.trans (bb.mono HZ.out))
  replace HZ := Lib.hid (Nat.le_trans HZ.out bb.size)
  replace HV := Lib.hid (HV.out.below bb HV.out.lt)
  have HD := Lib.hid (HD4.out.below bb)
  clear bb HD4
  have hsu := sum_any a b.length c b wd HA.out (by have := HBL.out; omega)
  rw [show (fourW b).a.toNat = sumOf b from rfl] at hsu
  obtain ⟨sb, hsb⟩ : ∃ sb, sumOf b = sb := ⟨_, rfl⟩
  rw [hsb] at hsu
  have HSU := Lib.hid hsu
  have HSB := Lib.hid hsb
  have v0 : wd.cell? ⟨g4, 0, none⟩ = some (.int .u32 (iv : Int)) := HV.out.cell 0
  have v1 : wd.cell? ⟨g4, 1, none⟩ = some (.int .u32 (tag : Int)) := HV.out.cell 1
  have hv := And.intro v0 v1
  clear hsu hsb v0 v1
  refine wpI_start (fun X => X.cell? ⟨g4, 0, none⟩ = some (.int .u32 (iv : Int)) ∧ X.cell? ⟨g4, 1, none⟩ = some (.int .u32 (tag : Int))) [0, 1, 2, 3, 4, 5, 6, 7, 8, 9] hmx rfl hwd ?_
  clear hwd
  iterate 7 (
    refine wpI_read (v := ?_) hv rfl (by kernel_rfl) (by kernel_rfl) (by kernel_rfl) (fun _ _ _ h => h) (.inl ⟨by rfl, ?_⟩) ?_
    rotate_left
    · intro X hX
      obtain ⟨j0, j1⟩ := hX
      go_simp
      with_reducible rfl
    try simp only [Act.put, List.setIfInBounds_toArray, List.set_cons_zero, List.set_cons_succ])
  refine wpI_lone rfl (by kernel_rfl) (fun K hK => ?_)
  go_simp
  refine HSU.out.mono ?_
  rintro ev w5 ⟨rfl, b5⟩
  replace HX := Lib.hid (HX.out.below b5 HX.out.lt)
  replace HY := Lib.hid (HY.out.below b5 HY.out.lt)
  replace HQ := Lib.hid (HQ.out.below b5 HQ.out.lt)
  replace HK := Lib.hid (HK.out.below b5 HK.out.lt)
  replace HA := Lib.hid (HA.out.step b5)
  replace HO := Lib.hid (own_below HO.out b5)
  replace HD := Lib.hid (HD.out.below b5)
  replace HB := Lib.hid (HB.out.trans (b5.mono HZ.out))
  replace HZ := Lib.hid (Nat.le_trans HZ.out b5.size)
  replace HV := Lib.hid (HV.out.below b5 HV.out.lt)
  have v0 : w5.cell? ⟨g4, 0, none⟩ = some (.int .u32 (iv : Int)) := HV.out.cell 0
  have v1 : w5.cell? ⟨g4, 1, none⟩ = some (.int .u32 (tag : Int)) := HV.out.cell 1
  have hv5 := And.intro v0 v1
  refine hK _ _ hv5 ?_
  clear hK K b5 HSU hv v0 v1
  try simp only [Act.put, List.setIfInBounds_toArray, List.set_cons_zero, List.set_cons_succ]
  iterate 1 (
    refine wpI_read (v := ?_) hv5 rfl (by kernel_rfl) (by kernel_rfl) (by kernel_rfl) (fun _ _ _ h => h) (.inl ⟨by rfl, ?_⟩) ?_
    rotate_left
    · intro X hX
      obtain ⟨j0, j1⟩ := hX
      go_simp
      with_reducible rfl
    try simp only [Act.put, List.setIfInBounds_toArray, List.set_cons_zero, List.set_cons_succ])
  refine wpI_lone rfl (by kernel_rfl) (fun K hK => ?_)
  go_simp
  obtain ⟨q6, k6, b6⟩ := box_five (L := g) HQ.out (by decide) HI.out.2.1 HB.out HI.out.2.1 (.int .i64 (k : Int)) (.int .u32 (birth : Int)) (.int .u32 (iv : Int)) (.int .u32 (tag : Int)) (.int .u32 (sb : Int))
  have n0 := ptZ0 HQ.out
  have n1 := ptZ1 HQ.out
  have n2 := ptZ2 HQ.out
  have n3 := ptZ3 HQ.out
  have n4 := ptZ4 HQ.out
  have hfq := fun i => HQ.out.frozen i
  have x6 := far5_bl HX.out HI.out.2.2.2.1.symm (.int .i64 (k : Int)) (.int .u32 (birth : Int)) (.int .u32 (iv : Int)) (.int .u32 (tag : Int)) (.int .u32 (sb : Int))
  have y6 := far5_bl HY.out HI.out.2.2.2.2.2.1 (.int .i64 (k : Int)) (.int .u32 (birth : Int)) (.int .u32 (iv : Int)) (.int .u32 (tag : Int)) (.int .u32 (sb : Int))
  have t6 := far5_bl HK.out (show g3 ≠ g2 by have := HG3.out.2.2.2.1; omega) (.int .i64 (k : Int)) (.int .u32 (birth : Int)) (.int .u32 (iv : Int)) (.int .u32 (tag : Int)) (.int .u32 (sb : Int))
  have v6 := far5_bl HV.out (show g4 ≠ g2 by have := HG3.out; omega) (.int .i64 (k : Int)) (.int .u32 (birth : Int)) (.int .u32 (iv : Int)) (.int .u32 (tag : Int)) (.int .u32 (sb : Int))
  obtain ⟨w6, hw6⟩ : ∃ w6, set5 w5 g2 (.int .i64 (k : Int)) (.int .u32 (birth : Int)) (.int .u32 (iv : Int)) (.int .u32 (tag : Int)) (.int .u32 (sb : Int)) = w6 := ⟨_, rfl⟩
  rw [hw6] at q6 k6 b6 x6 y6 t6 v6
  replace HX := Lib.hid x6
  replace HY := Lib.hid y6
  replace HK := Lib.hid t6
  replace HQ := Lib.hid q6
  replace HB := Lib.hid b6
  replace HO := Lib.hid (own_keeps HO.out (by decide) k6)
  replace HD := Lib.hid (outD_keeps HD.out k6)
  replace HZ := Lib.hid (Nat.le_trans HZ.out k6.size)
  have v0 : w6.cell? ⟨g4, 0, none⟩ = some (.int .u32 (iv : Int)) := v6.cell 0
  have v1 : w6.cell? ⟨g4, 1, none⟩ = some (.int .u32 (tag : Int)) := v6.cell 1
  have hv6 := And.intro v0 v1
  simp only [set5] at hw6
  clear q6 k6 b6 x6 y6 t6 v6 v0 v1 HV
  go_simp
  refine hK _ _ hv6 ?_
  clear hK K n0 n1 n2 n3 n4 hfq hv6 hw6 hv5
  try simp only [Act.put, List.setIfInBounds_toArray, List.set_cons_zero, List.set_cons_succ]
  refine wpI_done (by kernel_rfl) ?_
  have c0 := stC0 HX.out
  have c1 := stC1 HX.out
  have c2 := stC2 HX.out
  have c3 := stC3 HX.out
  have c4 := stC4 HX.out
  have t0 : w6.cell? ⟨g3, 0, none⟩ = some (.slice y.ba (withD S.1 (k : Int) b).1.length y.bc) := HK.out.cell 0
  have t1 : w6.cell? ⟨g3, 1, none⟩ = some (.slice y.wa (withD S.1 (k : Int) b).2.length y.wc) := HK.out.cell 1
  have hwi := stWith_any x S y (withD S.1 (k : Int) b) sa 256 sc w6
  simp only [dval] at hwi
  have HWI := Lib.hid hwi
  clear hwi
  go_wp2_with fail
  clear c0 c1 c2 c3 c4 t0 t1
  refine HWI.out.mono ?_
  rintro ev w7 ⟨rfl, b7⟩
  replace HY := Lib.hid (HY.out.below b7 HY.out.lt)
  replace HQ := Lib.hid (HQ.out.below b7 HQ.out.lt)
  replace HO := Lib.hid (own_below HO.out b7)
  replace HD := Lib.hid (HD.out.below b7)
  replace HB := Lib.hid (HB.out.trans (b7.mono HZ.out))
  replace HZ := Lib.hid (Nat.le_trans HZ.out b7.size)
  clear b7 HWI
  obtain ⟨y8, k8, b8⟩ := box_five (L := g) HY.out (by decide) HI.out.1 HB.out HI.out.1 (.slice y.ba (withD S.1 (k : Int) b).1.length y.bc) (.slice y.wa (withD S.1 (k : Int) b).2.length y.wc) (.slice sa 256 sc) (.int .u32 (S.2.2.1 : Int)) (.int .u32 (S.2.2.2 : Int))
  have q8 := far5_bl HQ.out HI.out.2.2.2.2.1 (.slice y.ba (withD S.1 (k : Int) b).1.length y.bc) (.slice y.wa (withD S.1 (k : Int) b).2.length y.wc) (.slice sa 256 sc) (.int .u32 (S.2.2.1 : Int)) (.int .u32 (S.2.2.2 : Int))
  have m0 := stZ0 HY.out
  have m1 := stZ1 HY.out
  have m2 := stZ2 HY.out
  have m3 := stZ3 HY.out
  have m4 := stZ4 HY.out
  have hfy := fun i => HY.out.frozen i
  obtain ⟨w8, hw8⟩ : ∃ w8, set5 w7 g1 (.slice y.ba (withD S.1 (k : Int) b).1.length y.bc) (.slice y.wa (withD S.1 (k : Int) b).2.length y.wc) (.slice sa 256 sc) (.int .u32 (S.2.2.1 : Int)) (.int .u32 (S.2.2.2 : Int)) = w8 := ⟨_, rfl⟩
  rw [hw8] at y8 k8 b8 q8
  have H8 := Lib.hid (newS_of (B'' := w.heap.size) HD.out HO.out (show (S.2.1.set k 1).length = 256 by rw [List.length_set]; exact HLE.out) (k8.more (Nat.zero_le _)) (k8.more (Nat.zero_le _)) (by rw [HG.out]; exact HZ1.out) (by rw [HG.out, HI.out.2.2.2.2.2.2]; omega) S.2.2.1 S.2.2.2)
  have HY8 := Lib.hid y8
  have HQ8 := Lib.hid q8
  have HB8 := Lib.hid b8
  simp only [set5] at hw8
  clear y8 k8 b8 q8
  go_wp2_with fail
  clear m0 m1 m2 m3 m4 hfy hw8
  have e0 := bx0 HY8.out
  have e1 := bx1 HY8.out
  have e2 := bx2 HY8.out
  have e3 := bx3 HY8.out
  have e4 := bx4 HY8.out
  have f0 := bx0 HQ8.out
  have f1 := bx1 HQ8.out
  have f2 := bx2 HQ8.out
  have f3 := bx3 HQ8.out
  have f4 := bx4 HQ8.out
  refine bodyPost_ret (v := .tuple #[.agg #[.slice y.ba (withD S.1 (k : Int) b).1.length y.bc, .slice y.wa (withD S.1 (k : Int) b).2.length y.wc, .slice sa 256 sc, .int .u32 (S.2.2.1 : Int), .int .u32 (S.2.2.2 : Int)], .agg #[.int .i64 (k : Int), .int .u32 (birth : Int), .int .u32 (iv : Int), .int .u32 (tag : Int), .int .u32 (sb : Int)], .int .i64 0]) (by simp [results, Tryz.f252, go_sem, e0, e1, e2, e3, e4, f0, f1, f2, f3, f4]) rfl ?_
  refine ⟨⟨y, sa, sc⟩, ?_, H8.out.1, H8.out.2, by rw [HG.out]; exact HB8.out⟩
  simp only [putR, stV, ptV]
  rw [show (S.2.1.set k 1).length = 256 by rw [List.length_set]; exact HLE.out, HSB.out]
  rfl
end Go.Proofs.YtafbidhbmfdlkaaGreatDoor
/-
  Store's own: Lay, Raw, Seal; what they answer is new memory, and nothing that was there is written.
-/
namespace Go.Proofs.YtafbidhbmfdlkaaGreatDoor
open Go.RowKit Go.Shelf
set_option maxRecDepth 100000

theorem Piece.keeps {L : Nat} {w w' : World} {B : Nat} {A : Option Addr} {l : Nat} (h : Piece w B A l) (k : Keeps L w w') : Piece w' B A l := h.imp id fun ⟨b, off, cs, e, hB, hb, hc⟩ => ⟨b, off, cs, e, hB, k.row _ _ _ hb (by decide), hc⟩
theorem Piece.lower {w : World} {B B' : Nat} {A : Option Addr} {l : Nat} (h : Piece w B A l) (hB : B' ≤ B) : Piece w B' A l := h.imp id fun ⟨b, off, cs, e, h1, hb, hc⟩ => ⟨b, off, cs, e, Nat.le_trans hB h1, hb, hc⟩
theorem Rows9.keeps {K : Nat} {w w' : World} {B : Nat} {a : Option Addr} {n : Nat} {t : TypeId} {st at_ : Nat} {L : Nat → Nat} (h : Rows9 w B a n t st at_ L) (ht : rowT t = true) (k : Keeps K w w') : Rows9 w' B a n t st at_ L :=
  h.imp id fun ⟨b, off, cs, e, hb, hc⟩ => ⟨b, off, cs, e, k.row _ _ _ hb ht, fun i hi => by
    obtain ⟨A, c, h1, h2⟩ := hc i hi
    exact ⟨A, c, h1, h2.keeps k⟩⟩
theorem Rows9.lower {w : World} {B B' : Nat} {a : Option Addr} {n : Nat} {t : TypeId} {st at_ : Nat} {L : Nat → Nat} (h : Rows9 w B a n t st at_ L) (hB : B' ≤ B) : Rows9 w B' a n t st at_ L :=
  h.imp id fun ⟨b, off, cs, e, hb, hc⟩ => ⟨b, off, cs, e, hb, fun i hi => by
    obtain ⟨A, c, h1, h2⟩ := hc i hi
    exact ⟨A, c, h1, h2.lower hB⟩⟩
theorem HiS.keeps {K B : Nat} {w w' : World} {x : SAt} {S : StL} (h : HiS w B x S) (k : Keeps K w w') : HiS w' B x S := ⟨h.1.keeps (by decide) k, h.2.1.keeps (by decide) k, h.2.2.keeps k⟩
theorem HiS.lower {B B' : Nat} {w : World} {x : SAt} {S : StL} (h : HiS w B x S) (hB : B' ≤ B) : HiS w B' x S := ⟨h.1.lower hB, h.2.1.lower hB, h.2.2.lower hB⟩
theorem stLaid_any (L : Nat) (x : SAt) (S : StL) (birth iv tag : Nat) (a : Option Addr) (c : Nat) (b : List UInt8) (sl : Value) (w : World) (h : StP L w x S) (hb : Bsl w w.heap.size a b.length c b) (hsl : BySl w sl iv tag) (hm : MayS S) (hbl : b.length = 256) :
    Calls Tryz.prog 252 #[stV x S, .int .u32 birth, .slice a b.length c, sl] w (NewSP (putR (putS S birth iv tag b)) w) := by
  rcases first_from (fun i => mkT S.2.1 i = 0) 0 256 with ⟨k, _, hk, hz, h0⟩ | h0
  · rcases Nat.lt_or_ge S.1.2.length 4096 with hw | hw
    · exact stLaid_ok L x S birth iv tag a c b sl w h hb hsl hm hbl k hk hz (fun i hi => h0 i (Nat.zero_le _) hi) hw
    · exact stLaid_great L x S birth iv tag a c b sl w h hb hsl hm hbl k hk hz (fun i hi => h0 i (Nat.zero_le _) hi) hw
  · exact stLaid_full L x S birth iv tag a c b sl w h hb hsl hm hbl (fun i hi => h0 i (Nat.zero_le _) hi)
theorem rawO_wrong {S : StL} {birth iv tag z : Nat} {b : List UInt8} (h : wrongO S birth b.length = z) (hz : z ≠ 0) : rawO S birth iv tag b = (st0, p0, z) := by
  unfold wrongO at h
  unfold rawO
  split at h
  · rw [if_pos (by assumption)]
    split at h
    · rw [if_pos (by assumption)]
      split at h
      · exact absurd h.symm hz
      · rw [if_neg (by assumption), ← h]
    · rw [if_neg (by assumption), ← h]
  · rw [if_neg (by assumption), ← h]
theorem wrongO_no {S : StL} {birth n : Nat} (h : wrongO S birth n = 0) : MayS S ∧ (1 ≤ birth ∧ birth ≤ 16777215) ∧ n = 256 := by
  unfold wrongO at h
  split at h
  · split at h
    · split at h
      · exact ⟨by assumption, by assumption, by assumption⟩
      · cases h
    · cases h
  · cases h
theorem rawO_right {S : StL} {birth iv tag : Nat} {b : List UInt8} (h : wrongO S birth b.length = 0) : rawO S birth iv tag b = putR (putS S birth iv tag b) := by
  obtain ⟨h1, h2, h3⟩ := wrongO_no h
  unfold rawO
  rw [if_pos h1, if_pos h2, if_pos h3]
set_option maxHeartbeats 4000000 in
theorem stLay_any (L : Nat) (x : SAt) (S : StL) (birth : Nat) (a : Option Addr) (c : Nat) (b : List UInt8) (w : World) (h : StP L w x S) (hb : Bsl w w.heap.size a b.length c b) (_ho : OkS S) (hL : L ≤ w.heap.size) (_hbi : birth < 4294967296) : Calls Tryz.prog 187 #[stV x S, .int .u32 birth, .slice a b.length c] w (NewSP (rawO S birth 0 0 b) w) := by
  obtain ⟨o, ho'⟩ : ∃ o, rawO S birth 0 0 b = o := ⟨_, rfl⟩
  obtain ⟨w0, hw0, b0, z0, x0, y0, q0⟩ := three_al w (stC x S) stZ ptZ 29 29 31
  obtain ⟨g, hg⟩ : ∃ g, w.heap.size = g := ⟨_, rfl⟩
  obtain ⟨g1, hg1⟩ : ∃ g1, g + 1 = g1 := ⟨_, rfl⟩
  obtain ⟨g2, hg2⟩ : ∃ g2, g1 + 1 = g2 := ⟨_, rfl⟩
  have h0 := h.bel b0
  have hb0 := hb.step b0
  have _ := hL
  rw [hg] at x0 y0 q0 z0 b0
  rw [hg1] at y0
  rw [show g + 2 = g1 + 1 by omega, hg2] at q0
  have HI := Lib.hid (show g ≤ g1 ∧ g ≤ g2 ∧ g1 ≠ g ∧ g2 ≠ g ∧ g2 ≠ g1 ∧ g1 ≠ g2 ∧ w0.heap.size = g + 3 by omega)
  have c0 := stC0 x0
  have c1 := stC1 x0
  have c2 := stC2 x0
  have c3 := stC3 x0
  have c4 := stC4 x0
  have HX := Lib.hid x0
  have HY := Lib.hid y0
  have HQ := Lib.hid q0
  have HB := Lib.hid b0
  have HS := Lib.hid h0
  have HA := Lib.hid hb0
  have HG := Lib.hid hg
  have HZ := Lib.hid (show g ≤ w0.heap.size by omega)
  have HOO := Lib.hid ho'
  rw [ho']
  obtain ⟨z, hz⟩ : ∃ z, wrongO S birth b.length = z := ⟨_, rfl⟩
  have HZZ := Lib.hid hz
  have HWR := Lib.hid (stWrong_any L x S birth a b.length c w0 h0 z hz)
  simp only [stC, stZ, ptZ] at hw0
  clear h hb h0 hb0 x0 y0 q0 b0 z0 ho' hz hL
  by_cases hz0 : z = 0
  · subst hz0
    have hoo := HOO.out
    rw [rawO_right HZZ.out] at hoo
    obtain ⟨hms, hbr, hbl⟩ := wrongO_no HZZ.out
    have HMS := Lib.hid hms
    have HBL := Lib.hid hbl
    have HO := Lib.hid hoo
    clear hoo hms hbr hbl
    have e1 : (((0 : Nat) : Int) != 0) = false := rfl
    go_enter Tryz.func187, Tryz.ntmps187
    go_wp2_with fail
    clear c0 c1 c2 c3 c4 hw0
    refine HWR.out.mono ?_
    rintro e w1 ⟨rfl, b1⟩
    replace HX := Lib.hid (HX.out.below b1 HX.out.lt)
    replace HY := Lib.hid (HY.out.below b1 HY.out.lt)
    replace HQ := Lib.hid (HQ.out.below b1 HQ.out.lt)
    replace HS := Lib.hid (HS.out.bel b1)
    replace HA := Lib.hid (HA.out.step b1)
    replace HB := Lib.hid (HB.out.trans (b1.mono HZ.out))
    replace HZ := Lib.hid (Nat.le_trans HZ.out b1.size)
    have c0 := stC0 HX.out
    have c1 := stC1 HX.out
    have c2 := stC2 HX.out
    have c3 := stC3 HX.out
    have c4 := stC4 HX.out
    have hld := stLaid_any L x S birth 0 0 a c b (.slice none 0 0) w1 HS.out HA.out (.inl ⟨rfl, rfl, rfl⟩) HMS.out HBL.out
    rw [HO.out] at hld
    have HLD := Lib.hid hld
    clear hld b1 HWR
    go_wp2_with fail
    clear c0 c1 c2 c3 c4
    obtain ⟨T, ⟨pa, pb, pi, pt, ps⟩, ze⟩ := o
    simp only [stV] at HLD
    refine HLD.out.mono ?_
    rintro ev w9 ⟨y, rfl, ht, hh, b9⟩
    replace HY := Lib.hid (HY.out.below b9 HY.out.lt)
    replace HQ := Lib.hid (HQ.out.below b9 HQ.out.lt)
    replace HB := Lib.hid (HB.out.trans (b9.mono HZ.out))
    have HT := Lib.hid ht
    have HH := Lib.hid (hh.lower (Nat.le_refl _))
    clear ht hh b9 HLD
    obtain ⟨ya, ka, ba⟩ := box_five (L := g) HY.out (by decide) HI.out.1 HB.out HI.out.1 (.slice y.d.ba T.1.1.length y.d.bc) (.slice y.d.wa T.1.2.length y.d.wc) (.slice y.a T.2.1.length y.c) (.int .u32 (T.2.2.1 : Int)) (.int .u32 (T.2.2.2 : Int))
    have qa := far5_bl HQ.out HI.out.2.2.2.2.1 (.slice y.d.ba T.1.1.length y.d.bc) (.slice y.d.wa T.1.2.length y.d.wc) (.slice y.a T.2.1.length y.c) (.int .u32 (T.2.2.1 : Int)) (.int .u32 (T.2.2.2 : Int))
    have m0 := stZ0 HY.out
    have m1 := stZ1 HY.out
    have m2 := stZ2 HY.out
    have m3 := stZ3 HY.out
    have m4 := stZ4 HY.out
    have hfy := fun i => HY.out.frozen i
    obtain ⟨wa, hwa⟩ : ∃ wa, set5 w9 g1 (.slice y.d.ba T.1.1.length y.d.bc) (.slice y.d.wa T.1.2.length y.d.wc) (.slice y.a T.2.1.length y.c) (.int .u32 (T.2.2.1 : Int)) (.int .u32 (T.2.2.2 : Int)) = wa := ⟨_, rfl⟩
    rw [hwa] at ya ka ba qa
    obtain ⟨qb, kb, bb⟩ := box_five (L := g) qa (by decide) HI.out.2.1 ba HI.out.2.1 (.int .i64 pa) (.int .u32 (pb : Int)) (.int .u32 (pi : Int)) (.int .u32 (pt : Int)) (.int .u32 (ps : Int))
    have yb := far5_bl ya HI.out.2.2.2.2.2.1 (.int .i64 pa) (.int .u32 (pb : Int)) (.int .u32 (pi : Int)) (.int .u32 (pt : Int)) (.int .u32 (ps : Int))
    have n0 := ptZ0 qa
    have n1 := ptZ1 qa
    have n2 := ptZ2 qa
    have n3 := ptZ3 qa
    have n4 := ptZ4 qa
    have hfq := fun i => qa.frozen i
    obtain ⟨wb, hwb⟩ : ∃ wb, set5 wa g2 (.int .i64 pa) (.int .u32 (pb : Int)) (.int .u32 (pi : Int)) (.int .u32 (pt : Int)) (.int .u32 (ps : Int)) = wb := ⟨_, rfl⟩
    rw [hwb] at qb kb bb yb
    have HKK := Lib.hid (ka.trans kb)
    have HBF := Lib.hid bb
    have HYF := Lib.hid yb
    have HQF := Lib.hid qb
    simp only [set5] at hwa hwb
    clear ya ka ba qa qb kb bb yb
    go_wp2_with fail
    clear m0 m1 m2 m3 m4 n0 n1 n2 n3 n4 hfy hfq hwa hwb
    have e0 := bx0 HYF.out
    have e1 := bx1 HYF.out
    have e2 := bx2 HYF.out
    have e3 := bx3 HYF.out
    have e4 := bx4 HYF.out
    have f0 := bx0 HQF.out
    have f1 := bx1 HQF.out
    have f2 := bx2 HQF.out
    have f3 := bx3 HQF.out
    have f4 := bx4 HQF.out
    refine bodyPost_ret (v := .tuple #[.agg #[.slice y.d.ba T.1.1.length y.d.bc, .slice y.d.wa T.1.2.length y.d.wc, .slice y.a T.2.1.length y.c, .int .u32 (T.2.2.1 : Int), .int .u32 (T.2.2.2 : Int)], .agg #[.int .i64 pa, .int .u32 (pb : Int), .int .u32 (pi : Int), .int .u32 (pt : Int), .int .u32 (ps : Int)], .int .i64 ze]) (by simp [results, Tryz.f187, go_sem, e0, e1, e2, e3, e4, f0, f1, f2, f3, f4]) rfl ?_
    exact ⟨y, rfl, HT.out.step (HKK.out.more (Nat.zero_le _)), (HH.out.keeps HKK.out).lower (by rw [HG.out]; exact HZ.out), by rw [HG.out]; exact HBF.out⟩
  · have hoo := HOO.out
    rw [rawO_wrong HZZ.out hz0] at hoo
    subst hoo
    have e1 : ((z : Int) != 0) = true := by simp; omega
    have e2 : ¬ ((z : Int) = 0) := by omega
    clear hz0
    go_enter Tryz.func187, Tryz.ntmps187
    go_wp2_with fail
    clear c0 c1 c2 c3 c4 hw0
    refine HWR.out.mono ?_
    rintro e w1 ⟨rfl, b1⟩
    replace HX := Lib.hid (HX.out.below b1 HX.out.lt)
    replace HY := Lib.hid (HY.out.below b1 HY.out.lt)
    replace HQ := Lib.hid (HQ.out.below b1 HQ.out.lt)
    replace HS := Lib.hid (HS.out.bel b1)
    replace HA := Lib.hid (HA.out.step b1)
    replace HB := Lib.hid (HB.out.trans (b1.mono HZ.out))
    replace HZ := Lib.hid (Nat.le_trans HZ.out b1.size)
    clear b1
    have m0 := stZ0 HY.out
    have m1 := stZ1 HY.out
    have m2 := stZ2 HY.out
    have m3 := stZ3 HY.out
    have m4 := stZ4 HY.out
    have n0 := ptZ0 HQ.out
    have n1 := ptZ1 HQ.out
    have n2 := ptZ2 HQ.out
    have n3 := ptZ3 HQ.out
    have n4 := ptZ4 HQ.out
    go_wp2_with fail
    refine bodyPost_ret (v := .tuple #[.agg #[.slice none 0 0, .slice none 0 0, .slice none 0 0, .int .u32 0, .int .u32 0], .agg #[.int .i64 0, .int .u32 0, .int .u32 0, .int .u32 0, .int .u32 0], .int .i64 z]) (by simp [results, Tryz.f187, go_sem, m0, m1, m2, m3, m4, n0, n1, n2, n3, n4]) rfl ?_
    exact newSP_zero z (by rw [HG.out]; exact HB.out)
end Go.Proofs.YtafbidhbmfdlkaaGreatDoor
