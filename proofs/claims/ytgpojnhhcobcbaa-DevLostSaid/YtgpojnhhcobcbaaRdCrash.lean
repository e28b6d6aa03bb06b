/-
  The document's own Crash for layer 9.
-/
import Derived.Test.YtgpojnhhcobcbaaRdFlush
namespace Go.Proofs.Ytgpojnhhcobcbaa
open Go.RowKit Go.Shelf
set_option maxRecDepth 100000

theorem kept_full {D : DkL} {ks : List Bool} (h : ks.length = D.2.length) : keptD D (markF ks) = keptD D (fun i => ks.getD i false) := by
  unfold keptD
  have : leftD D (markF ks) = leftD D (fun i => ks.getD i false) := funext fun p => markF_full h p
  rw [this]
set_option maxHeartbeats 1000000 in
theorem rdCrash_any (x : DAt) (D : DkL) (a : Option Addr) (n c : Nat) (ks : List Bool) (w : World) (h : Dsk w w.heap.size x D) (hk : Mks w w.heap.size a n c ks) : Calls Try.prog 29 #[dval x D, .slice a n c] w (RefD (crashO D ks) w) := by
  have hkn := hk.1
  have n1 := hk.len_le
  have m1 := h.2.len_le
  have n0 : (0 : Int) ≤ n := by omega
  obtain ⟨w0, hw0, b0, z0, x0, x1⟩ := two_boxes w (.slice x.ba D.1.length x.bc) (.slice x.wa D.2.length x.wc)
  have h0 := h.step b0
  have hk0 := hk.step b0
  have c0 := x0.cell 0
  have c1 := x0.cell 1
  unfold crashO
  have HX0 := Lib.hid x0
  have HX1 := Lib.hid x1
  have HB := Lib.hid b0
  by_cases he : ks.length = D.2.length
  · have ha := rdAsk_any x D true w0 h0
    unfold askO at ha
    have hne : ((n : Int) == (D.2.length : Nat)) = true := by simp; omega
    by_cases hm : MayD D
    · rw [if_pos hm] at ha ⊢
      rw [if_pos rfl] at ha
      rw [if_pos he]
      have hkp : ∀ W, Below w0.heap.size w0 W → Calls Try.prog 53 #[dval x D, .slice a n c] W (DskPost (keptD D (fun i => ks.getD i false)) W) := fun W hW => by
        have := rdKept_any x D a n c ks W (h0.step hW) (hk0.step hW) (.inr (by omega)) hm
        rwa [kept_full he] at this
      obtain ⟨E, hE⟩ : ∃ E, keptD D (fun i => ks.getD i false) = E := ⟨_, rfl⟩
      rw [hE] at hkp ⊢
      simp only [dval] at ha hkp ⊢
      have HA := Lib.hid ha
      have HKP := Lib.hid hkp
      clear ha hkp x0 x1 b0 z0 h0 h hm hE hk hk0 he hkn
      go_enter Try.func29, Try.ntmps29
      go_wp2_with fail
      clear hw0 c0 c1 hne
      refine HA.out.mono ?_
      rintro e w1 ⟨rfl, b1⟩
      have c0 := (HX0.out.below b1 HX0.out.lt).cell 0
      have c1 := (HX0.out.below b1 HX0.out.lt).cell 1
      have HY := Lib.hid (HX1.out.below b1 HX1.out.lt)
      have HB1 := Lib.hid (HB.out.trans (b1.mono HB.out.size))
      have HK1 := Lib.hid (HKP.out w1 b1)
      clear b1
      go_wp2_with fail
      clear c0 c1
      refine HK1.out.mono ?_
      rintro e w2 ⟨x', rfl, hd, b2⟩
      clear HK1 HKP HA HX0 HX1 HB
      have HY2 := Lib.hid (HY.out.below b2 HY.out.lt)
      have HB2 := Lib.hid (HB1.out.trans (b2.mono HB1.out.size))
      have d0 := HY2.out.cell 0
      have d1 := HY2.out.cell 1
      have hf := fun i => HY2.out.frozen i
      have HD := Lib.hid hd
      clear b2 hd HB1 HY
      simp only [dval]
      go_wp2_with fail
      have hBF := (HB2.out.setCell (p := ⟨w.heap.size + 1, 0, none⟩) (Nat.le_add_right _ _) (.slice x'.ba E.1.length x'.bc)).setCell (p := ⟨w.heap.size + 1, 1, none⟩) (Nat.le_add_right _ _) (.slice x'.wa E.2.length x'.wc)
      have hXF := (HY2.out.set_ 0 (.slice x'.ba E.1.length x'.bc)).set_ 1 (.slice x'.wa E.2.length x'.wc)
      have hDF := HD.out.2 _ _ (.slice x'.ba E.1.length x'.bc) (.slice x'.wa E.2.length x'.wc) HY2.out
      have hzf : ((w2.setCell ⟨w.heap.size + 1, 0, none⟩ (.slice x'.ba E.1.length x'.bc)).setCell ⟨w.heap.size + 1, 1, none⟩ (.slice x'.wa E.2.length x'.wc)).heap.size = w2.heap.size := by simp
      rw [← hzf] at hDF
      clear hzf
      obtain ⟨wf, hwf⟩ : ∃ wf, ((w2.setCell ⟨w.heap.size + 1, 0, none⟩ (.slice x'.ba E.1.length x'.bc)).setCell ⟨w.heap.size + 1, 1, none⟩ (.slice x'.wa E.2.length x'.wc)) = wf := ⟨_, rfl⟩
      rw [hwf] at hBF hXF hDF ⊢
      clear hwf d0 d1 hf
      have e0 := hXF.cell 0
      have e1 := hXF.cell 1
      exact bodyPost_ret (v := .tuple #[.agg #[.slice x'.ba E.1.length x'.bc, .slice x'.wa E.2.length x'.wc], .int .i64 0]) (by simp [results, Try.f29, go_sem, e0, e1]) rfl ⟨x', rfl, hDF, hBF⟩
    · rw [if_neg hm] at ha ⊢
      simp only [dval] at ha ⊢
      have HA := Lib.hid ha
      clear ha x0 x1 b0 z0 h0 h hm hk hk0 he hkn
      go_enter Try.func29, Try.ntmps29
      go_wp2_with fail
      clear hw0 c0 c1 hne
      refine HA.out.mono ?_
      rintro e w1 ⟨rfl, b1⟩
      have HY := Lib.hid (HX1.out.below b1 HX1.out.lt)
      have HB1 := Lib.hid (HB.out.trans (b1.mono HB.out.size))
      clear b1
      have d0 := HY.out.cell 0
      have d1 := HY.out.cell 1
      have hf := fun i => HY.out.frozen i
      go_wp2_with fail
      have hBF := (HB1.out.setCell (p := ⟨w.heap.size + 1, 0, none⟩) (Nat.le_add_right _ _) (.slice none 0 0)).setCell (p := ⟨w.heap.size + 1, 1, none⟩) (Nat.le_add_right _ _) (.slice none 0 0)
      have hXF := (HY.out.set_ 0 (.slice none 0 0)).set_ 1 (.slice none 0 0)
      obtain ⟨wf, hwf⟩ : ∃ wf, ((w1.setCell ⟨w.heap.size + 1, 0, none⟩ (.slice none 0 0)).setCell ⟨w.heap.size + 1, 1, none⟩ (.slice none 0 0)) = wf := ⟨_, rfl⟩
      rw [hwf] at hBF hXF ⊢
      clear hwf d0 d1 hf
      have e0 := hXF.cell 0
      have e1 := hXF.cell 1
      exact bodyPost_ret (v := .tuple #[.agg #[.slice none 0 0, .slice none 0 0], .int .i64 8]) (by simp [results, Try.f29, go_sem, e0, e1]) rfl (refD_no rfl hBF)
  · have ha := rdAsk_any x D false w0 h0
    unfold askO at ha
    have hne : ((n : Int) == (D.2.length : Nat)) = false := by simp; omega
    rw [if_neg (show ¬ (false = true) by decide)] at ha
    by_cases hm : MayD D
    · rw [if_pos hm] at ha ⊢
      rw [if_neg he]
      simp only [dval] at ha ⊢
      have HA := Lib.hid ha
      clear ha x0 x1 b0 z0 h0 h hm hk hk0 he hkn
      go_enter Try.func29, Try.ntmps29
      go_wp2_with fail
      clear hw0 c0 c1 hne
      refine HA.out.mono ?_
      rintro e w1 ⟨rfl, b1⟩
      have HY := Lib.hid (HX1.out.below b1 HX1.out.lt)
      have HB1 := Lib.hid (HB.out.trans (b1.mono HB.out.size))
      clear b1
      have d0 := HY.out.cell 0
      have d1 := HY.out.cell 1
      have hf := fun i => HY.out.frozen i
      go_wp2_with fail
      have hBF := (HB1.out.setCell (p := ⟨w.heap.size + 1, 0, none⟩) (Nat.le_add_right _ _) (.slice none 0 0)).setCell (p := ⟨w.heap.size + 1, 1, none⟩) (Nat.le_add_right _ _) (.slice none 0 0)
      have hXF := (HY.out.set_ 0 (.slice none 0 0)).set_ 1 (.slice none 0 0)
      obtain ⟨wf, hwf⟩ : ∃ wf, ((w1.setCell ⟨w.heap.size + 1, 0, none⟩ (.slice none 0 0)).setCell ⟨w.heap.size + 1, 1, none⟩ (.slice none 0 0)) = wf := ⟨_, rfl⟩
      rw [hwf] at hBF hXF ⊢
      clear hwf d0 d1 hf
      have e0 := hXF.cell 0
      have e1 := hXF.cell 1
      exact bodyPost_ret (v := .tuple #[.agg #[.slice none 0 0, .slice none 0 0], .int .i64 2]) (by simp [results, Try.f29, go_sem, e0, e1]) rfl (refD_no rfl hBF)
    · rw [if_neg hm] at ha ⊢
      simp only [dval] at ha ⊢
      have HA := Lib.hid ha
      clear ha x0 x1 b0 z0 h0 h hm hk hk0 he hkn
      go_enter Try.func29, Try.ntmps29
      go_wp2_with fail
      clear hw0 c0 c1 hne
      refine HA.out.mono ?_
      rintro e w1 ⟨rfl, b1⟩
      have HY := Lib.hid (HX1.out.below b1 HX1.out.lt)
      have HB1 := Lib.hid (HB.out.trans (b1.mono HB.out.size))
      clear b1
      have d0 := HY.out.cell 0
      have d1 := HY.out.cell 1
      have hf := fun i => HY.out.frozen i
      go_wp2_with fail
      have hBF := (HB1.out.setCell (p := ⟨w.heap.size + 1, 0, none⟩) (Nat.le_add_right _ _) (.slice none 0 0)).setCell (p := ⟨w.heap.size + 1, 1, none⟩) (Nat.le_add_right _ _) (.slice none 0 0)
      have hXF := (HY.out.set_ 0 (.slice none 0 0)).set_ 1 (.slice none 0 0)
      obtain ⟨wf, hwf⟩ : ∃ wf, ((w1.setCell ⟨w.heap.size + 1, 0, none⟩ (.slice none 0 0)).setCell ⟨w.heap.size + 1, 1, none⟩ (.slice none 0 0)) = wf := ⟨_, rfl⟩
      rw [hwf] at hBF hXF ⊢
      clear hwf d0 d1 hf
      have e0 := hXF.cell 0
      have e1 := hXF.cell 1
      exact bodyPost_ret (v := .tuple #[.agg #[.slice none 0 0, .slice none 0 0], .int .i64 8]) (by simp [results, Try.f29, go_sem, e0, e1]) rfl (refD_no rfl hBF)
end Go.Proofs.Ytgpojnhhcobcbaa
