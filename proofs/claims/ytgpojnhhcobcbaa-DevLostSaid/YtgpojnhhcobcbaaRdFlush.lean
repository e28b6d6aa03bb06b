/-
  The document's own Flush and Crash for layer 9.
-/
import Derived.Test.YtgpojnhhcobcbaaRdKept
namespace Go.Proofs.Ytgpojnhhcobcbaa
open Go.RowKit Go.Shelf
set_option maxRecDepth 100000

/-- A disk and an error are answered. -/
def RefD (o : DkL × Int) (w : World) (e : Ending) (w' : World) : Prop := ∃ x', e = .returned (.tuple #[dval x' o.1, .int .i64 o.2]) ∧ Dsk w' w'.heap.size x' o.1 ∧ Below w.heap.size w w'
theorem refD_no {c : Int} {w : World} {e : Ending} {w' : World} (he : e = .returned (.tuple #[.agg #[.slice none 0 0, .slice none 0 0], .int .i64 c])) (hb : Below w.heap.size w w') : RefD (([], []), c) w e w' := ⟨⟨none, 0, none, 0⟩, he, ⟨bls_nil _ _, wts_nil _ _⟩, hb⟩
set_option maxHeartbeats 1000000 in
theorem rdFlush_any (x : DAt) (D : DkL) (w : World) (h : Dsk w w.heap.size x D) : Calls Try.prog 28 #[dval x D] w (RefD (flushO D) w) := by
  obtain ⟨w0, hw0, b0, z0, x0, x1⟩ := two_boxes w (.slice x.ba D.1.length x.bc) (.slice x.wa D.2.length x.wc)
  have h0 := h.step b0
  have c0 := x0.cell 0
  have c1 := x0.cell 1
  have ha := rdAsk_any x D true w0 h0
  unfold flushO
  unfold askO at ha
  by_cases hm : MayD D
  · rw [if_pos hm] at ha ⊢
    rw [if_pos rfl] at ha
    have hkp : ∀ W, Below w0.heap.size w0 W → Calls Try.prog 53 #[dval x D, .slice none 0 0] W (DskPost (keptD D (fun _ => true)) W) := fun W hW => by
      have := rdKept_any x D none 0 0 [] W (h0.step hW) (mks_nil _ _) (.inl rfl) hm
      rwa [markF_nil] at this
    obtain ⟨E, hE⟩ : ∃ E, keptD D (fun _ => true) = E := ⟨_, rfl⟩
    rw [hE] at hkp ⊢
    simp only [dval] at ha hkp ⊢
    have HA := Lib.hid ha
    have HKP := Lib.hid hkp
    have HX0 := Lib.hid x0
    have HX1 := Lib.hid x1
    have HB := Lib.hid b0
    clear ha hkp x0 x1 b0 z0 h0 h hm hE
    go_enter Try.func28, Try.ntmps28
    go_wp2_with fail
    clear hw0 c0 c1
    refine HA.out.mono ?_
    rintro e w1 ⟨rfl, b1⟩
    have c0 := (HX0.out.below b1 HX0.out.lt).cell 0
    have c1 := (HX0.out.below b1 HX0.out.lt).cell 1
    have HY := Lib.hid (HX1.out.below b1 HX1.out.lt)
    have HB1 := Lib.hid (HB.out.trans (b1.mono HB.out.size))
    have HK1 := Lib.hid (HKP.out w1 b1)
    clear b1
    go_wp2_with fail
    clear c0 c1
    refine HK1.out.mono ?_
    rintro e w2 ⟨x', rfl, hd, b2⟩
    have HY2 := Lib.hid (HY.out.below b2 HY.out.lt)
    have HB2 := Lib.hid (HB1.out.trans (b2.mono HB1.out.size))
    have d0 := HY2.out.cell 0
    have d1 := HY2.out.cell 1
    have hf := fun i => HY2.out.frozen i
    have HD := Lib.hid hd
    clear b2 hd HK1 HA HX0 HX1 HB HB1 HY
    simp only [dval]
    go_wp2_with fail
    have hBF := (HB2.out.setCell (p := ⟨w.heap.size + 1, 0, none⟩) (Nat.le_add_right _ _) (.slice x'.ba E.1.length x'.bc)).setCell (p := ⟨w.heap.size + 1, 1, none⟩) (Nat.le_add_right _ _) (.slice x'.wa E.2.length x'.wc)
    have hXF := (HY2.out.set_ 0 (.slice x'.ba E.1.length x'.bc)).set_ 1 (.slice x'.wa E.2.length x'.wc)
    have hDF := HD.out.2 _ _ (.slice x'.ba E.1.length x'.bc) (.slice x'.wa E.2.length x'.wc) HY2.out
    have hzf : ((w2.setCell ⟨w.heap.size + 1, 0, none⟩ (.slice x'.ba E.1.length x'.bc)).setCell ⟨w.heap.size + 1, 1, none⟩ (.slice x'.wa E.2.length x'.wc)).heap.size = w2.heap.size := by simp
    rw [← hzf] at hDF
    clear hzf
    obtain ⟨wf, hwf⟩ : ∃ wf, ((w2.setCell ⟨w.heap.size + 1, 0, none⟩ (.slice x'.ba E.1.length x'.bc)).setCell ⟨w.heap.size + 1, 1, none⟩ (.slice x'.wa E.2.length x'.wc)) = wf := ⟨_, rfl⟩
    rw [hwf] at hBF hXF hDF ⊢
    clear hwf d0 d1 hf
    have e0 := hXF.cell 0
    have e1 := hXF.cell 1
    exact bodyPost_ret (v := .tuple #[.agg #[.slice x'.ba E.1.length x'.bc, .slice x'.wa E.2.length x'.wc], .int .i64 0]) (by simp [results, Try.f28, go_sem, e0, e1]) rfl ⟨x', rfl, hDF, hBF⟩
  · rw [if_neg hm] at ha ⊢
    simp only [dval] at ha ⊢
    have HA := Lib.hid ha
    have HX1 := Lib.hid x1
    have HB := Lib.hid b0
    clear ha x0 x1 b0 z0 h0 h hm
    go_enter Try.func28, Try.ntmps28
    go_wp2_with fail
    clear hw0 c0 c1
    refine HA.out.mono ?_
    rintro e w1 ⟨rfl, b1⟩
    have HY := Lib.hid (HX1.out.below b1 HX1.out.lt)
    have HB1 := Lib.hid (HB.out.trans (b1.mono HB.out.size))
    clear b1
    have d0 := HY.out.cell 0
    have d1 := HY.out.cell 1
    have hf := fun i => HY.out.frozen i
    go_wp2_with fail
    have hBF := (HB1.out.setCell (p := ⟨w.heap.size + 1, 0, none⟩) (Nat.le_add_right _ _) (.slice none 0 0)).setCell (p := ⟨w.heap.size + 1, 1, none⟩) (Nat.le_add_right _ _) (.slice none 0 0)
    have hXF := (HY.out.set_ 0 (.slice none 0 0)).set_ 1 (.slice none 0 0)
    obtain ⟨wf, hwf⟩ : ∃ wf, ((w1.setCell ⟨w.heap.size + 1, 0, none⟩ (.slice none 0 0)).setCell ⟨w.heap.size + 1, 1, none⟩ (.slice none 0 0)) = wf := ⟨_, rfl⟩
    rw [hwf] at hBF hXF ⊢
    clear hwf d0 d1 hf
    have e0 := hXF.cell 0
    have e1 := hXF.cell 1
    exact bodyPost_ret (v := .tuple #[.agg #[.slice none 0 0, .slice none 0 0], .int .i64 8]) (by simp [results, Try.f28, go_sem, e0, e1]) rfl (refD_no rfl hBF)
end Go.Proofs.Ytgpojnhhcobcbaa
