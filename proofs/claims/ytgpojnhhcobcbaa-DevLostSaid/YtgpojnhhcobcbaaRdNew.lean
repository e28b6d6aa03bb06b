/-
  The document's own New for layer 9: a new disk is 256 blocks of noughts.
-/
import Derived.Test.YtgpojnhhcobcbaaRdTwin
import Derived.Test.YtgpojnhhcobcbaaDevNew
namespace Go.Proofs.Ytgpojnhhcobcbaa
open Go.RowKit Go.Shelf
set_option maxRecDepth 100000

/-- A disk is answered. -/
def DskPost (D : DkL) (w : World) (e : Ending) (w' : World) : Prop := ∃ x', e = .returned (dval x' D) ∧ DskT w' x' D ∧ Below w.heap.size w w'
theorem TwinPost.dsk {D : DkL} {w w' : World} {e : Ending} (h : TwinPost D w e w') : DskPost D w e w' := by
  obtain ⟨x', h1, h2, h3⟩ := h
  exact ⟨x', h1, h2.dskT, h3⟩
/-- Rows whose first k are blocks of noughts. -/
def NewI (hb : Nat) (Z : List UInt8) (k : Nat) (w : World) : Prop :=
  ∃ cb, Blk w hb 30 cb ∧ cb.size = 256 ∧ ∀ i, i < k → ∃ g, cb[i]? = some (.slice (some ⟨g, 0, none⟩) 256 256) ∧ Blk w g 5 (ar Z)
theorem NewI.next {hb k : Nat} {Z : List UInt8} {w : World} (h : NewI hb Z k w) (hk : k < 256) : NewI hb Z (k + 1) ((w.alloc (.cells (ar Z) 5)).setCell ⟨hb, k, none⟩ (.slice (some ⟨w.heap.size, 0, none⟩) 256 256)) := by
  obtain ⟨cb, h1, h2, h3⟩ := h
  have x1 := h1.alloc (.cells (ar Z) 5)
  have xn := Blk.new w 5 (ar Z)
  have hne : ∀ {g : Nat} {cs : Array Value}, Blk (w.alloc (.cells (ar Z) 5)) g 5 cs → g ≠ hb := fun hg => hg.ne x1 (by decide)
  refine ⟨_, x1.set_ k _, by simpa using h2, fun i hi => ?_⟩
  rw [Array.getElem?_setIfInBounds]
  by_cases e : k = i
  · subst e
    rw [if_pos rfl, if_pos (by omega)]
    exact ⟨_, rfl, xn.far (by simpa using hne xn) _⟩
  · rw [if_neg e]
    obtain ⟨g, h4, h5⟩ := h3 i (by omega)
    have h6 := h5.alloc (.cells (ar Z) 5)
    exact ⟨g, h4, h6.far (by simpa using hne h6) _⟩
theorem NewI.far {hb k g : Nat} {Z : List UInt8} {w : World} {cs : Array Value} (h : NewI hb Z k w) (hg : Blk w g 25 cs) (u v : Value) : NewI hb Z k ((w.setCell ⟨g, 0, none⟩ u).setCell ⟨g, 1, none⟩ v) := by
  obtain ⟨cb, h1, h2, h3⟩ := h
  have hn1 : hb ≠ g := h1.ne hg (by decide)
  refine ⟨cb, (h1.far (p := ⟨g, 0, none⟩) hn1 u).far (p := ⟨g, 1, none⟩) hn1 v, h2, fun i hi => ?_⟩
  obtain ⟨g', h4, h5⟩ := h3 i hi
  have hn2 : g' ≠ g := h5.ne hg (by decide)
  exact ⟨g', h4, (h5.far (p := ⟨g, 0, none⟩) hn2 u).far (p := ⟨g, 1, none⟩) hn2 v⟩
theorem NewI.dsk {hb : Nat} {Z : List UInt8} {w : World} (h : NewI hb Z 256 w) (hZ : List.replicate 256 0 = Z) : Dsk w w.heap.size ⟨some ⟨hb, 0, none⟩, 256, none, 0⟩ newD := by
  obtain ⟨cb, y1, h2, h3⟩ := h
  refine ⟨⟨newD_len, by rw [newD_len]; exact Nat.le_refl _, (show 256 ≤ maxLen by unfold maxLen; omega), fun _ => ⟨hb, 0, rfl, y1.lt, fun i hi => ?_⟩⟩, wts_nil _ _⟩
  rw [newD_len] at hi
  obtain ⟨g, h4, y2⟩ := h3 i hi
  have e : newD.1.getD i [] = Z := by rw [newD_get hi]; exact hZ
  have el : Z.length = 256 := by rw [← hZ]; exact List.length_replicate ..
  rw [e, el]
  refine ⟨some ⟨g, 0, none⟩, 256, ?_, el, Nat.le_refl _, by unfold maxLen; omega, fun e => (by cases e), fun _ => ⟨g, 0, rfl, y2.lt, fun i hi => ?_⟩⟩
  · rw [Nat.zero_add, y1.cell, h4]
  · rw [Nat.zero_add, y2.cell, ar_get Z i hi]
set_option maxHeartbeats 2000000 in
theorem rdNew_any (w : World) : Calls Try.prog 33 #[] w (DskPost newD w) := by
  have hmx : Try.prog.follows Departure.mixedOrders = true := by kernel_rfl
  have hmk : ∀ W : World, (Instr.makeSlice 30 (.int .i64 256) (.int .i64 256)).run Try.prog W = .ok (.slice (some ⟨W.heap.size, 0, none⟩) 256 256) (W.alloc (.cells (ar (List.replicate 256 0)) 5)) := make_bytes 256 (by omega)
  have hmr : ∀ W : World, (Instr.makeSlice 22 (.int .i64 256) (.int .i64 256)).run Try.prog W = .ok (.slice (some ⟨W.heap.size, 0, none⟩) 256 256) (W.alloc (.cells (Array.replicate 256 (.slice none 0 0)) 30)) := make_rows 256 (by omega)
  obtain ⟨B, hB⟩ : ∃ B, w.heap.size = B := ⟨_, rfl⟩
  obtain ⟨Z, hZ⟩ : ∃ Z : List UInt8, List.replicate 256 0 = Z := ⟨_, rfl⟩
  obtain ⟨RZ, hRZ⟩ : ∃ R : Array Value, Array.replicate 256 (Value.slice none 0 0) = R := ⟨_, rfl⟩
  rw [hZ] at hmk
  rw [hRZ] at hmr
  have HZ := Lib.hid hZ
  have HRZ := Lib.hid hRZ
  have HBB := Lib.hid hB
  clear hZ hRZ
  go_enter Try.func33, Try.ntmps33
  go_wp2_with fail
  have hbw0 : Below B w (((w.alloc (.cells #[.slice none 0 0, .slice none 0 0] 25)).alloc (.cells RZ 30)).alloc (.cells #[.slice (some ⟨B + 1, 0, none⟩) 256 256, .slice none 0 0] 25)) := by rw [← hB]; exact below_alloc3' w _ _ _
  have hx0 : Blk (((w.alloc (.cells #[.slice none 0 0, .slice none 0 0] 25)).alloc (.cells RZ 30)).alloc (.cells #[.slice (some ⟨B + 1, 0, none⟩) 256 256, .slice none 0 0] 25)) B 25 #[.slice none 0 0, .slice none 0 0] := by rw [← hB]; exact blk3_0 w _ _ _ _
  have hx1 : Blk (((w.alloc (.cells #[.slice none 0 0, .slice none 0 0] 25)).alloc (.cells RZ 30)).alloc (.cells #[.slice (some ⟨B + 1, 0, none⟩) 256 256, .slice none 0 0] 25)) (B + 1) 30 RZ := by rw [← hB]; exact blk3_1 w _ _ _ _
  have hx2 : Blk (((w.alloc (.cells #[.slice none 0 0, .slice none 0 0] 25)).alloc (.cells RZ 30)).alloc (.cells #[.slice (some ⟨B + 1, 0, none⟩) 256 256, .slice none 0 0] 25)) (B + 2) 25 #[.slice (some ⟨B + 1, 0, none⟩) 256 256, .slice none 0 0] := by rw [← hB]; exact blk3_2 w _ _ _ _
  have hz0 : (((w.alloc (.cells #[.slice none 0 0, .slice none 0 0] 25)).alloc (.cells RZ 30)).alloc (.cells #[.slice (some ⟨B + 1, 0, none⟩) 256 256, .slice none 0 0] 25)).heap.size = B + 3 := by rw [← hB]; simp
  generalize (((w.alloc (.cells #[.slice none 0 0, .slice none 0 0] 25)).alloc (.cells RZ 30)).alloc (.cells #[.slice (some ⟨B + 1, 0, none⟩) 256 256, .slice none 0 0] 25)) = w0 at hbw0 hx0 hx1 hx2 hz0 ⊢
  have HB := Lib.hid hbw0
  have HX0 := Lib.hid hx0
  have HX2 := Lib.hid hx2
  have HN := Lib.hid (show NewI (B + 1) Z 0 w0 from ⟨RZ, hx1, by rw [← HRZ.out]; exact Array.size_replicate .., fun i hi => absurd hi (Nat.not_lt_zero _)⟩)
  have HSZ := Lib.hid hz0
  clear hbw0 hx0 hx1 hx2 hz0 hB hmr
  go_loopw [2] (fun i wr => ∃ k : Nat, k ≤ 256 ∧ i = .int .i64 k ∧ Hid (NewI (B + 1) Z k wr) ∧ Hid (Blk wr (B + 2) 25 #[.slice (some ⟨B + 1, 0, none⟩) 256 256, .slice none 0 0]) ∧ Hid (Blk wr B 25 #[.slice none 0 0, .slice none 0 0]) ∧ Hid (Below B w wr)) (fun i _ => 256 - (intOf i).toNat)
  case atStart => exact ⟨0, Nat.zero_le _, rfl, HN, HX2, HX0, HB⟩
  case round =>
    obtain ⟨k, hk, rfl, HNr, HGr, HRr, HBr⟩ := hrel
    clear HN HX2 HX0 HB
    have i0 : (0 : Int) ≤ k := by omega
    by_cases hlt : k < 256
    · have i1 : (k : Int) < 256 := by omega
      obtain ⟨wd, hwd⟩ : ∃ wd, wr.drew = wd := ⟨_, rfl⟩
      have hNd : NewI (B + 1) Z k wd := by
        rw [← hwd]
        obtain ⟨cb, h1, h2, h3⟩ := HNr.out
        exact ⟨cb, h1.drew, h2, fun i hi => by obtain ⟨g, h4, h5⟩ := h3 i hi; exact ⟨g, h4, h5.drew⟩⟩
      have hGd : Blk wd (B + 2) 25 #[.slice (some ⟨B + 1, 0, none⟩) 256 256, .slice none 0 0] := by rw [← hwd]; exact HGr.out.drew
      have hRd : Blk wd B 25 #[.slice none 0 0, .slice none 0 0] := by rw [← hwd]; exact HRr.out.drew
      have hBd : Below B w wd := by rw [← hwd]; exact HBr.out.drew
      have hx1 : ∃ cb, Blk (wd.alloc (.cells (ar Z) 5)) (B + 1) 30 cb ∧ cb.size = 256 := by
        obtain ⟨cb, h1, h2, _⟩ := hNd
        exact ⟨cb, h1.alloc _, h2⟩
      obtain ⟨cb, hcb, hcs⟩ := hx1
      obtain ⟨u3, hu3⟩ : ∃ u, (wd.alloc (.cells (ar Z) 5)).cell? ⟨B + 1, k, none⟩ = some u := ⟨_, by rw [hcb.cell]; exact Array.getElem?_eq_getElem (by omega)⟩
      have hf3 := hcb.frozen k
      have HFIN := Lib.hid (hNd.next hlt)
      have HGF := Lib.hid ((hGd.alloc (.cells (ar Z) 5)).far (p := ⟨B + 1, k, none⟩) (by show B + 2 ≠ B + 1; omega) (.slice (some ⟨wd.heap.size, 0, none⟩) 256 256))
      have HRF := Lib.hid ((hRd.alloc (.cells (ar Z) 5)).far (p := ⟨B + 1, k, none⟩) (by show B ≠ B + 1; omega) (.slice (some ⟨wd.heap.size, 0, none⟩) 256 256))
      have HBF := Lib.hid ((hBd.alloc (by have := hRd.lt; omega) (.cells (ar Z) 5)).setCell (p := ⟨B + 1, k, none⟩) (by show B ≤ B + 1; omega) (.slice (some ⟨wd.heap.size, 0, none⟩) 256 256))
      have g0 := hGd.cell 0
      have C0 := fun X (hX : Below wd.heap.size wd X) => (hX.cell (p := ⟨B + 2, 0, none⟩) hGd.lt).trans g0
      have hS : Below wd.heap.size wd wd := Below.refl _ _
      clear hNd hGd hRd hBd hcb hcs g0 HNr HGr HRr HBr
      go_wp2_with fail
      refine wpS_start [0, 1, 2, 3, 4, 5] hmx rfl hwd ?_
      clear hwd
      iterate 3 (
        refine wpS_read (v := ?_) rfl (by kernel_rfl) (by kernel_rfl) (by kernel_rfl) (fun _ _ _ h => h) (.inl ⟨by rfl, ?_⟩) ?_
        rotate_left
        · intro X hX
          have hXa := C0 X (hX _ hS)
          clear hX
          go_simp
          with_reducible rfl
        try simp only [Act.put, List.setIfInBounds_toArray, List.set_cons_zero, List.set_cons_succ])
      clear C0 hS
      refine wpS_lone rfl (by kernel_rfl) (fun K hK => ?_)
      go_simp
      refine hK _ _ (Stays.of_below ((Below.refl _ _).alloc (Nat.le_refl _) _)) ?_
      clear hK K
      try simp only [Act.put, List.setIfInBounds_toArray, List.set_cons_zero, List.set_cons_succ]
      refine wpS_read (v := ?_) rfl (by kernel_rfl) (by kernel_rfl) (by kernel_rfl) (fun _ _ _ h => h) (.inl ⟨by rfl, ?_⟩) ?_
      rotate_left
      · intro X hX
        clear hX
        go_simp
        with_reducible rfl
      try simp only [Act.put, List.setIfInBounds_toArray, List.set_cons_zero, List.set_cons_succ]
      refine wpS_last rfl (by kernel_rfl) (by kernel_rfl) (fun K hK => ?_)
      go_simp
      refine hK _ _ ?_
      clear hK K
      try simp only [Act.put, List.setIfInBounds_toArray, List.set_cons_zero, List.set_cons_succ]
      refine wpS_done (by kernel_rfl) ?_
      go_wp2_with fail
      go_roundw
      case rel => exact ⟨k + 1, by omega, by go_num, HFIN, HGF, HRF, HBF⟩
      case measure => simp [intOf]; omega
    · obtain rfl : k = 256 := by omega
      have t1 := HGr.out.cell 0
      have t2 := HGr.out.cell 1
      have hR := HRr.out
      have r2 := hR.cell 0
      have r3 := hR.cell 1
      have hf0 := hR.frozen 0
      have hf1 := hR.frozen 1
      have hfin := HNr.out.far hR (.slice (some ⟨B + 1, 0, none⟩) 256 256) (.slice none 0 0)
      have HFIN := Lib.hid hfin
      have HBF := Lib.hid ((HBr.out.setCell (p := ⟨B, 0, none⟩) (Nat.le_refl _) (.slice (some ⟨B + 1, 0, none⟩) 256 256)).setCell (p := ⟨B, 1, none⟩) (Nat.le_refl _) (.slice none 0 0))
      have HXR := Lib.hid ((hR.set_ 0 (.slice (some ⟨B + 1, 0, none⟩) 256 256)).set_ 1 (.slice none 0 0))
      clear hfin hR HNr HGr HRr HBr
      go_wp2_with fail
      obtain ⟨wf, hwf⟩ : ∃ wf, ((wr.setCell ⟨B, 0, none⟩ (.slice (some ⟨B + 1, 0, none⟩) 256 256)).setCell ⟨B, 1, none⟩ (.slice none 0 0)) = wf := ⟨_, rfl⟩
      rw [hwf] at HFIN HBF HXR ⊢
      clear hwf t1 t2 r2 r3 hf0 hf1
      have e0 := HXR.out.cell 0
      have e1 := HXR.out.cell 1
      refine bodyPost_ret (v := .agg #[.slice (some ⟨B + 1, 0, none⟩) 256 256, .slice none 0 0]) (by simp [results, Try.f33, go_sem, e0, e1]) rfl ?_
      refine ⟨⟨some ⟨B + 1, 0, none⟩, 256, none, 0⟩, ?_, ⟨HFIN.out.dsk HZ.out, fun g cs u v hg => by have := (HFIN.out.far hg u v).dsk HZ.out; simpa using this⟩, by rw [HBB.out]; exact HBF.out⟩
      rw [dval, newD_len]
      rfl
end Go.Proofs.Ytgpojnhhcobcbaa
