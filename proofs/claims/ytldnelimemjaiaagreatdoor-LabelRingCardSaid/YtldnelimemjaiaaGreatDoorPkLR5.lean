/-
  Texts of one seat, one behind the other.
-/
import Derived.Shelf.SlSortCmp.SmallK
import Derived.Shelf.SlSortCmp.NoneTotal
import Derived.Shelf.SlLaysF0
import Derived.Shelf.SlGeneric
import Derived.Ground.SlsfProg
import Derived.Test.YtldnelimemjaiaaGreatDoorPkLR4
/-
  Layer 9's own words of the law: a block of one byte; the first byte of a block that is written twice; alive.
-/
namespace Go.Proofs.YtldnelimemjaiaaGreatDoor
open Go.RowKit Go.Shelf
set_option maxRecDepth 100000

theorem repl_succ (k : Nat) (u : UInt8) : List.replicate k u ++ [u] = List.replicate (k + 1) u := by rw [List.replicate_succ']
def slN : Value → Nat
  | .slice _ n _ => n
  | _ => 0
theorem write_ok {D : DkL} {p : Int} {s : List UInt8} (hm : MayD D) (hp : 0 ≤ p ∧ p < 256) (hs : s.length = 256) (hn : D.2.length ≠ 4096) : writeO D p s = (withD D p s, 0) := by
  rw [writeO, if_pos hm, if_pos hp, if_pos hs, if_neg hn]
theorem crash_ok {D : DkL} {ks : List Bool} (hm : MayD D) (hl : ks.length = D.2.length) : crashO D ks = (keptD D (fun i => ks.getD i false), 0) := by
  rw [crashO, if_pos hm, if_pos hl]
theorem read_ok {D : DkL} {p : Nat} (hm : MayD D) (hp : p < 256) : readO D p = (leftD D (fun _ => true) p, 0) := by
  rw [readO, if_pos hm, if_pos (by omega), Int.toNat_natCast]
/-- Where none waits, a block is as it lasts. -/
theorem left_still {D : DkL} (h : D.2 = []) (mk : Nat → Bool) (p : Nat) : leftD D mk p = D.1.getD p [] := by
  unfold leftD
  rw [h]
  rfl
theorem of_len (u : UInt8) : (List.replicate 256 u).length = 256 := List.length_replicate ..
theorem OutD.far {w : World} {lo g : Nat} {x : DAt} {D : DkL} (h : OutD w lo x D) (hg : g < lo) (u v : Value) : OutD ((w.setCell ⟨g, 0, none⟩ u).setCell ⟨g, 1, none⟩ v) lo x D := by
  rcases h with h | h
  · exact .inl h
  · exact .inr (laid_far h hg (Nat.le_refl _) u v)
/-- What first sees. -/
def seenF (one two : Bool) : UInt8 := if two then 8 else if one then 7 else 0
theorem first_left (one two : Bool) : leftD (withD (withD newD 20 (List.replicate 256 7)) 20 (List.replicate 256 8)) (fun i => [one, two].getD i false) 20 = List.replicate 256 (seenF one two) := by
  cases one <;> cases two <;> rfl
end Go.Proofs.YtldnelimemjaiaaGreatDoor
/-
  label.Put, whatever disk and label it is handed, answers the disk on which the label's block waits, or why not; nothing that was there is written.
-/
namespace Go.Proofs.YtldnelimemjaiaaGreatDoor
open Go.RowKit Go.Shelf
set_option maxRecDepth 100000

theorem put_boxes (w : World) (u v : Value) (l : Lb) : ∃ w0, ((w.alloc (.cells #[u, v] 25)).alloc (.cells (lbC l).toArray 30)).alloc (.cells #[.slice none 0 0, .slice none 0 0] 25) = w0 ∧ Below w.heap.size w w0 ∧ w0.heap.size = w.heap.size + 3 ∧ Blk w0 w.heap.size 25 #[u, v] ∧ Blk w0 (w.heap.size + 1) 30 (lbC l).toArray ∧ Blk w0 (w.heap.size + 2) 25 #[.slice none 0 0, .slice none 0 0] := by
  refine ⟨_, rfl, below_alloc3' w _ _ _, by simp, ((Blk.new w _ _).alloc _).alloc _, ?_, ?_⟩
  · have := (Blk.new (w.alloc (.cells #[u, v] 25)) 30 (lbC l).toArray).alloc (.cells #[.slice none 0 0, .slice none 0 0] 25)
    rwa [World.size_alloc] at this
  · have := Blk.new ((w.alloc (.cells #[u, v] 25)).alloc (.cells (lbC l).toArray 30)) 25 #[.slice none 0 0, .slice none 0 0]
    rwa [World.size_alloc, World.size_alloc] at this
set_option maxHeartbeats 4000000 in
theorem lPut_any (x : DAt) (D : DkL) (l : Lb) (w : World) (h : Dsk w w.heap.size x D) (hw : WfL l) (hz : Szs w) : Calls Tryz.prog 6 #[dval x D, lbV l] w (ToldD (putO D l) w) := by
  have hmx : Tryz.prog.follows Departure.mixedOrders = true := by kernel_rfl
  obtain ⟨w0, hw0, b0, z0, x0, xl, x1⟩ := put_boxes w (.slice x.ba D.1.length x.bc) (.slice x.wa D.2.length x.wc) l
  have h0 := h.step b0
  have hc := dCheck_any x D w0 h0
  have c0 := x0.cell 0
  have c1 := x0.cell 1
  have HX0 := Lib.hid x0
  have HXL := Lib.hid xl
  have HX1 := Lib.hid x1
  have HB := Lib.hid b0
  have HZ0 := Lib.hid z0
  have HD := Lib.hid h0
  have HZ := Lib.hid (hz.step b0)
  have HML : Hid (∀ W, Calls Tryz.prog 14 #[lbV l] W fun e w' => e = .returned (.bool (decide (MayL l))) ∧ Below W.heap.size W w') := Lib.hid fun W => lMay_any l W
  have HBK : Hid (MayL l → ∀ W, Szs W → Calls Tryz.prog 16 #[lbV l] W (BlockPost l W)) := Lib.hid fun hm W hz => lBlock_any l hw hm W hz
  have HSL : Hid (∀ W, Calls Tryz.prog 11 #[.int .u32 (l.1 : Int)] W fun e w' => e = .returned (.int .i64 ((l.1 % 4 : Nat) : Int)) ∧ W = w') := Lib.hid fun W => lSlot_any l.1 hw.1 W
  have HWR : Hid (∀ W a c, Dsk W W.heap.size x D → Bsl W W.heap.size a 256 c (blockL l) → Calls Tryz.prog 15 #[dval x D, .int .i64 ((l.1 % 4 : Nat) : Int), .slice a 256 c] W (ToldD (writeO D ((l.1 % 4 : Nat) : Int) (blockL l)) W)) := Lib.hid fun W a c h1 h2 => dWrite_any x D _ a 256 c _ W h1 h2
  have HO := Lib.hid (show putO D l = if MayD D then (if MayL l then writeO D ((l.1 % 4 : Nat) : Int) (blockL l) else (([], []), 8)) else (([], []), 8) from rfl)
  obtain ⟨R, hR⟩ : ∃ R, putO D l = R := ⟨_, rfl⟩
  rw [hR] at HO ⊢
  obtain ⟨BK, hBK⟩ : ∃ BK, blockL l = BK := ⟨_, rfl⟩
  rw [hBK] at HO HWR
  have HBE := Lib.hid hBK
  obtain ⟨sl, hsl⟩ : ∃ sl, ((l.1 % 4 : Nat) : Int) = sl := ⟨_, rfl⟩
  rw [hsl] at HO HWR HSL
  obtain ⟨g, e, a, b, c, d, f⟩ := l
  simp only [lbC] at hw0
  simp only at HSL
  clear b0 z0 x0 xl x1 h0 h hw hz hR hBK hsl
  rw [checkO] at hc
  by_cases hm : MayD D
  · rw [if_pos hm] at hc HO
    by_cases hl : MayL (g, e, a, b, c, d, f)
    · rw [if_pos hl] at HO
      rw [decide_eq_true hl] at HML
      have HBK2 := Lib.hid (HBK.out hl)
      have HC := Lib.hid hc
      simp only [dval] at HC HWR ⊢
      clear hc hm hl HBK
      go_enter Tryz.func6, Tryz.ntmps6
      go_wp2_with (first
        | (go_at_call 13
           refine HC.out.mono ?_
           rintro ev1 w1 ⟨rfl, b1⟩
           have HB1 := Lib.hid (HB.out.trans (b1.mono HB.out.size))
           have HY0 := Lib.hid (HX0.out.below b1 HX0.out.lt)
           have HYL := Lib.hid (HXL.out.below b1 HXL.out.lt)
           have HY1 := Lib.hid (HX1.out.below b1 HX1.out.lt)
           have HD1 := Lib.hid (HD.out.step b1)
           have HZ1 := Lib.hid (HZ.out.step b1)
           obtain ⟨e0, e1, e2, e3, e4, e5, e6⟩ := HYL.out.seven
           clear b1)
        | (go_at_call 14
           refine (HML.out w1).mono ?_
           rintro ev2 w2 ⟨rfl, b2⟩
           have HB2 := Lib.hid (HB1.out.trans (b2.mono HB1.out.size))
           have HU0 := Lib.hid (HY0.out.below b2 HY0.out.lt)
           have HUL := Lib.hid (HYL.out.below b2 HYL.out.lt)
           have HU1 := Lib.hid (HY1.out.below b2 HY1.out.lt)
           have HD2 := Lib.hid (HD1.out.step b2)
           have HZ2 := Lib.hid (HZ1.out.step b2)
           clear b2))
      clear c0 c1 e0 e1 e2 e3 e4 e5 e6
      obtain ⟨wd, hwd⟩ : ∃ wd, w2.drew = wd := ⟨_, rfl⟩
      have bd : Below w2.heap.size w2 wd := by rw [← hwd]; exact (Below.refl _ _).drew
      have HBd := Lib.hid (HB2.out.trans (bd.mono HB2.out.size))
      have x0 := HU0.out.below bd HU0.out.lt
      have xl := HUL.out.below bd HUL.out.lt
      have HX1d := Lib.hid (HU1.out.below bd HU1.out.lt)
      have HDd := Lib.hid (HD2.out.step bd)
      have HZd := Lib.hid (HZ2.out.step bd)
      have hle : w.heap.size + 2 ≤ wd.heap.size := Nat.le_of_lt HX1d.out.lt
      have C0 := fun X (hX : Below (w.heap.size + 2) wd X) => (x0.below hX (by omega)).cell 0
      have C1 := fun X (hX : Below (w.heap.size + 2) wd X) => (x0.below hX (by omega)).cell 1
      have E := fun X (hX : Below (w.heap.size + 2) wd X) => (xl.below hX (by omega)).seven
      have hbwd : Below (w.heap.size + 2) wd wd := Below.refl _ _
      clear x0 xl bd
      refine wpI_start (Below (w.heap.size + 2) wd) [0, 1, 2, 4, 3, 5, 6, 7, 8, 9, 10] hmx rfl hwd ?_
      clear hwd
      iterate 4 (
        refine wpI_read (v := ?_) hbwd rfl (by kernel_rfl) (by kernel_rfl) (by kernel_rfl) (fun _ _ _ h => h) (.inl ⟨by rfl, ?_⟩) ?_
        rotate_left
        · intro X hX
          have p0 := C0 X hX
          have p1 := C1 X hX
          obtain ⟨q0, q1, q2, q3, q4, q5, q6⟩ := E X hX
          clear hX
          go_simp
          with_reducible rfl
        try simp only [Act.put, List.setIfInBounds_toArray, List.set_cons_zero, List.set_cons_succ])
      clear C0 C1 E
      refine wpI_lone rfl (by kernel_rfl) (fun K hK => ?_)
      go_simp
      refine (HSL.out wd).mono ?_
      rintro ev3 w3 ⟨rfl, rfl⟩
      refine hK _ _ hbwd ?_
      clear hK K
      try simp only [Act.put, List.setIfInBounds_toArray, List.set_cons_zero, List.set_cons_succ]
      refine wpI_lone rfl (by kernel_rfl) (fun K hK => ?_)
      go_simp
      refine (HBK2.out wd HZd.out).mono ?_
      rintro ev4 w4 ⟨gb, rfl, zb, sb, b4⟩
      rw [HBE.out] at sb
      have hb4 := b4.mono hle
      refine hK _ _ hb4 ?_
      clear hK K zb
      try simp only [Act.put, List.setIfInBounds_toArray, List.set_cons_zero, List.set_cons_succ]
      refine wpI_lone rfl (by kernel_rfl) (fun K hK => ?_)
      go_simp
      refine (HWR.out w4 _ _ (HDd.out.step b4) sb).mono ?_
      rintro ev5 w5 ⟨x5, rfl, o5, b5⟩
      have hb5 := b4.trans (b5.mono b4.size)
      have HU5 := Lib.hid (HX1d.out.below hb5 HX1d.out.lt)
      have hlo : w.heap.size + 2 < w4.heap.size := Nat.lt_of_lt_of_le HX1d.out.lt b4.size
      rw [← HO.out] at o5 ⊢
      have hb5' := hb5.mono hle
      refine hK _ _ hb5' ?_
      clear hK K
      try simp only [Act.put, List.setIfInBounds_toArray, List.set_cons_zero, List.set_cons_succ]
      simp only [dval]
      obtain ⟨F, c'⟩ := R
      obtain ⟨n1, hn1⟩ : ∃ n, F.1.length = n := ⟨_, rfl⟩
      obtain ⟨n2, hn2⟩ : ∃ n, F.2.length = n := ⟨_, rfl⟩
      simp only [hn1, hn2]
      iterate 2 (
        refine wpI_read (v := ?_) hb5' rfl (by kernel_rfl) (by kernel_rfl) (by kernel_rfl) (fun _ _ _ h => h) (.inl ⟨by rfl, ?_⟩) ?_
        rotate_left
        · intro X hX
          clear hX
          go_simp
          with_reducible rfl
        try simp only [Act.put, List.setIfInBounds_toArray, List.set_cons_zero, List.set_cons_succ])
      refine wpI_lone rfl (by kernel_rfl) (fun K hK => ?_)
      have d0 := HU5.out.cell 0
      have d1 := HU5.out.cell 1
      have hf := fun i => HU5.out.frozen i
      go_simp
      have HKD := Lib.hid ((o5.far hlo (.slice x5.ba n1 x5.bc) (.slice x5.wa n2 x5.wc)).lower (lo' := w.heap.size) (by omega))
      have hbs := (hb5'.setCell (p := ⟨w.heap.size + 2, 0, none⟩) (Nat.le_refl _) (.slice x5.ba n1 x5.bc)).setCell (p := ⟨w.heap.size + 2, 1, none⟩) (Nat.le_refl _) (.slice x5.wa n2 x5.wc)
      have HBF := Lib.hid (((HBd.out.trans (hb5.mono HBd.out.size)).setCell (p := ⟨w.heap.size + 2, 0, none⟩) (Nat.le_add_right _ _) (.slice x5.ba n1 x5.bc)).setCell (p := ⟨w.heap.size + 2, 1, none⟩) (Nat.le_add_right _ _) (.slice x5.wa n2 x5.wc))
      have HXF := Lib.hid ((HU5.out.set_ 0 (.slice x5.ba n1 x5.bc)).set_ 1 (.slice x5.wa n2 x5.wc))
      obtain ⟨wf, hwf⟩ : ∃ wf, ((w5.setCell ⟨w.heap.size + 2, 0, none⟩ (.slice x5.ba n1 x5.bc)).setCell ⟨w.heap.size + 2, 1, none⟩ (.slice x5.wa n2 x5.wc)) = wf := ⟨_, rfl⟩
      rw [hwf] at HKD hbs HBF HXF ⊢
      refine hK _ _ hbs ?_
      clear hK K d0 d1 hf hwf o5
      try simp only [Act.put, List.setIfInBounds_toArray, List.set_cons_zero, List.set_cons_succ]
      iterate 1 (
        refine wpI_read (v := ?_) hbs rfl (by kernel_rfl) (by kernel_rfl) (by kernel_rfl) (fun _ _ _ h => h) (.inl ⟨by rfl, ?_⟩) ?_
        rotate_left
        · intro X hX
          clear hX
          go_simp
          with_reducible rfl
        try simp only [Act.put, List.setIfInBounds_toArray, List.set_cons_zero, List.set_cons_succ])
      clear hbs
      refine wpI_done (by kernel_rfl) ?_
      go_wp2_with fail
      have e0 := HXF.out.cell 0
      have e1 := HXF.out.cell 1
      refine bodyPost_ret (v := .tuple #[.agg #[.slice x5.ba n1 x5.bc, .slice x5.wa n2 x5.wc], .int .i64 c']) (by simp [results, Tryz.f6, go_sem, e0, e1]) rfl ?_
      exact ⟨x5, by simp only [dval, hn1, hn2], HKD.out, HBF.out⟩
    · rw [if_neg hl] at HO
      rw [decide_eq_false hl] at HML
      obtain rfl := HO.out
      have HC := Lib.hid hc
      simp only [dval] at HC ⊢
      clear hc hm hl HBK HWR
      go_enter Tryz.func6, Tryz.ntmps6
      go_wp2_with (first
        | (go_at_call 13
           refine HC.out.mono ?_
           rintro ev1 w1 ⟨rfl, b1⟩
           have HB1 := Lib.hid (HB.out.trans (b1.mono HB.out.size))
           have HYL := Lib.hid (HXL.out.below b1 HXL.out.lt)
           have HY1 := Lib.hid (HX1.out.below b1 HX1.out.lt)
           obtain ⟨e0, e1, e2, e3, e4, e5, e6⟩ := HYL.out.seven
           clear b1)
        | (go_at_call 14
           refine (HML.out w1).mono ?_
           rintro ev2 w2 ⟨rfl, b2⟩
           have HB2 := Lib.hid (HB1.out.trans (b2.mono HB1.out.size))
           have HU1 := Lib.hid (HY1.out.below b2 HY1.out.lt)
           have d0 := HU1.out.cell 0
           have d1 := HU1.out.cell 1
           have hf := fun i => HU1.out.frozen i
           clear b2))
      clear c0 c1 e0 e1 e2 e3 e4 e5 e6
      have hBF := (HB2.out.setCell (p := ⟨w.heap.size + 2, 0, none⟩) (Nat.le_add_right _ _) (.slice none 0 0)).setCell (p := ⟨w.heap.size + 2, 1, none⟩) (Nat.le_add_right _ _) (.slice none 0 0)
      have hXF := (HU1.out.set_ 0 (.slice none 0 0)).set_ 1 (.slice none 0 0)
      obtain ⟨wf, hwf⟩ : ∃ wf, ((w2.setCell ⟨w.heap.size + 2, 0, none⟩ (.slice none 0 0)).setCell ⟨w.heap.size + 2, 1, none⟩ (.slice none 0 0)) = wf := ⟨_, rfl⟩
      rw [hwf] at hBF hXF ⊢
      clear hwf d0 d1 hf
      have e0 := hXF.cell 0
      have e1 := hXF.cell 1
      exact bodyPost_ret (v := .tuple #[.agg #[.slice none 0 0, .slice none 0 0], .int .i64 8]) (by simp [results, Tryz.f6, go_sem, e0, e1]) rfl (toldD_no rfl hBF)
  · rw [if_neg hm] at hc HO
    obtain rfl := HO.out
    have HC := Lib.hid hc
    simp only [dval] at HC ⊢
    clear hc hm HBK HWR HML
    go_enter Tryz.func6, Tryz.ntmps6
    go_wp2_with (go_at_call 13
                 refine HC.out.mono ?_
                 rintro ev1 w1 ⟨rfl, b1⟩
                 have HB1 := Lib.hid (HB.out.trans (b1.mono HB.out.size))
                 have HY1 := Lib.hid (HX1.out.below b1 HX1.out.lt)
                 have d0 := HY1.out.cell 0
                 have d1 := HY1.out.cell 1
                 have hf := fun i => HY1.out.frozen i
                 clear b1)
    clear c0 c1
    have hBF := (HB1.out.setCell (p := ⟨w.heap.size + 2, 0, none⟩) (Nat.le_add_right _ _) (.slice none 0 0)).setCell (p := ⟨w.heap.size + 2, 1, none⟩) (Nat.le_add_right _ _) (.slice none 0 0)
    have hXF := (HY1.out.set_ 0 (.slice none 0 0)).set_ 1 (.slice none 0 0)
    obtain ⟨wf, hwf⟩ : ∃ wf, ((w1.setCell ⟨w.heap.size + 2, 0, none⟩ (.slice none 0 0)).setCell ⟨w.heap.size + 2, 1, none⟩ (.slice none 0 0)) = wf := ⟨_, rfl⟩
    rw [hwf] at hBF hXF ⊢
    clear hwf d0 d1 hf
    have e0 := hXF.cell 0
    have e1 := hXF.cell 1
    exact bodyPost_ret (v := .tuple #[.agg #[.slice none 0 0, .slice none 0 0], .int .i64 8]) (by simp [results, Tryz.f6, go_sem, e0, e1]) rfl (toldD_no rfl hBF)
end Go.Proofs.YtldnelimemjaiaaGreatDoor
/-
  The document's own With and Put of layer 11: a disk on which a label's block waits.
-/
namespace Go.Proofs.YtldnelimemjaiaaGreatDoor
open Go.RowKit Go.Shelf
set_option maxRecDepth 100000

set_option maxHeartbeats 4000000 in
theorem rlWith_any (x : DAt) (D : DkL) (l : Lb) (w : World) (h : Dsk w w.heap.size x D) (hf : Fits D) (hw : WfL l) (hm : MayL l) (hq : D.2.length ≤ 5000) : Calls Tryz.prog 19 #[dval x D, lbV l] w (RPost (withD D ((l.1 % 4 : Nat) : Int) (blockL l)) w) := by
  have hmx : Tryz.prog.follows Departure.mixedOrders = true := by kernel_rfl
  obtain ⟨w0, hw0, b0, z0, x0, xl, x1⟩ := put_boxes w (.slice x.ba D.1.length x.bc) (.slice x.wa D.2.length x.wc) l
  have h0 := h.step b0
  have HZ0 := Lib.hid z0
  have HBK : Hid (∀ W, Calls Tryz.prog 41 #[lbV l] W (OwnV 256 (blockL l) W)) := Lib.hid fun W => rlBlock_any l hw hm W
  have HSL : Hid (∀ W, Calls Tryz.prog 12 #[.int .u32 (l.1 : Int)] W fun e w' => e = .returned (.int .i64 ((l.1 % 4 : Nat) : Int)) ∧ W = w') := Lib.hid fun W => rlSlot_any l.1 hw.1 W
  have HWR : Hid (∀ W a c, Dsk W W.heap.size x D → Bsl W W.heap.size a 256 c (blockL l) → Calls Tryz.prog 40 #[dval x D, .int .i64 ((l.1 % 4 : Nat) : Int), .slice a 256 c] W (RPost (withD D ((l.1 % 4 : Nat) : Int) (blockL l)) W)) := Lib.hid fun W a c hd hs => rdWithR_any x D _ a 256 c _ W hd hf (by simp [Lit.wf, IntKind.min, IntKind.max, IntKind.signed, IntKind.bits]; omega) hs (by omega) hq
  obtain ⟨R, hR⟩ : ∃ R, withD D ((l.1 % 4 : Nat) : Int) (blockL l) = R := ⟨_, rfl⟩
  rw [hR] at HWR ⊢
  obtain ⟨BK, hBK⟩ : ∃ BK, blockL l = BK := ⟨_, rfl⟩
  rw [hBK] at HBK HWR
  obtain ⟨sl, hsl⟩ : ∃ sl, ((l.1 % 4 : Nat) : Int) = sl := ⟨_, rfl⟩
  rw [hsl] at HWR HSL
  obtain ⟨g, e, a, b, c, d, f⟩ := l
  simp only [lbC] at hw0 xl
  simp only at HSL
  obtain ⟨B, hB⟩ : ∃ B, w.heap.size = B := ⟨_, rfl⟩
  have HBB := Lib.hid hB
  rw [hB] at b0 z0 x0 xl x1
  obtain ⟨wd, hwd⟩ : ∃ wd, w0.drew = wd := ⟨_, rfl⟩
  have bd : Below w0.heap.size w0 wd := by rw [← hwd]; exact (Below.refl _ _).drew
  have HBd := Lib.hid (b0.trans (bd.mono (by omega)))
  have y0 := x0.below bd x0.lt
  have yl := xl.below bd xl.lt
  have HX1 := Lib.hid (x1.below bd x1.lt)
  have HDd := Lib.hid (h0.step bd)
  have hle : B + 3 ≤ wd.heap.size := by have := bd.size; omega
  have C0 := fun X (hX : Below (B + 2) wd X) => (y0.below hX (by omega)).cell 0
  have C1 := fun X (hX : Below (B + 2) wd X) => (y0.below hX (by omega)).cell 1
  have E := fun X (hX : Below (B + 2) wd X) => (yl.below hX (by omega)).seven
  have hbwd : Below (B + 2) wd wd := Below.refl _ _
  have HLE := Lib.hid hle
  simp only [dval] at HWR ⊢
  clear y0 yl bd b0 z0 x0 xl x1 h0 h hw hm hR hBK hsl hf hq hle hB
  go_enter Tryz.func19, Tryz.ntmps19
  go_wp2_with fail
  clear hw0
  rw [HBB.out]
  refine wpI_start (Below (B + 2) wd) [0, 1, 2, 4, 3, 5, 6, 7] hmx rfl hwd ?_
  clear hwd
  iterate 4 (
    refine wpI_read (v := ?_) hbwd rfl (by kernel_rfl) (by kernel_rfl) (by kernel_rfl) (fun _ _ _ h => h) (.inl ⟨by rfl, ?_⟩) ?_
    rotate_left
    · intro X hX
      have p0 := C0 X hX
      have p1 := C1 X hX
      obtain ⟨q0, q1, q2, q3, q4, q5, q6⟩ := E X hX
      clear hX
      go_simp
      with_reducible rfl
    try simp only [Act.put, List.setIfInBounds_toArray, List.set_cons_zero, List.set_cons_succ])
  clear C0 C1 E
  refine wpI_lone rfl (by kernel_rfl) (fun K hK => ?_)
  go_simp
  refine (HSL.out wd).mono ?_
  rintro ev3 w3 ⟨rfl, rfl⟩
  refine hK _ _ hbwd ?_
  clear hK K
  try simp only [Act.put, List.setIfInBounds_toArray, List.set_cons_zero, List.set_cons_succ]
  refine wpI_lone rfl (by kernel_rfl) (fun K hK => ?_)
  go_simp
  refine (HBK.out wd).mono ?_
  rintro ev4 w4 ⟨v4, rfl, o4, b4⟩
  obtain ⟨A4, C4, rfl, sb⟩ := own_to o4
  have hb4 := b4.mono (Nat.le_trans (Nat.le_succ _) HLE.out)
  refine hK _ _ hb4 ?_
  clear hK K o4
  try simp only [Act.put, List.setIfInBounds_toArray, List.set_cons_zero, List.set_cons_succ]
  refine wpI_lone rfl (by kernel_rfl) (fun K hK => ?_)
  go_simp
  refine (HWR.out w4 _ _ (HDd.out.step b4) sb).mono ?_
  rintro ev5 w5 ⟨x5, rfl, o5, b5⟩
  have hb5 := b4.trans (b5.mono b4.size)
  have HU5 := Lib.hid (HX1.out.below hb5 HX1.out.lt)
  have hb5' := hb5.mono (Nat.le_trans (Nat.le_succ _) HLE.out)
  refine hK _ _ hb5' ?_
  clear hK K
  try simp only [Act.put, List.setIfInBounds_toArray, List.set_cons_zero, List.set_cons_succ]
  simp only [dval]
  obtain ⟨n1, hn1⟩ : ∃ n, R.1.length = n := ⟨_, rfl⟩
  obtain ⟨n2, hn2⟩ : ∃ n, R.2.length = n := ⟨_, rfl⟩
  simp only [hn1, hn2]
  refine wpI_lone rfl (by kernel_rfl) (fun K hK => ?_)
  have d0 := HU5.out.cell 0
  have d1 := HU5.out.cell 1
  have hf := fun i => HU5.out.frozen i
  go_simp
  have HKD := Lib.hid (o5.set2 HU5.out (.slice x5.ba n1 x5.bc) (.slice x5.wa n2 x5.wc))
  have HBF := Lib.hid (((HBd.out.trans (hb5.mono (by have := HLE.out; omega))).setCell (p := ⟨B + 2, 0, none⟩) (Nat.le_add_right _ _) (.slice x5.ba n1 x5.bc)).setCell (p := ⟨B + 2, 1, none⟩) (Nat.le_add_right _ _) (.slice x5.wa n2 x5.wc))
  have HXF := Lib.hid ((HU5.out.set_ 0 (.slice x5.ba n1 x5.bc)).set_ 1 (.slice x5.wa n2 x5.wc))
  have hbs := (hb5'.setCell (p := ⟨B + 2, 0, none⟩) (Nat.le_refl _) (.slice x5.ba n1 x5.bc)).setCell (p := ⟨B + 2, 1, none⟩) (Nat.le_refl _) (.slice x5.wa n2 x5.wc)
  obtain ⟨wf, hwf⟩ : ∃ wf, ((w5.setCell ⟨B + 2, 0, none⟩ (.slice x5.ba n1 x5.bc)).setCell ⟨B + 2, 1, none⟩ (.slice x5.wa n2 x5.wc)) = wf := ⟨_, rfl⟩
  rw [hwf] at HKD hbs HBF HXF ⊢
  refine hK _ _ hbs ?_
  clear hK K d0 d1 hf hwf o5
  try simp only [Act.put, List.setIfInBounds_toArray, List.set_cons_zero, List.set_cons_succ]
  refine wpI_done (by kernel_rfl) ?_
  go_wp2_with fail
  have e0 := HXF.out.cell 0
  have e1 := HXF.out.cell 1
  refine bodyPost_ret (v := .agg #[.slice x5.ba n1 x5.bc, .slice x5.wa n2 x5.wc]) (by simp [results, Tryz.f19, go_sem, e0, e1]) rfl ?_
  exact ⟨x5, by simp only [dval, hn1, hn2], HKD.out, by rw [HBB.out]; exact HBF.out⟩
end Go.Proofs.YtldnelimemjaiaaGreatDoor
/-
  The document's own Put of layer 11.
-/
namespace Go.Proofs.YtldnelimemjaiaaGreatDoor
open Go.RowKit Go.Shelf
set_option maxRecDepth 100000

def PutPost (R : DkL × Int) (w : World) (e : Ending) (w' : World) : Prop := ∃ x', e = .returned (.tuple #[dval x' R.1, .int .i64 R.2]) ∧ Dsk w' w'.heap.size x' R.1 ∧ Below w.heap.size w w'
set_option maxHeartbeats 4000000 in
theorem rlPut_any (x : DAt) (D : DkL) (l : Lb) (w : World) (h : Dsk w w.heap.size x D) (hw : WfL l) : Calls Tryz.prog 7 #[dval x D, lbV l] w (PutPost (putO D l) w) := by
  obtain ⟨w0, hw0, b0, z0, x0, xl, x1⟩ := put_boxes w (.slice x.ba D.1.length x.bc) (.slice x.wa D.2.length x.wc) l
  have h0 := h.step b0
  have hc := rdMay_any x D w0 h0
  have c0 := x0.cell 0
  have c1 := x0.cell 1
  have HX0 := Lib.hid x0
  have HXL := Lib.hid xl
  have HX1 := Lib.hid x1
  have HB := Lib.hid b0
  have HD := Lib.hid h0
  have HML : Hid (∀ W, Calls Tryz.prog 18 #[lbV l] W fun e w' => e = .returned (.bool (decide (MayL l))) ∧ Below W.heap.size W w') := Lib.hid fun W => rlMay_any l W
  have hwi : ∀ W, MayD D → MayL l → Dsk W W.heap.size x D → Calls Tryz.prog 19 #[dval x D, lbV l] W (RPost (withD D ((l.1 % 4 : Nat) : Int) (blockL l)) W) := fun W hd hm hk => rlWith_any x D l W hk (may_fits hd) hw hm (by have := hd.2.1; omega)
  have ho : putO D l = if MayD D then (if MayL l then (if D.2.length = 4096 then (([], []), 9) else (withD D ((l.1 % 4 : Nat) : Int) (blockL l), 0)) else (([], []), 8)) else (([], []), 8) := by
    unfold putO
    by_cases h1 : MayD D
    · rw [if_pos h1, if_pos h1]
      by_cases h2 : MayL l
      · rw [if_pos h2, if_pos h2, writeO, if_pos h1, if_pos (by omega), if_pos (blockL_length l)]
      · rw [if_neg h2, if_neg h2]
    · rw [if_neg h1, if_neg h1]
  obtain ⟨R, hR⟩ : ∃ R, putO D l = R := ⟨_, rfl⟩
  rw [hR] at ho ⊢
  obtain ⟨WD, hWD⟩ : ∃ W, withD D ((l.1 % 4 : Nat) : Int) (blockL l) = W := ⟨_, rfl⟩
  rw [hWD] at ho hwi
  obtain ⟨g, e, a, b, c, d, f⟩ := l
  simp only [lbC] at hw0
  clear b0 z0 x0 xl x1 h0 h hw hR hWD
  by_cases hm : MayD D
  · rw [if_pos hm] at ho
    rw [decide_eq_true hm] at hc
    have hl4 : D.2.length ≤ 4096 := hm.2.1
    by_cases hl : MayL (g, e, a, b, c, d, f)
    · rw [if_pos hl] at ho
      have HWI := Lib.hid (fun W => hwi W hm hl)
      rw [decide_eq_true hl] at HML
      have HC := Lib.hid hc
      simp only [dval] at HC HWI ⊢
      by_cases hq : D.2.length = 4096
      · rw [if_pos hq] at ho
        obtain rfl := ho
        have hge : decide ((D.2.length : Int) ≥ 4096) = true := decide_eq_true (by omega)
        clear hc hm hl hwi hl4 hq
        go_enter Tryz.func7, Tryz.ntmps7
        go_wp2_with (first
                | (go_at_call 17
                   refine HC.out.mono ?_
                   rintro ev1 w1 ⟨rfl, b1⟩
                   have HB1 := Lib.hid (HB.out.trans (b1.mono HB.out.size))
                   have HYL := Lib.hid (HXL.out.below b1 HXL.out.lt)
                   have HY1 := Lib.hid (HX1.out.below b1 HX1.out.lt)
                   have HY0 := Lib.hid (HX0.out.below b1 HX0.out.lt)
                   have HD1 := Lib.hid (HD.out.step b1)
                   obtain ⟨e0, e1, e2, e3, e4, e5, e6⟩ := HYL.out.seven
                   clear b1)
                | (go_at_call 18
                   refine (HML.out w1).mono ?_
                   rintro ev2 w2 ⟨rfl, b2⟩
                   have HB2 := Lib.hid (HB1.out.trans (b2.mono HB1.out.size))
                   have HU0 := Lib.hid (HY0.out.below b2 HY0.out.lt)
                   have HUL := Lib.hid (HYL.out.below b2 HYL.out.lt)
                   have HU1 := Lib.hid (HY1.out.below b2 HY1.out.lt)
                   have HD2 := Lib.hid (HD1.out.step b2)
                   have c0 := HU0.out.cell 0
                   have c1 := HU0.out.cell 1
                   obtain ⟨q0, q1, q2, q3, q4, q5, q6⟩ := HUL.out.seven
                   have d0 := HU1.out.cell 0
                   have d1 := HU1.out.cell 1
                   have hf := fun i => HU1.out.frozen i
                   clear b2 e0 e1 e2 e3 e4 e5 e6))
        clear c0 c1 q0 q1 q2 q3 q4 q5 q6 hge
        have hBF := (HB2.out.setCell (p := ⟨w.heap.size + 2, 0, none⟩) (Nat.le_add_right _ _) (.slice none 0 0)).setCell (p := ⟨w.heap.size + 2, 1, none⟩) (Nat.le_add_right _ _) (.slice none 0 0)
        have hXF := (HU1.out.set_ 0 (.slice none 0 0)).set_ 1 (.slice none 0 0)
        obtain ⟨wf, hwf⟩ : ∃ wf, ((w2.setCell ⟨w.heap.size + 2, 0, none⟩ (.slice none 0 0)).setCell ⟨w.heap.size + 2, 1, none⟩ (.slice none 0 0)) = wf := ⟨_, rfl⟩
        rw [hwf] at hBF hXF ⊢
        clear hwf d0 d1 hf
        have e0 := hXF.cell 0
        have e1 := hXF.cell 1
        exact bodyPost_ret (v := .tuple #[.agg #[.slice none 0 0, .slice none 0 0], .int .i64 9]) (by simp [results, Tryz.f7, go_sem, e0, e1]) rfl ⟨⟨none, 0, none, 0⟩, rfl, ⟨bls_nil _ _, wts_nil _ _⟩, hBF⟩
      · rw [if_neg hq] at ho
        obtain rfl := ho
        have hge : decide ((D.2.length : Int) ≥ 4096) = false := decide_eq_false (by omega)
        clear hc hm hl hwi hl4 hq
        go_enter Tryz.func7, Tryz.ntmps7
        go_wp2_with (first
                | (go_at_call 17
                   refine HC.out.mono ?_
                   rintro ev1 w1 ⟨rfl, b1⟩
                   have HB1 := Lib.hid (HB.out.trans (b1.mono HB.out.size))
                   have HYL := Lib.hid (HXL.out.below b1 HXL.out.lt)
                   have HY1 := Lib.hid (HX1.out.below b1 HX1.out.lt)
                   have HY0 := Lib.hid (HX0.out.below b1 HX0.out.lt)
                   have HD1 := Lib.hid (HD.out.step b1)
                   obtain ⟨e0, e1, e2, e3, e4, e5, e6⟩ := HYL.out.seven
                   clear b1)
                | (go_at_call 18
                   refine (HML.out w1).mono ?_
                   rintro ev2 w2 ⟨rfl, b2⟩
                   have HB2 := Lib.hid (HB1.out.trans (b2.mono HB1.out.size))
                   have HU0 := Lib.hid (HY0.out.below b2 HY0.out.lt)
                   have HUL := Lib.hid (HYL.out.below b2 HYL.out.lt)
                   have HU1 := Lib.hid (HY1.out.below b2 HY1.out.lt)
                   have HD2 := Lib.hid (HD1.out.step b2)
                   have c0 := HU0.out.cell 0
                   have c1 := HU0.out.cell 1
                   obtain ⟨q0, q1, q2, q3, q4, q5, q6⟩ := HUL.out.seven
                   have d0 := HU1.out.cell 0
                   have d1 := HU1.out.cell 1
                   have hf := fun i => HU1.out.frozen i
                   clear b2 e0 e1 e2 e3 e4 e5 e6))
        clear hge c0 c1 q0 q1 q2 q3 q4 q5 q6 d0 d1 hf
        go_at_call 19
        refine (HWI.out w2 HD2.out).mono ?_
        rintro ev5 w5 ⟨x5, rfl, o5, b5⟩
        have HU5 := Lib.hid (HU1.out.below b5 HU1.out.lt)
        have HB5 := Lib.hid (HB2.out.trans (b5.mono HB2.out.size))
        clear b5
        simp only [dval]
        obtain ⟨n1, hn1⟩ : ∃ n, WD.1.length = n := ⟨_, rfl⟩
        obtain ⟨n2, hn2⟩ : ∃ n, WD.2.length = n := ⟨_, rfl⟩
        simp only [hn1, hn2]
        have d0 := HU5.out.cell 0
        have d1 := HU5.out.cell 1
        have hf := fun i => HU5.out.frozen i
        have HKD := Lib.hid (o5.set2 HU5.out (.slice x5.ba n1 x5.bc) (.slice x5.wa n2 x5.wc)).dsk
        clear o5
        go_wp2_with fail
        have hBF := (HB5.out.setCell (p := ⟨w.heap.size + 2, 0, none⟩) (Nat.le_add_right _ _) (.slice x5.ba n1 x5.bc)).setCell (p := ⟨w.heap.size + 2, 1, none⟩) (Nat.le_add_right _ _) (.slice x5.wa n2 x5.wc)
        have hXF := (HU5.out.set_ 0 (.slice x5.ba n1 x5.bc)).set_ 1 (.slice x5.wa n2 x5.wc)
        obtain ⟨wf, hwf⟩ : ∃ wf, ((w5.setCell ⟨w.heap.size + 2, 0, none⟩ (.slice x5.ba n1 x5.bc)).setCell ⟨w.heap.size + 2, 1, none⟩ (.slice x5.wa n2 x5.wc)) = wf := ⟨_, rfl⟩
        rw [hwf] at hBF hXF HKD ⊢
        clear hwf d0 d1 hf
        have e0 := hXF.cell 0
        have e1 := hXF.cell 1
        refine bodyPost_ret (v := .tuple #[.agg #[.slice x5.ba n1 x5.bc, .slice x5.wa n2 x5.wc], .int .i64 0]) (by simp [results, Tryz.f7, go_sem, e0, e1]) rfl ?_
        exact ⟨x5, by simp only [dval, hn1, hn2], HKD.out, hBF⟩
    · rw [if_neg hl] at ho
      rw [decide_eq_false hl] at HML
      obtain rfl := ho
      have HC := Lib.hid hc
      simp only [dval] at HC ⊢
      clear hc hm hl hl4 hwi
      go_enter Tryz.func7, Tryz.ntmps7
      go_wp2_with (first
              | (go_at_call 17
                 refine HC.out.mono ?_
                 rintro ev1 w1 ⟨rfl, b1⟩
                 have HB1 := Lib.hid (HB.out.trans (b1.mono HB.out.size))
                 have HYL := Lib.hid (HXL.out.below b1 HXL.out.lt)
                 have HY1 := Lib.hid (HX1.out.below b1 HX1.out.lt)
                 have HY0 := Lib.hid (HX0.out.below b1 HX0.out.lt)
                 have HD1 := Lib.hid (HD.out.step b1)
                 obtain ⟨e0, e1, e2, e3, e4, e5, e6⟩ := HYL.out.seven
                 clear b1)
              | (go_at_call 18
                 refine (HML.out w1).mono ?_
                 rintro ev2 w2 ⟨rfl, b2⟩
                 have HB2 := Lib.hid (HB1.out.trans (b2.mono HB1.out.size))
                 have HU0 := Lib.hid (HY0.out.below b2 HY0.out.lt)
                 have HUL := Lib.hid (HYL.out.below b2 HYL.out.lt)
                 have HU1 := Lib.hid (HY1.out.below b2 HY1.out.lt)
                 have HD2 := Lib.hid (HD1.out.step b2)
                 have c0 := HU0.out.cell 0
                 have c1 := HU0.out.cell 1
                 obtain ⟨q0, q1, q2, q3, q4, q5, q6⟩ := HUL.out.seven
                 have d0 := HU1.out.cell 0
                 have d1 := HU1.out.cell 1
                 have hf := fun i => HU1.out.frozen i
                 clear b2 e0 e1 e2 e3 e4 e5 e6))
      clear c0 c1 q0 q1 q2 q3 q4 q5 q6
      have hBF := (HB2.out.setCell (p := ⟨w.heap.size + 2, 0, none⟩) (Nat.le_add_right _ _) (.slice none 0 0)).setCell (p := ⟨w.heap.size + 2, 1, none⟩) (Nat.le_add_right _ _) (.slice none 0 0)
      have hXF := (HU1.out.set_ 0 (.slice none 0 0)).set_ 1 (.slice none 0 0)
      obtain ⟨wf, hwf⟩ : ∃ wf, ((w2.setCell ⟨w.heap.size + 2, 0, none⟩ (.slice none 0 0)).setCell ⟨w.heap.size + 2, 1, none⟩ (.slice none 0 0)) = wf := ⟨_, rfl⟩
      rw [hwf] at hBF hXF ⊢
      clear hwf d0 d1 hf
      have e0 := hXF.cell 0
      have e1 := hXF.cell 1
      exact bodyPost_ret (v := .tuple #[.agg #[.slice none 0 0, .slice none 0 0], .int .i64 8]) (by simp [results, Tryz.f7, go_sem, e0, e1]) rfl ⟨⟨none, 0, none, 0⟩, rfl, ⟨bls_nil _ _, wts_nil _ _⟩, hBF⟩
  · rw [if_neg hm] at ho
    rw [decide_eq_false hm] at hc
    obtain rfl := ho
    have HC := Lib.hid hc
    simp only [dval] at HC ⊢
    clear hc hm HML hwi
    go_enter Tryz.func7, Tryz.ntmps7
    go_wp2_with fail
    go_at_call 17
    refine HC.out.mono ?_
    rintro ev1 w1 ⟨rfl, b1⟩
    have HB1 := Lib.hid (HB.out.trans (b1.mono HB.out.size))
    have HYL := Lib.hid (HXL.out.below b1 HXL.out.lt)
    have HY1 := Lib.hid (HX1.out.below b1 HX1.out.lt)
    have HY0 := Lib.hid (HX0.out.below b1 HX0.out.lt)
    have HD1 := Lib.hid (HD.out.step b1)
    obtain ⟨e0, e1, e2, e3, e4, e5, e6⟩ := HYL.out.seven
    have d0 := HY1.out.cell 0
    have d1 := HY1.out.cell 1
    have hf := fun i => HY1.out.frozen i
    clear b1
    go_wp2_with fail
    clear c0 c1 e0 e1 e2 e3 e4 e5 e6
    have hBF := (HB1.out.setCell (p := ⟨w.heap.size + 2, 0, none⟩) (Nat.le_add_right _ _) (.slice none 0 0)).setCell (p := ⟨w.heap.size + 2, 1, none⟩) (Nat.le_add_right _ _) (.slice none 0 0)
    have hXF := (HY1.out.set_ 0 (.slice none 0 0)).set_ 1 (.slice none 0 0)
    obtain ⟨wf, hwf⟩ : ∃ wf, ((w1.setCell ⟨w.heap.size + 2, 0, none⟩ (.slice none 0 0)).setCell ⟨w.heap.size + 2, 1, none⟩ (.slice none 0 0)) = wf := ⟨_, rfl⟩
    rw [hwf] at hBF hXF ⊢
    clear hwf d0 d1 hf
    have e0 := hXF.cell 0
    have e1 := hXF.cell 1
    exact bodyPost_ret (v := .tuple #[.agg #[.slice none 0 0, .slice none 0 0], .int .i64 8]) (by simp [results, Tryz.f7, go_sem, e0, e1]) rfl ⟨⟨none, 0, none, 0⟩, rfl, ⟨bls_nil _ _, wts_nil _ _⟩, hBF⟩
end Go.Proofs.YtldnelimemjaiaaGreatDoor
/-
  slices.SortFunc over labels, as label.Find calls it: the row holds the same labels, and their Gens fall.
-/
namespace Go.Proofs.YtldnelimemjaiaaGreatDoor
open Go.RowKit Go.Shelf
set_option maxRecDepth 100000

def lSort_ren : Go.Shelf.Ren := ⟨fun | 6 => 22 | 15 => 50 | 14 => 49 | 28 => 79 | 29 => 80 | 20 => 71 | 21 => 72 | 22 => 73 | 23 => 74 | 24 => 75 | 25 => 76 | 26 => 77 | 27 => 78 | 46 => 97 | 47 => 98 | 48 => 99 | 49 => 100 | 50 => 101 | 57 => 111 | n => n, fun | 22 => 38 | 24 => 30 | 25 => 60 | 3 => 3 | 39 => 83 | 0 => 0 | 53 => 26 | 55 => 111 | 4 => 4 | 46 => 105 | 45 => 104 | 50 => 99 | 5 => 5 | 9 => 9 | 66 => 126 | 70 => 130 | 76 => 138 | 77 => 139 | n => n, fun | n => n⟩
theorem lSort_lays : Go.Proofs.SlLaysF0.n6 Tryz.prog lSort_ren := {
  mixed := by kernel_rfl
  f6 := ⟨Tryz.f22.name, by decide, Tryz.func22.trans (congrArg some (by kernel_rfl))⟩
  f14 := ⟨Tryz.f49.name, by decide, Tryz.func49.trans (congrArg some (by kernel_rfl))⟩
  f15 := Tryz.func50.trans (congrArg some (by kernel_rfl))
  f20 := ⟨Tryz.f71.name, by decide, Tryz.func71.trans (congrArg some (by kernel_rfl))⟩
  f21 := ⟨Tryz.f72.name, by decide, Tryz.func72.trans (congrArg some (by kernel_rfl))⟩
  f22 := ⟨Tryz.f73.name, by decide, Tryz.func73.trans (congrArg some (by kernel_rfl))⟩
  f23 := ⟨Tryz.f74.name, by decide, Tryz.func74.trans (congrArg some (by kernel_rfl))⟩
  f24 := ⟨Tryz.f75.name, by decide, Tryz.func75.trans (congrArg some (by kernel_rfl))⟩
  f25 := ⟨Tryz.f76.name, by decide, Tryz.func76.trans (congrArg some (by kernel_rfl))⟩
  f26 := ⟨Tryz.f77.name, by decide, Tryz.func77.trans (congrArg some (by kernel_rfl))⟩
  f27 := ⟨Tryz.f78.name, by decide, Tryz.func78.trans (congrArg some (by kernel_rfl))⟩
  f28 := Tryz.func79.trans (congrArg some (by kernel_rfl))
  f29 := Tryz.func80.trans (congrArg some (by kernel_rfl))
  f46 := ⟨Tryz.f97.name, by decide, Tryz.func97.trans (congrArg some (by kernel_rfl))⟩
  f47 := Tryz.func98.trans (congrArg some (by kernel_rfl))
  f48 := Tryz.func99.trans (congrArg some (by kernel_rfl))
  f49 := ⟨Tryz.f100.name, by decide, Tryz.func100.trans (congrArg some (by kernel_rfl))⟩
  f50 := ⟨Tryz.f101.name, by decide, Tryz.func101.trans (congrArg some (by kernel_rfl))⟩
  f57 := ⟨Tryz.f111.name, by decide, Tryz.func111.trans (congrArg some (by kernel_rfl))⟩
  t0 := Tryz.underlying0
  a0 := Tryz.isAgg0
  z0 := Tryz.sizeOf0
  v0 := Tryz.zeroValue0
  t3 := Tryz.underlying3
  a3 := Tryz.isAgg3
  z3 := Tryz.sizeOf3
  v3 := Tryz.zeroValue3
  t4 := Tryz.underlying4
  a4 := Tryz.isAgg4
  z4 := Tryz.sizeOf4
  v4 := Tryz.zeroValue4
  t5 := Tryz.underlying5
  a5 := Tryz.isAgg5
  z5 := Tryz.sizeOf5
  v5 := Tryz.zeroValue5
  t9 := Tryz.underlying9
  a9 := Tryz.isAgg9
  z9 := Tryz.sizeOf9
  v9 := Tryz.zeroValue9
  t22 := Tryz.underlying38
  a22 := Tryz.isAgg38
  z22 := Tryz.sizeOf38
  v22 := Tryz.zeroValue38
  t25 := Tryz.underlying60
  a25 := Tryz.isAgg60
  z25 := Tryz.sizeOf60
  v25 := Tryz.zeroValue60
  t39 := Tryz.underlying83
  a39 := Tryz.isAgg83
  z39 := Tryz.sizeOf83
  v39 := Tryz.zeroValue83
  t45 := Tryz.underlying104
  a45 := Tryz.isAgg104
  z45 := Tryz.sizeOf104
  v45 := Tryz.zeroValue104
  t46 := Tryz.underlying105
  a46 := Tryz.isAgg105
  z46 := Tryz.sizeOf105
  v46 := Tryz.zeroValue105
  t50 := Tryz.underlying99
  a50 := Tryz.isAgg99
  z50 := Tryz.sizeOf99
  v50 := Tryz.zeroValue99
  t53 := Tryz.underlying26
  a53 := Tryz.isAgg26
  z53 := Tryz.sizeOf26
  v53 := Tryz.zeroValue26
  t55 := Tryz.underlying111
  a55 := Tryz.isAgg111
  z55 := Tryz.sizeOf111
  v55 := Tryz.zeroValue111
  t66 := Tryz.underlying126
  a66 := Tryz.isAgg126
  z66 := Tryz.sizeOf126
  v66 := Tryz.zeroValue126
  t70 := Tryz.underlying130
  a70 := Tryz.isAgg130
  z70 := Tryz.sizeOf130
  v70 := Tryz.zeroValue130
  t76 := Tryz.underlying138
  a76 := Tryz.isAgg138
  z76 := Tryz.sizeOf138
  v76 := Tryz.zeroValue138
  t77 := Tryz.underlying139
  a77 := Tryz.isAgg139
  z77 := Tryz.sizeOf139
  v77 := Tryz.zeroValue139 }
theorem lNaN_any (x : Nat) (w : World) : Calls Tryz.prog 51 #[.int .u32 (x : Int)] w fun e w' => e = .returned (.bool false) ∧ w = w' := by
  go_enter Tryz.func51, Tryz.ntmps51
  go_wp2_with fail
  go_ret
  exact ⟨by simp, rfl⟩
theorem lCmp_any (x y : Nat) (w : World) : Calls Tryz.prog 24 #[.int .u32 (x : Int), .int .u32 (y : Int)] w fun e w' => e = .returned (.int .i64 (Lib.compareInt (x : Int) (y : Int))) ∧ w = w' := by
  have h1 := lNaN_any x
  have h2 := lNaN_any y
  rw [Lib.compareInt]
  by_cases h : (x : Int) < (y : Int)
  · rw [if_pos h]
    go_enter Tryz.func24, Tryz.ntmps24
    go_wp2_with (first
      | (go_at_call 51; refine (h1 _).mono ?_; rintro ev w1 ⟨rfl, rfl⟩; clear h1)
      | (go_at_call 51; refine (h2 _).mono ?_; rintro ev w1 ⟨rfl, rfl⟩))
    go_ret
    exact ⟨rfl, rfl⟩
  · rw [if_neg h]
    by_cases h' : (x : Int) > (y : Int)
    · rw [if_pos h']
      go_enter Tryz.func24, Tryz.ntmps24
      go_wp2_with (first
        | (go_at_call 51; refine (h1 _).mono ?_; rintro ev w1 ⟨rfl, rfl⟩; clear h1)
        | (go_at_call 51; refine (h2 _).mono ?_; rintro ev w1 ⟨rfl, rfl⟩))
      go_ret
      exact ⟨rfl, rfl⟩
    · rw [if_neg h']
      go_enter Tryz.func24, Tryz.ntmps24
      go_wp2_with (first
        | (go_at_call 51; refine (h1 _).mono ?_; rintro ev w1 ⟨rfl, rfl⟩; clear h1)
        | (go_at_call 51; refine (h2 _).mono ?_; rintro ev w1 ⟨rfl, rfl⟩))
      go_ret
      exact ⟨rfl, rfl⟩
/-- What the closure answers. -/
def lbCmp (l m : Lb) : Int := Lib.compareInt (m.1 : Int) (l.1 : Int)
theorem lClosure (l m : Lb) (w : World) : Calls Tryz.prog 23 #[.agg (lbC l).toArray, .agg (lbC m).toArray] w fun e w' => e = .returned (.int .i64 (lbCmp l m)) ∧ ∃ q os', w' = Sort.grow (w.drewN q) os' := by
  have hc := fun W => lCmp_any m.1 l.1 W
  unfold lbCmp
  obtain ⟨r, hr⟩ : ∃ r, Lib.compareInt (m.1 : Int) (l.1 : Int) = r := ⟨_, rfl⟩
  rw [hr] at hc ⊢
  clear hr
  simp only [lbC]
  go_enter Tryz.func23, Tryz.ntmps23
  go_wp2_with (go_at_call 24; refine (hc _).mono ?_; rintro ev w1 ⟨rfl, rfl⟩)
  go_ret
  exact ⟨rfl, 0, _, by rw [Sort.alloc_eq_grow, Sort.alloc_eq_grow, Sort.grow_grow]; rfl⟩
theorem lbCmp_swo : Sort.SWO (Go.Proofs.ltOf lbCmp) := by
  have h : ∀ l m : Lb, Go.Proofs.ltOf lbCmp l m = decide (m.1 < l.1) := fun l m => by
    unfold Go.Proofs.ltOf lbCmp Lib.compareInt
    by_cases h1 : (m.1 : Int) < (l.1 : Int)
    · rw [if_pos h1]; simp; omega
    · rw [if_neg h1]
      by_cases h2 : (m.1 : Int) > (l.1 : Int)
      · rw [if_pos h2]; simp; omega
      · rw [if_neg h2]; simp; omega
  exact ⟨fun x => by rw [h]; simp, fun x y z => by rw [h, h, h]; simp; omega, fun x y z => by rw [h, h, h]; simp; omega⟩
theorem lbCmp_lt (l m : Lb) : Go.Proofs.ltOf lbCmp l m = decide (m.1 < l.1) := by
  unfold Go.Proofs.ltOf lbCmp Lib.compareInt
  by_cases h1 : (m.1 : Int) < (l.1 : Int)
  · rw [if_pos h1]; simp; omega
  · rw [if_neg h1]
    by_cases h2 : (m.1 : Int) > (l.1 : Int)
    · rw [if_pos h2]; simp; omega
    · rw [if_neg h2]; simp; omega
/-- The cells of labels, flat. -/
theorem flat_lbCs (L : List Lb) : Go.Sort.flatK lbC 7 L.toArray = (lbCs L).toArray := by
  apply Array.ext
  · simp [lbCs_length]
  · intro t h1 h2
    have h1' : t < L.length * 7 := by simpa using h1
    have hi : t / 7 < L.length := by omega
    have hg := Go.Sort.get_flatK lbC 7 L.toArray t (by simpa using h1')
    rw [getElem!_pos _ t h1] at hg
    rw [hg]
    have e1 : L.toArray[t / 7]! = L[t / 7] := by rw [getElem!_pos _ _ (by simpa using hi)]; simp
    rw [e1]
    have hl : (lbC L[t / 7]).length = 7 := rfl
    have hj : t % 7 < (lbC L[t / 7]).length := by rw [hl]; omega
    have hx := lbCs_get L (t / 7) hi (t % 7) ((lbC L[t / 7])[t % 7]) (List.getElem?_eq_getElem hj)
    have e2 : t / 7 * 7 + t % 7 = t := by omega
    rw [e2] at hx
    rw [getElem!_pos (lbC L[t / 7]) (t % 7) hj, List.getElem_toArray]
    have h2' : t < (lbCs L).length := by simpa using h2
    rw [List.getElem?_eq_getElem h2'] at hx
    exact (Option.some.inj hx).symm
theorem lbRow_holds {w : World} {base g cap : Nat} {L : List Lb} (h : LRow w base (.slice (some ⟨g, 0, none⟩) L.length cap) L) : Go.Sort.HoldsK lbC 7 w g 0 L.toArray := by
  obtain ⟨⟨hl, ⟨h2, _⟩ | ⟨g', cap', cur, h2, hb, h3, h4, h5, h6, h7⟩⟩, hw⟩ := h
  · cases h2
  · cases h2
    intro j hj
    rw [flat_lbCs] at hj ⊢
    have hj' : j < (lbCs L).length := by simpa using hj
    have hs : j < L.length * 7 := by rw [← lbCs_length]; exact hj'
    refine ⟨?_, ?_⟩
    · rw [Nat.zero_add, cell_of_row w g j cur 30 (0, 0) h3, getElem!_pos _ j hj]
      have e : cur.toList[j]? = (lbCs L)[j]? := by rw [← h7, List.getElem?_take_of_lt hs]
      rw [← Array.getElem?_toList, e, List.getElem?_eq_getElem hj']
      simp
    · exact Blk.frozen (show Blk w g 30 cur from h3) _
/-- The row behind the sort. -/
theorem lbRow_sorted {w : World} {base g cap n : Nat} {L L' : List Lb} {os : Array Obj} (h : LRow w base (.slice (some ⟨g, 0, none⟩) L.length cap) L) (hp : L'.Perm L) :
    LRow (sortWorldK lbC 7 w g 0 n L'.toArray os) base (.slice (some ⟨g, 0, none⟩) L.length cap) L' ∧ w.grownBy (sortWorldK lbC 7 w g 0 n L'.toArray os) (some g) := by
  obtain ⟨⟨hl, ⟨h2, _⟩ | ⟨g', cap', cur, h2, hb, h3, h4, h5, h6, h7⟩⟩, hw⟩ := h
  · cases h2
  · cases h2
    have hlt : g < w.heap.size := (Array.getElem?_eq_some_iff.1 h3).1
    have hn : L'.length = L.length := hp.length_eq
    have hF : Go.Sort.flatK lbC 7 L'.toArray = (lbCs L').toArray := flat_lbCs L'
    have hz : (lbCs L').length = L.length * 7 := by rw [lbCs_length, hn]
    have hput : ∀ k, k < w.heap.size → (sortWorldK lbC 7 w g 0 n L'.toArray os).heap[k]? = (w.heap.modify g (Go.Sort.onCells (Go.Sort.putCells id 0 (lbCs L').toArray)))[k]? := fun k hk => by
      unfold sortWorldK
      rw [Go.Sort.heap_grow_old _ _ (by rw [Go.Sort.putRowK, Go.Sort.size_putRow]; exact hk), Go.Sort.putRowK, hF]
      rfl
    have hg : (sortWorldK lbC 7 w g 0 n L'.toArray os).heap[g]? = some (.cells (Go.Sort.putCells id 0 (lbCs L').toArray cur) 30 (0, 0)) := by
      rw [hput g hlt, Array.getElem?_modify, if_pos rfl, h3]
      rfl
    have hsz : (Go.Sort.putCells id 0 (lbCs L').toArray cur).size = cur.size := by simp [Go.Sort.putCells]
    have htk : (Go.Sort.putCells id 0 (lbCs L').toArray cur).toList.take (L.length * 7) = lbCs L' := by
      apply List.ext_getElem?
      intro j
      by_cases hj : j < L.length * 7
      · have hjc : j < cur.size := by rw [h6]; exact Nat.lt_of_lt_of_le hj (Nat.mul_le_mul_right 7 h4)
        rw [List.getElem?_take_of_lt hj, Array.getElem?_toList]
        simp only [Go.Sort.putCells, Array.getElem?_mapIdx, Array.getElem?_eq_getElem hjc, Option.map_some, List.size_toArray]
        rw [if_pos ⟨Nat.zero_le _, by omega⟩, Nat.sub_zero, getElem!_pos _ j (by simpa using (by omega : j < (lbCs L').length)), List.getElem?_eq_getElem (by omega)]
        simp
      · rw [List.getElem?_eq_none (by simp; omega), List.getElem?_eq_none (by omega)]
    refine ⟨⟨⟨by rw [lbCs_length], .inr ⟨g, cap, _, by rw [hn], hb, hg, by omega, h5, by rw [hsz]; exact h6, by rw [hn]; exact htk⟩⟩, fun p hp' => hw p (hp.mem_iff.1 hp')⟩, ?_⟩
    refine ⟨rfl, rfl, rfl, ?_, fun i hi hne => ?_⟩
    · unfold sortWorldK
      rw [Go.Sort.size_grow, Go.Sort.putRowK, Go.Sort.size_putRow]
      exact Nat.le_add_right _ _
    · rw [hput i hi, Array.getElem?_modify, if_neg (fun e => hne (by rw [e]))]
/-- The row is sorted. -/
theorem lSort_any (a : Option Addr) (cap : Nat) (L : List Lb) (w : World) (base : Nat) (h : LRow w base (.slice a L.length cap) L) (h4 : L.length ≤ 4) :
    Calls Tryz.prog 22 #[.slice a L.length cap, .func (.func 23) #[] #[]] w fun e w' => e = .returned (.tuple #[]) ∧ ∃ L', L'.Perm L ∧ Falls L' ∧ LRow w' base (.slice a L.length cap) L' ∧ w.grownBy w' (Value.ownBlock (.slice a L.length cap)) := by
  by_cases h0 : L.length = 0
  · obtain rfl : L = [] := List.eq_nil_of_length_eq_zero h0
    have hn := AnyF.slices_SortFunc_none lSort_lays a cap (.func (.func 23) #[] #[]) w
    refine hn.mono ?_
    rintro e w' ⟨rfl, rfl⟩
    exact ⟨rfl, [], List.Perm.refl _, List.Pairwise.nil, h, World.grownBy.refl _ _⟩
  · have hr := h
    obtain ⟨⟨hl, ⟨h2, h3⟩ | ⟨g, cap', cur, h2, hb, h3, _⟩⟩, hw⟩ := hr
    · exact absurd h3 h0
    · cases h2
      have hlt : g < w.heap.size := (Array.getElem?_eq_some_iff.1 h3).1
      have eg : ∀ args w, (callFunc 23 args).run Tryz.prog w = .ok (.enter 23 args) w := enters_of Tryz.func23 (by kernel_rfl) rfl
      have hcmp : CmpLays Tryz.prog 23 #[] lbC 7 lbCmp g 0 L.toArray.size w := fun _ _ _ _ x y => lClosure x y _
      have hlen : ∀ (n : Nat) (W : World), n ≤ 12 → Calls Tryz.prog 50 #[.int .u64 n] W fun e w' => (∃ l : Int, e = .returned (.int .i64 l)) ∧ w' = W := fun n W hn => by
        have hb := Any.bits_Len (SlLaysF0.n15.bits (P := Tryz.prog) (ρ := lSort_ren) { lSort_lays with }) n W (by omega) (by omega)
        exact hb.mono fun _ _ ⟨he, hw⟩ => ⟨⟨_, he⟩, hw⟩
      have hs := AnyQ.slices_SortFunc_small_sorted lSort_lays 7 Tryz.isAgg30 Tryz.sizeOf30 lbC (fun _ => rfl) (fun x v hv => by
        simp only [lbC, List.mem_cons, List.not_mem_nil, or_false] at hv
        rcases hv with rfl | rfl | rfl | rfl | rfl | rfl | rfl <;> rfl) lbCmp 23 #[] lbCmp_swo g 0 cap L.toArray w eg hcmp (lbRow_holds h) hlt (by simp; omega) hlen
      have hsz : L.toArray.size = L.length := by simp
      rw [hsz] at hs
      refine hs.mono ?_
      rintro e w' ⟨rfl, d', n, os, hp, hf, rfl⟩
      obtain ⟨p1, _, p3⟩ := hp
      have hd : d'.size = L.length := by rw [p1]; simp
      have e1 : (d'.extract 0 L.length) = d' := by rw [← hd]; simp
      have e2 : (L.toArray.extract 0 L.length) = L.toArray := by simp
      rw [e1, e2] at p3
      have hperm : d'.toList.Perm L := by simpa using p3
      have hfall : Falls d'.toList := by
        refine List.pairwise_iff_getElem.2 fun i j hi hj hij => ?_
        have hi' : i < d'.size := by simpa using hi
        have hj' : j < d'.size := by simpa using hj
        have := hf i j (Nat.zero_le _) hij (by rw [← hd]; exact hj')
        rw [lbCmp_lt, getElem!_pos d' i hi', getElem!_pos d' j hj'] at this
        simp only [decide_eq_false_iff_not] at this
        simp only [Array.getElem_toList]
        omega
      have hrow := lbRow_sorted (n := n) (os := os) h hperm
      rw [Array.toArray_toList] at hrow
      exact ⟨rfl, d'.toList, hperm, hfall, hrow.1, hrow.2⟩
end Go.Proofs.YtldnelimemjaiaaGreatDoor
/-
  append of labels to a row of the call's own.
-/
namespace Go.Proofs.YtldnelimemjaiaaGreatDoor
open Go.RowKit Go.Shelf
set_option maxRecDepth 100000

theorem infoLb : (Tryz.prog.info? 30).map (fun i => (i.zero, i.size, i.bytes)) = some (some (.agg #[.int .u32 0, .int .u32 0, .int .i64 0, .int .u32 0, .int .u32 0, .int .u32 0, .int .u32 0]), 7, 32) := by kernel_rfl
theorem lbCs_mem {L : List Lb} {u : Value} (h : u ∈ lbCs L) : u.oneCell' = true := by
  obtain ⟨p, _, hu⟩ := List.mem_flatMap.1 h
  simp only [lbC, List.mem_cons, List.not_mem_nil, or_false] at hu
  rcases hu with rfl | rfl | rfl | rfl | rfl | rfl | rfl <;> rfl
/-- The cells of a slice of pointers. -/
theorem Lbs.row {w : World} {B b off len cap : Nat} {L : List Lb} (h : Lbs w B (some ⟨b, off, none⟩) len cap L) (j : Nat) (u : Value) (hu : (lbCs L)[j]? = some u) : w.cell? ⟨b, off + j, none⟩ = some u := by
  have hj : j < L.length * 7 := by
    rcases Nat.lt_or_ge j (lbCs L).length with hj | hj
    · rw [lbCs_length] at hj; exact hj
    · rw [List.getElem?_eq_none hj] at hu; cases hu
  have hi : j / 7 < L.length := by omega
  obtain ⟨b', off', e, _, hc⟩ := h.2.2.2.2 (by rw [← h.1]; omega)
  cases e
  have hlen : (lbC L[j / 7]).length = 7 := rfl
  have hr : j % 7 < (lbC L[j / 7]).length := by rw [hlen]; omega
  have hg := lbCs_get L (j / 7) hi (j % 7) _ (List.getElem?_eq_getElem hr)
  have ej : j / 7 * 7 + j % 7 = j := by omega
  rw [ej, hu] at hg
  have := (hc (j / 7) hi).2 (j % 7) _ (List.getElem?_eq_getElem hr)
  rw [Nat.add_assoc, ej] at this
  rw [this, hg]
section
variable {w : World} {o : Oper} {a : Act} {K : Act → World → Prop} {Q : Exit → Act → World → Prop} {ops : Array Oper} {rest : List Oper}
theorem wp_append_lrow (x y : Operand) (ho : o.op = .call { callee := .builtin .append, args := #[x, y], argTypes := #[38, 38] })
    (base : Nat) (v : Value) (L : List Lb) (hx : a.eval x = v) (hr : LRow w base v L) (B : Nat) (A : Option Addr) (m c : Nat) (M : List Lb) (hy : a.eval y = .slice A m c) (hs : Lbs w B A m c M)
    (hn : L.length + m ≤ 1000000) (hbase : base ≤ w.heap.size)
    (h : ∀ v' w', LRow w' base v' (L ++ M) → w.grownBy w' v.ownBlock → K (a.put o.dst v') w') : o.wp Tryz.prog a w K Q := by
  obtain ⟨i0, hi0, hz0, hz1, hz2⟩ := info_parts infoLb
  obtain ⟨h1, h2⟩ := hr
  have hwf : ∀ p ∈ L ++ M, WfL p := fun p hp => by
    rcases List.mem_append.1 hp with hp | hp
    · exact h2 p hp
    · exact hs.wf hp
  have hml := hs.1
  cases A with
  | none =>
    have hc := hs.2.2.2.1 rfl
    have hm : m = 0 := by have := hs.2.1; omega
    subst hm; subst hc
    obtain rfl : M = [] := List.eq_nil_of_length_eq_zero hml
    have hrun := run_app_none (P := Tryz.prog) (w := w) base 38 o.type 30 i0 7 0 Tryz.underlying38 hi0 v L.length (lbCs L) h1
    unfold Oper.wp
    simp [execOp, ho, resolve, invoke, builtin, hx, hy, hrun, Result.andThen]
    refine h v w ?_ (World.grownBy.refl w _)
    rw [List.append_nil]
    exact ⟨h1, h2⟩
  | some ad =>
    refine wp_append_own w x y 38 ho base 30 i0 (.agg #[.int .u32 0, .int .u32 0, .int .i64 0, .int .u32 0, .int .u32 0, .int .u32 0, .int .u32 0]) 7 32 Tryz.underlying38 hi0 hz0 hz1 hz2 rfl (by decide) v L.length (lbCs L) hx h1 ad m c (lbCs M) hy (by rw [lbCs_length, hml]) (fun j u hu => ?_) (fun u hu => lbCs_mem hu) (by unfold maxLen; omega) (by omega) hbase fun v' w' h6 h7 _ => ?_
    · have hj : 0 < m := by
        rcases Nat.eq_zero_or_pos m with h0 | h0
        · obtain rfl : M = [] := List.eq_nil_of_length_eq_zero (by omega)
          simp [lbCs] at hu
        · exact h0
      obtain ⟨b, off, e, _, _⟩ := hs.2.2.2.2 hj
      cases e
      have e1 : (⟨b, off, none⟩ : Addr).add j = ⟨b, off + j, none⟩ := by unfold Addr.add; split <;> simp_all
      rw [e1]
      exact hs.row j u hu
    · refine h v' w' ⟨?_, hwf⟩ h7
      rw [List.length_append, hml, lbCs_append]
      exact h6
theorem wpList_append_lrow (hgd : o.guard = none) (x y : Operand) (ho : o.op = .call { callee := .builtin .append, args := #[x, y], argTypes := #[38, 38] })
    (base : Nat) (v : Value) (L : List Lb) (hx : a.eval x = v) (hr : LRow w base v L) (B : Nat) (A : Option Addr) (m c : Nat) (M : List Lb) (hy : a.eval y = .slice A m c) (hs : Lbs w B A m c M)
    (hn : L.length + m ≤ 1000000) (hbase : base ≤ w.heap.size)
    (h : ∀ v' w', LRow w' base v' (L ++ M) → w.grownBy w' v.ownBlock → wpList Tryz.prog ops Q rest (a.put o.dst v') w') : wpList Tryz.prog ops Q (o :: rest) a w :=
  wpList_plain hgd fun _ hK => wp_append_lrow x y ho base v L hx hr B A m c M hy hs hn hbase fun v' w' h1 h2 => hK _ _ (h v' w' h1 h2)
end
/-- A slice literal of one pointer. -/
theorem one_lbs (w : World) (p : Lb) (hp : WfL p) : Lbs (w.alloc (.cells (lbC p).toArray 30)) (w.alloc (.cells (lbC p).toArray 30)).heap.size (some ⟨w.heap.size, 0, none⟩) 1 1 [p] :=
  ⟨rfl, Nat.le_refl _, by unfold maxLen; omega, fun e => (by cases e), fun _ => ⟨w.heap.size, 0, rfl, by simp, fun i hi => by
    have : i = 0 := by simpa using hi
    subst this
    refine ⟨hp, fun j u hu => ?_⟩
    rw [(Blk.new w 30 (lbC p).toArray).cell]
    simpa using hu⟩⟩
theorem LRow.own {w w' : World} {base g : Nat} {v : Value} {L : List Lb} (h : LRow w base v L) (hg : w.grownBy w' (some g)) (hne : ∀ k, v.ownBlock = some k → k ≠ g) : LRow w' base v L := ⟨own_other h.1 hg hne, h.2⟩
end Go.Proofs.YtldnelimemjaiaaGreatDoor
/-
  label.Find, whatever disk it is handed, answers the labels that stand, the greatest Gen first, or why not; nothing that was there is written.
-/
namespace Go.Proofs.YtldnelimemjaiaaGreatDoor
open Go.RowKit Go.Shelf
set_option maxRecDepth 100000

/-- A list of labels, the call's own, and an error's number. -/
def OutLs (o : List Lb × Int) (w : World) (e : Ending) (w' : World) : Prop := ∃ v, e = .returned (.tuple #[v, .int .i64 o.2]) ∧ LRow w' w.heap.size v o.1 ∧ Below w.heap.size w w'
theorem slotsL_some {f : Nat → Option Lb} {k : Nat} {l : Lb} (h : f k = some l) : slotsL f (k + 1) = slotsL f k ++ [l] := by
  rw [slotsL, h]
theorem slotsL_none {f : Nat → Option Lb} {k : Nat} (h : f k = none) : slotsL f (k + 1) = slotsL f k := by
  rw [slotsL, h]
theorem atAppendL {P : Program} {ops : Array Oper} {Q : Exit → Act → World → Prop} {a : Act} {w : World} {rest : List Oper} {d : Option Tmp} {ty : TypeId} {x : Array Operand} {y : Array TypeId} {pos : String} {af : Array Edge} (h : wpList P ops Q (⟨d, .call { callee := .builtin .append, args := x, argTypes := y }, ty, pos, af, none⟩ :: rest) a w) : wpList P ops Q (⟨d, .call { callee := .builtin .append, args := x, argTypes := y }, ty, pos, af, none⟩ :: rest) a w := h
set_option maxHeartbeats 4000000 in
theorem lFind_any (x : DAt) (D : DkL) (w : World) (h : Dsk w w.heap.size x D) (hz : Szs w) : Calls Tryz.prog 8 #[dval x D] w (OutLs (findO D) w) := by
  have b0 := (Below.refl w.heap.size w).alloc (Nat.le_refl _) (.cells #[.slice x.ba D.1.length x.bc, .slice x.wa D.2.length x.wc] 25)
  have x0 := Blk.new w 25 #[.slice x.ba D.1.length x.bc, .slice x.wa D.2.length x.wc]
  have h0 := h.step b0
  have hc := dCheck_any x D _ h0
  rw [checkO] at hc
  rw [findO]
  have HB := Lib.hid b0
  have HX := Lib.hid x0
  have HD := Lib.hid h0
  have HZ := Lib.hid hz
  have HW := Lib.hid h
  by_cases hm : MayD D
  · rw [if_pos hm] at hc ⊢
    have HR : Hid (∀ (p : Nat) (W : World), p < 4 → Dsk W W.heap.size x D → Calls Tryz.prog 20 #[dval x D, .int .i64 (p : Int)] W (ToldL (leftD D (fun _ => true) p, 0) W)) := Lib.hid fun p W hp hd => by
      have := dRead_any x D (p : Int) W hd
      rwa [read_ok hm (by omega)] at this
    have HL : Hid (∀ p, p < 4 → (leftD D (fun _ => true) p).length = 256) := Lib.hid fun p hp => leftD_length hm _ (by omega)
    have HC := Lib.hid hc
    simp only [dval] at HC HR ⊢
    clear b0 x0 h0 h hz hc hm
    go_enter Tryz.func8, Tryz.ntmps8
    go_wp2_with (go_at_call 13; refine HC.out.mono ?_; rintro ev w1 ⟨rfl, b1⟩; have HB1 := Lib.hid (HB.out.trans (b1.mono HB.out.size)); have HX1 := Lib.hid (HX.out.below b1 HX.out.lt); have HD1 := Lib.hid (HD.out.step b1); clear b1)
    have HS1 := Lib.hid (show w.heap.size + 1 ≤ w1.heap.size from HX1.out.lt)
    go_loopw [5, 16] (fun v i wr => ∃ k : Nat, k ≤ 4 ∧ i = .int .i64 k ∧ LRow wr (w.heap.size + 1) v (slotsL (seenL D) k) ∧ Below (w.heap.size + 1) w1 wr) (fun _ i _ => 4 - (intOf i).toNat)
    case atStart => exact ⟨0, Nat.zero_le _, rfl, lrow_nil _ _, Below.refl _ _⟩
    case round =>
      obtain ⟨k, hk, rfl, hrow, hb⟩ := hrel
      obtain ⟨av, cv, rfl, _⟩ := hrow.lbs
      have k0 : (0 : Int) ≤ k := by omega
      have HRW := Lib.hid hrow
      have HN := Lib.hid hb
      have HBr := Lib.hid (HB1.out.trans (hb.mono (Nat.le_succ _)))
      have HSZ := Lib.hid (Nat.le_trans HS1.out hb.size)
      clear hrow hb
      have c0 := (HX1.out.below HN.out (Nat.lt_succ_self _)).cell 0
      have c1 := (HX1.out.below HN.out (Nat.lt_succ_self _)).cell 1
      by_cases hlt : k < 4
      · have k1 : (k : Int) < 4 := by omega
        obtain ⟨S, hS⟩ : ∃ S, leftD D (fun _ => true) k = S := ⟨_, rfl⟩
        have HS := Lib.hid hS
        have hsee : seenL D k = match labelO S with
          | some l => if l.1 % 4 = k then some l else none
          | none => none := by rw [← hS]; rfl
        clear hS
        cases hlab : labelO S with
        | none =>
          rw [hlab] at hsee
          have hsl := slotsL_none (f := seenL D) (k := k) hsee
          have HSL := Lib.hid hsl
          clear hsee hsl
          go_wp2_with (first
                        | (go_at_call 20
                           refine (HR.out k wr hlt (HW.out.step HBr.out)).mono ?_
                           rintro ev w2 ⟨v2, rfl, o2, b2⟩
                           rw [HL.out k hlt, HS.out] at o2
                           obtain ⟨A2, C2, rfl, s2⟩ := own_to o2
                           have HB2 := Lib.hid (HBr.out.trans (b2.mono HBr.out.size))
                           have hof := lOf_any A2 C2 S w2 s2 (HZ.out.step HB2.out)
                           rw [hlab] at hof
                           simp only [ofV] at hof
                           have HOF := Lib.hid hof
                           have HRW2 := Lib.hid (HRW.out.below b2)
                           have HN2 := Lib.hid (HN.out.trans (b2.mono HSZ.out))
                           have HSZ2 := Lib.hid (Nat.le_trans HSZ.out b2.size)
                           have e0 := (HX1.out.below HN2.out (Nat.lt_succ_self _)).cell 0
                           clear o2 s2 b2 hof)
                        | (go_at_call 21
                           refine HOF.out.mono ?_
                           rintro ev w3 ⟨rfl, b3⟩
                           have HB3 := Lib.hid (HB2.out.trans (b3.mono HB2.out.size))
                           have HRW3 := Lib.hid (HRW2.out.below b3)
                           have HN3 := Lib.hid (HN2.out.trans (b3.mono HSZ2.out))
                           have HSZ3 := Lib.hid (Nat.le_trans HSZ2.out b3.size)
                           have ba : Below w3.heap.size w3 (w3.alloc (.cells #[.int .u32 0, .int .u32 0, .int .i64 0, .int .u32 0, .int .u32 0, .int .u32 0, .int .u32 0] 30)) := (Below.refl _ _).alloc (Nat.le_refl _) _
                           have HB4 := Lib.hid (HB3.out.trans (ba.mono HB3.out.size))
                           have HRW4 := Lib.hid (HRW3.out.below ba)
                           have HN4 := Lib.hid (HN3.out.trans (ba.mono HSZ3.out))
                           have HSZ4 := Lib.hid (Nat.le_trans HSZ3.out ba.size)
                           clear ba b3))
          go_roundw
          case rel => exact ⟨k + 1, by omega, by go_num, by rw [HSL.out]; exact HRW4.out, HN4.out⟩
          case measure => simp [intOf]; omega
        | some l =>
          rw [hlab] at hsee
          simp only at hsee
          have hwl := (labelO_some hlab).2.1
          obtain ⟨g, e, a, b, c, d, f⟩ := l
          simp only at hsee
          have g0 : (0 : Int) ≤ ((g % 4 : Nat) : Int) := by omega
          by_cases hk4 : g % 4 = k
          · rw [if_pos hk4] at hsee
            have hsl := slotsL_some (f := seenL D) (k := k) hsee
            have HSL := Lib.hid hsl
            have hkk : (((g % 4 : Nat) : Int) == (k : Int)) = true := by simp; omega
            clear hsee hsl hk4
            go_wp2_with (first
                          | (go_at_call 20
                             refine (HR.out k wr hlt (HW.out.step HBr.out)).mono ?_
                             rintro ev w2 ⟨v2, rfl, o2, b2⟩
                             rw [HL.out k hlt, HS.out] at o2
                             obtain ⟨A2, C2, rfl, s2⟩ := own_to o2
                             have HB2 := Lib.hid (HBr.out.trans (b2.mono HBr.out.size))
                             have hof := lOf_any A2 C2 S w2 s2 (HZ.out.step HB2.out)
                             rw [hlab] at hof
                             simp only [ofV] at hof
                             have HOF := Lib.hid hof
                             have HRW2 := Lib.hid (HRW.out.below b2)
                             have HN2 := Lib.hid (HN.out.trans (b2.mono HSZ.out))
                             have HSZ2 := Lib.hid (Nat.le_trans HSZ.out b2.size)
                             have e0 := (HX1.out.below HN2.out (Nat.lt_succ_self _)).cell 0
                             clear o2 s2 b2 hof)
                          | (go_at_call 21
                             refine HOF.out.mono ?_
                             rintro ev w3 ⟨rfl, b3⟩
                             have HB3 := Lib.hid (HB2.out.trans (b3.mono HB2.out.size))
                             have HRW3 := Lib.hid (HRW2.out.below b3)
                             have HN3 := Lib.hid (HN2.out.trans (b3.mono HSZ2.out))
                             have HSZ3 := Lib.hid (Nat.le_trans HSZ2.out b3.size)
                             have ba : Below w3.heap.size w3 (w3.alloc (.cells #[.int .u32 (g : Int), .int .u32 (e : Int), .int .i64 a, .int .u32 (b : Int), .int .u32 (c : Int), .int .u32 (d : Int), .int .u32 (f : Int)] 30)) := (Below.refl _ _).alloc (Nat.le_refl _) _
                             have HB4 := Lib.hid (HB3.out.trans (ba.mono HB3.out.size))
                             have HRW4 := Lib.hid (HRW3.out.below ba)
                             have HN4 := Lib.hid (HN3.out.trans (ba.mono HSZ3.out))
                             have HSZ4 := Lib.hid (Nat.le_trans HSZ3.out ba.size)
                             clear ba b3)
                          | (go_at_call 11
                             refine (lSlot_any g hwl.1 _).mono ?_
                             rintro ev w5 ⟨rfl, rfl⟩)
                          | (with_reducible refine atAppendL ?_
                             have bb : Below (w3.alloc (.cells #[.int .u32 (g : Int), .int .u32 (e : Int), .int .i64 a, .int .u32 (b : Int), .int .u32 (c : Int), .int .u32 (d : Int), .int .u32 (f : Int)] 30)).heap.size (w3.alloc (.cells #[.int .u32 (g : Int), .int .u32 (e : Int), .int .i64 a, .int .u32 (b : Int), .int .u32 (c : Int), .int .u32 (d : Int), .int .u32 (f : Int)] 30)) ((w3.alloc (.cells #[.int .u32 (g : Int), .int .u32 (e : Int), .int .i64 a, .int .u32 (b : Int), .int .u32 (c : Int), .int .u32 (d : Int), .int .u32 (f : Int)] 30)).alloc (.cells #[.int .u32 (g : Int), .int .u32 (e : Int), .int .i64 a, .int .u32 (b : Int), .int .u32 (c : Int), .int .u32 (d : Int), .int .u32 (f : Int)] 30)) := (Below.refl _ _).alloc (Nat.le_refl _) _
                             have HRW5 := Lib.hid (HRW4.out.below bb)
                             have HN5 := Lib.hid (HN4.out.trans (bb.mono HSZ4.out))
                             have HSZ5 := Lib.hid (Nat.le_trans HSZ4.out bb.size)
                             have hone := one_lbs (w3.alloc (.cells #[.int .u32 (g : Int), .int .u32 (e : Int), .int .i64 a, .int .u32 (b : Int), .int .u32 (c : Int), .int .u32 (d : Int), .int .u32 (f : Int)] 30)) (g, e, a, b, c, d, f) hwl
                             simp only [World.size_alloc] at hone
                             clear bb
                             refine wpList_append_lrow rfl (.tmp 38) (.tmp 40) rfl (w.heap.size + 1) (.slice av (slotsL (seenL D) k).length cv) (slotsL (seenL D) k) rfl HRW5.out _ _ 1 1 [(g, e, a, b, c, d, f)] rfl hone (by have := slotsL_length (seenL D) k; omega) HSZ5.out ?_
                             intro v6 w6 r6 g6
                             have HR6 := Lib.hid r6
                             have HN6 := Lib.hid (app_below HN5.out HRW5.out.1 g6 HSZ5.out)
                             clear r6 g6 hone))
            go_roundw
            case rel => exact ⟨k + 1, by omega, by go_num, by rw [HSL.out]; exact HR6.out, HN6.out⟩
            case measure => simp [intOf]; omega
          · rw [if_neg hk4] at hsee
            have hsl := slotsL_none (f := seenL D) (k := k) hsee
            have HSL := Lib.hid hsl
            have hkk : (((g % 4 : Nat) : Int) == (k : Int)) = false := by simp; omega
            clear hsee hsl hk4
            go_wp2_with (first
                          | (go_at_call 20
                             refine (HR.out k wr hlt (HW.out.step HBr.out)).mono ?_
                             rintro ev w2 ⟨v2, rfl, o2, b2⟩
                             rw [HL.out k hlt, HS.out] at o2
                             obtain ⟨A2, C2, rfl, s2⟩ := own_to o2
                             have HB2 := Lib.hid (HBr.out.trans (b2.mono HBr.out.size))
                             have hof := lOf_any A2 C2 S w2 s2 (HZ.out.step HB2.out)
                             rw [hlab] at hof
                             simp only [ofV] at hof
                             have HOF := Lib.hid hof
                             have HRW2 := Lib.hid (HRW.out.below b2)
                             have HN2 := Lib.hid (HN.out.trans (b2.mono HSZ.out))
                             have HSZ2 := Lib.hid (Nat.le_trans HSZ.out b2.size)
                             have e0 := (HX1.out.below HN2.out (Nat.lt_succ_self _)).cell 0
                             clear o2 s2 b2 hof)
                          | (go_at_call 21
                             refine HOF.out.mono ?_
                             rintro ev w3 ⟨rfl, b3⟩
                             have HB3 := Lib.hid (HB2.out.trans (b3.mono HB2.out.size))
                             have HRW3 := Lib.hid (HRW2.out.below b3)
                             have HN3 := Lib.hid (HN2.out.trans (b3.mono HSZ2.out))
                             have HSZ3 := Lib.hid (Nat.le_trans HSZ2.out b3.size)
                             have ba : Below w3.heap.size w3 (w3.alloc (.cells #[.int .u32 (g : Int), .int .u32 (e : Int), .int .i64 a, .int .u32 (b : Int), .int .u32 (c : Int), .int .u32 (d : Int), .int .u32 (f : Int)] 30)) := (Below.refl _ _).alloc (Nat.le_refl _) _
                             have HB4 := Lib.hid (HB3.out.trans (ba.mono HB3.out.size))
                             have HRW4 := Lib.hid (HRW3.out.below ba)
                             have HN4 := Lib.hid (HN3.out.trans (ba.mono HSZ3.out))
                             have HSZ4 := Lib.hid (Nat.le_trans HSZ3.out ba.size)
                             clear ba b3)
                          | (go_at_call 11
                             refine (lSlot_any g hwl.1 _).mono ?_
                             rintro ev w5 ⟨rfl, rfl⟩))
            go_roundw
            case rel => exact ⟨k + 1, by omega, by go_num, by rw [HSL.out]; exact HRW4.out, HN4.out⟩
            case measure => simp [intOf]; omega
      · obtain rfl : k = 4 := by omega
        have hl4 := slotsL_length (seenL D) 4
        have heq := fun (L' : List Lb) (h1 : L'.Perm (slotsL (seenL D) 4)) (h2 : Falls L') => standL_eq (seenL_slotted D) h1 h2
        obtain ⟨L, hL⟩ : ∃ L, slotsL (seenL D) 4 = L := ⟨_, rfl⟩
        rw [hL] at HRW hl4 heq ⊢
        have hso := lSort_any av cv L wr (w.heap.size + 1) HRW.out hl4
        have HSO := Lib.hid hso
        have HEQ := Lib.hid heq
        clear hso heq hL hl4
        go_wp2_with (go_at_call 22
                     refine HSO.out.mono ?_
                     rintro ev w2 ⟨rfl, L', p2, f2, r2, g2⟩
                     have hE := HEQ.out L' p2 f2
                     have HN2 := Lib.hid (app_below HN.out HRW.out.1 g2 HSZ.out)
                     have HL2 := Lib.hid (And.intro p2.length_eq hE)
                     have HR2 := Lib.hid r2
                     clear p2 f2 g2 hE r2)
        go_ret2
        refine ⟨_, rfl, ?_, HB1.out.trans (HN2.out.mono (Nat.le_succ _))⟩
        rw [findL, ← HL2.out.2]
        exact HR2.out.mono (Nat.le_succ _)
  · rw [if_neg hm] at hc ⊢
    have HC := Lib.hid hc
    simp only [dval] at HC ⊢
    clear b0 x0 h0 h hz hc hm
    go_enter Tryz.func8, Tryz.ntmps8
    go_wp2_with (go_at_call 13; refine HC.out.mono ?_; rintro ev w1 ⟨rfl, b1⟩; have HB1 := Lib.hid (HB.out.trans (b1.mono HB.out.size)); clear b1)
    go_ret2
    exact ⟨_, rfl, lrow_nil _ _, HB1.out⟩
end Go.Proofs.YtldnelimemjaiaaGreatDoor
/-
  The document's own Stand and Find of layer 11: the labels in the slots, each put in ahead of the first one with a smaller Gen.
-/
namespace Go.Proofs.YtldnelimemjaiaaGreatDoor
open Go.RowKit Go.Shelf
set_option maxRecDepth 100000

/-- Is one of the first j smaller? -/
def anyS (l : Lb) (L : List Lb) (j : Nat) : Bool := (L.take j).any fun m => decide (m.1 < l.1)
/-- What stands in the new list when the first j were gone through. -/
def insS (l : Lb) (L : List Lb) (j : Nat) : List Lb := if anyS l L j then insL l (L.take j) else L.take j
theorem insL_in (l x : Lb) : ∀ A : List Lb, (A.any fun m => decide (m.1 < l.1)) = true → insL l (A ++ [x]) = insL l A ++ [x]
  | [], h => by cases h
  | m :: A, h => by
    show insL l (m :: (A ++ [x])) = _
    unfold insL
    by_cases hm : m.1 < l.1
    · rw [if_pos hm, if_pos hm]; rfl
    · rw [if_neg hm, if_neg hm]
      have : (A.any fun m => decide (m.1 < l.1)) = true := by simpa [hm] using h
      rw [insL_in l x A this]; rfl
theorem insL_out (l : Lb) : ∀ A B : List Lb, (A.any fun m => decide (m.1 < l.1)) = false → insL l (A ++ B) = A ++ insL l B
  | [], _, _ => rfl
  | m :: A, B, h => by
    have hm : ¬ m.1 < l.1 := by
      intro hm
      simp [hm] at h
    have : (A.any fun m => decide (m.1 < l.1)) = false := by simpa [hm] using h
    show insL l (m :: (A ++ B)) = _
    rw [insL, if_neg hm, insL_out l A B this]; rfl
theorem take_snoc {L : List Lb} {j : Nat} (h : j < L.length) : L.take (j + 1) = L.take j ++ [L.getD j l0] := by
  rw [List.take_add_one, List.getElem?_eq_getElem h, List.getD_eq_getElem?_getD, List.getElem?_eq_getElem h]; rfl
theorem anyS_snoc (l : Lb) {L : List Lb} {j : Nat} (h : j < L.length) : anyS l L (j + 1) = (anyS l L j || decide ((L.getD j l0).1 < l.1)) := by
  rw [anyS, take_snoc h, List.any_append]; simp [anyS]
theorem insS_in (l : Lb) {L : List Lb} {j : Nat} (h : j < L.length) (ha : anyS l L j = true) : insS l L (j + 1) = insS l L j ++ [L.getD j l0] := by
  have e : anyS l L (j + 1) = true := by rw [anyS_snoc l h, ha]; rfl
  rw [insS, if_pos e, insS, if_pos ha, take_snoc h]
  exact insL_in l _ _ ha
theorem insS_at (l : Lb) {L : List Lb} {j : Nat} (h : j < L.length) (ha : anyS l L j = false) (hx : (L.getD j l0).1 < l.1) : insS l L (j + 1) = (insS l L j ++ [l]) ++ [L.getD j l0] := by
  have e : anyS l L (j + 1) = true := by rw [anyS_snoc l h, ha, decide_eq_true hx]; rfl
  rw [insS, if_pos e, insS, if_neg (by rw [ha]; simp), take_snoc h, insL_out l _ _ ha, insL, if_pos hx]
  simp
theorem insS_out (l : Lb) {L : List Lb} {j : Nat} (h : j < L.length) (ha : anyS l L j = false) (hx : ¬ (L.getD j l0).1 < l.1) : insS l L (j + 1) = insS l L j ++ [L.getD j l0] := by
  have e : anyS l L (j + 1) = false := by rw [anyS_snoc l h, ha, decide_eq_false hx]; rfl
  rw [insS, if_neg (by rw [e]; simp), insS, if_neg (by rw [ha]; simp), take_snoc h]
theorem insS_all (l : Lb) (L : List Lb) (ha : anyS l L L.length = true) : insS l L L.length = insL l L := by
  rw [insS, if_pos ha, List.take_length]
theorem insS_none (l : Lb) (L : List Lb) (ha : anyS l L L.length = false) : insS l L L.length ++ [l] = insL l L := by
  rw [insS, if_neg (by rw [ha]; simp), List.take_length]
  have := insL_out l L [] (by rw [anyS, List.take_length] at ha; exact ha)
  rw [List.append_nil] at this
  rw [this]; rfl
theorem insS_length (l : Lb) (L : List Lb) (j : Nat) : (insS l L j).length ≤ L.length + 1 := by
  unfold insS
  split
  · have := (insL_perm l (L.take j)).length_eq
    rw [this]; simp; omega
  · simp; omega
theorem standL_none {F : Nat → Option Lb} {k : Nat} (h : F k = none) : standL F (k + 1) = standL F k := by rw [standL, h]
theorem standL_some {F : Nat → Option Lb} {k : Nat} {l : Lb} (h : F k = some l) : standL F (k + 1) = insL l (standL F k) := by rw [standL, h]
theorem rl_cells {w : World} {B len cap : Nat} {a : Option Addr} {L : List Lb} (h : Lbs w B a len cap L) (i : Nat) (hi : i < len) : ∃ b off g e x y z t u, a = some ⟨b, off, none⟩ ∧ b < B ∧ L.getD i l0 = (g, e, x, y, z, t, u) ∧ WfL (g, e, x, y, z, t, u) ∧ w.cell? ⟨b, off + i * 7, none⟩ = some (.int .u32 (g : Int)) ∧ w.cell? ⟨b, off + i * 7 + 1, none⟩ = some (.int .u32 (e : Int)) ∧ w.cell? ⟨b, off + i * 7 + 2, none⟩ = some (.int .i64 x) ∧
    w.cell? ⟨b, off + i * 7 + 3, none⟩ = some (.int .u32 (y : Int)) ∧ w.cell? ⟨b, off + i * 7 + 4, none⟩ = some (.int .u32 (z : Int)) ∧ w.cell? ⟨b, off + i * 7 + 5, none⟩ = some (.int .u32 (t : Int)) ∧ w.cell? ⟨b, off + i * 7 + 6, none⟩ = some (.int .u32 (u : Int)) := by
  obtain ⟨b, off, e1, h1, h2, h3⟩ := h.cells i hi
  exact ⟨b, off, _, _, _, _, _, _, _, e1, h1, rfl, h2, h3⟩
/-- Seven cells of a label at a place. -/
def SevR (w : World) (b o : Nat) (g e : Nat) (a : Int) (x y z t : Nat) : Prop :=
  w.cell? ⟨b, o, none⟩ = some (.int .u32 (g : Int)) ∧ w.cell? ⟨b, o + 1, none⟩ = some (.int .u32 (e : Int)) ∧ w.cell? ⟨b, o + 2, none⟩ = some (.int .i64 a) ∧ w.cell? ⟨b, o + 3, none⟩ = some (.int .u32 (x : Int)) ∧ w.cell? ⟨b, o + 4, none⟩ = some (.int .u32 (y : Int)) ∧ w.cell? ⟨b, o + 5, none⟩ = some (.int .u32 (z : Int)) ∧ w.cell? ⟨b, o + 6, none⟩ = some (.int .u32 (t : Int))
theorem SevR.below {w w' : World} {B b o g e x y z t : Nat} {a : Int} (h : SevR w b o g e a x y z t) (hb : Below B w w') (hlt : b < B) : SevR w' b o g e a x y z t := by
  obtain ⟨h0, h1, h2, h3, h4, h5, h6⟩ := h
  exact ⟨(hb.cell (p := ⟨b, o, none⟩) hlt).trans h0, (hb.cell (p := ⟨b, o + 1, none⟩) hlt).trans h1, (hb.cell (p := ⟨b, o + 2, none⟩) hlt).trans h2, (hb.cell (p := ⟨b, o + 3, none⟩) hlt).trans h3, (hb.cell (p := ⟨b, o + 4, none⟩) hlt).trans h4, (hb.cell (p := ⟨b, o + 5, none⟩) hlt).trans h5, (hb.cell (p := ⟨b, o + 6, none⟩) hlt).trans h6⟩

set_option maxHeartbeats 4000000 in
theorem rlStand_any (x : DAt) (D : DkL) (w : World) (h : Dsk w w.heap.size x D) (hm : MayD D) : Calls Tryz.prog 25 #[dval x D] w fun e w' => ∃ v, e = .returned v ∧ LRow w' w.heap.size v (findL D) ∧ Below w.heap.size w w' := by
  obtain ⟨w0, hw0⟩ : ∃ w0, w.alloc (.cells #[.slice x.ba D.1.length x.bc, .slice x.wa D.2.length x.wc] 25) = w0 := ⟨_, rfl⟩
  have b0 : Below w.heap.size w w0 := by rw [← hw0]; exact (Below.refl w.heap.size w).alloc (Nat.le_refl _) _
  have x0 : Blk w0 w.heap.size 25 #[.slice x.ba D.1.length x.bc, .slice x.wa D.2.length x.wc] := by rw [← hw0]; exact Blk.new w _ _
  have HB1 := Lib.hid b0
  have HX1 := Lib.hid x0
  have HW := Lib.hid h
  have HR : Hid (∀ (p : Nat) (W : World), p < 4 → Dsk W W.heap.size x D → Calls Tryz.prog 53 #[dval x D, .int .i64 (p : Int)] W (OwnS (leftD D (fun _ => true) p) W)) := Lib.hid fun p W hp hd => rdSeen_any x D p W hd (by rw [hm.1.1]; omega) (by rw [leftD_length hm _ (by omega)]; omega)
  have HL : Hid (∀ p, p < 4 → (leftD D (fun _ => true) p).length = 256) := Lib.hid fun p hp => leftD_length hm _ (by omega)
  simp only [dval] at HR ⊢
  clear b0 x0 h hm
  go_enter Tryz.func25, Tryz.ntmps25
  go_wp2_with fail
  clear hw0
  have HS1 := Lib.hid (show w.heap.size + 1 ≤ w0.heap.size from HX1.out.lt)
  go_loopw [3, 4] (fun v i wr => ∃ k : Nat, k ≤ 4 ∧ i = .int .i64 k ∧ LRow wr (w.heap.size + 1) v (standL (seenL D) k) ∧ Below (w.heap.size + 1) w0 wr) (fun _ i _ => 4 - (intOf i).toNat)
  case atStart => exact ⟨0, Nat.zero_le _, rfl, lrow_nil _ _, Below.refl _ _⟩
  case round =>
    obtain ⟨k, hk, rfl, hrow, hb⟩ := hrel
    obtain ⟨av, cv, rfl, _⟩ := hrow.lbs
    have k0 : (0 : Int) ≤ k := by omega
    have HRW := Lib.hid hrow
    have HN := Lib.hid hb
    have HBr := Lib.hid (HB1.out.trans (hb.mono (Nat.le_succ _)))
    have HSZ := Lib.hid (Nat.le_trans HS1.out hb.size)
    clear hrow hb
    have c0 := (HX1.out.below HN.out (Nat.lt_succ_self _)).cell 0
    have c1 := (HX1.out.below HN.out (Nat.lt_succ_self _)).cell 1
    by_cases hlt : k < 4
    · have k1 : (k : Int) < 4 := by omega
      obtain ⟨S, hS⟩ : ∃ S, leftD D (fun _ => true) k = S := ⟨_, rfl⟩
      have HS := Lib.hid hS
      have hsee : seenL D k = match labelO S with
        | some l => if l.1 % 4 = k then some l else none
        | none => none := by rw [← hS]; rfl
      clear hS
      cases hlab : labelO S with
      | none =>
        rw [hlab] at hsee
        have HSL := Lib.hid (standL_none (F := seenL D) (k := k) hsee)
        clear hsee
        go_wp2_with (first
          | (go_at_call 53
             refine (HR.out k wr hlt (HW.out.step HBr.out)).mono ?_
             rintro ev w2 ⟨v2, rfl, o2, b2⟩
             rw [HL.out k hlt, HS.out] at o2
             obtain ⟨A2, C2, rfl, s2⟩ := own_to o2
             have HB2 := Lib.hid (HBr.out.trans (b2.mono HBr.out.size))
             have hof := rlOf_any A2 C2 S w2 s2
             rw [hlab] at hof
             simp only [ofV] at hof
             have HOF := Lib.hid hof
             have HRW2 := Lib.hid (HRW.out.below b2)
             have HN2 := Lib.hid (HN.out.trans (b2.mono HSZ.out))
             have HSZ2 := Lib.hid (Nat.le_trans HSZ.out b2.size)
             clear o2 s2 b2 hof)
          | (go_at_call 52
             refine HOF.out.mono ?_
             rintro ev w3 ⟨⟨g, e, a, b, c, d, f⟩, rfl, -, b3⟩
             have HB3 := Lib.hid (HB2.out.trans (b3.mono HB2.out.size))
             have HRW3 := Lib.hid (HRW2.out.below b3)
             have HN3 := Lib.hid (HN2.out.trans (b3.mono HSZ2.out))
             have HSZ3 := Lib.hid (Nat.le_trans HSZ2.out b3.size)
             obtain ⟨gb, hgb⟩ : ∃ gb, w3.heap.size = gb := ⟨_, rfl⟩
             obtain ⟨wo, hwo⟩ : ∃ wo, w3.alloc (.cells #[.int .u32 (g : Int), .int .u32 (e : Int), .int .i64 a, .int .u32 (b : Int), .int .u32 (c : Int), .int .u32 (d : Int), .int .u32 (f : Int)] 30) = wo := ⟨_, rfl⟩
             have ba : Below w3.heap.size w3 wo := by rw [← hwo]; exact (Below.refl _ _).alloc (Nat.le_refl _) _
             have xb : Blk wo gb 30 #[.int .u32 (g : Int), .int .u32 (e : Int), .int .i64 a, .int .u32 (b : Int), .int .u32 (c : Int), .int .u32 (d : Int), .int .u32 (f : Int)] := by rw [← hwo, ← hgb]; exact Blk.new _ _ _
             have HXB := Lib.hid xb
             have HB4 := Lib.hid (HB3.out.trans (ba.mono HB3.out.size))
             have HRW4 := Lib.hid (HRW3.out.below ba)
             have HN4 := Lib.hid (HN3.out.trans (ba.mono HSZ3.out))
             have HSZ4 := Lib.hid (Nat.le_trans HSZ3.out ba.size)
             have q0 := xb.cell 0
             clear ba b3 xb))
        go_roundw
        case rel => exact ⟨k + 1, by omega, by go_num, by rw [HSL.out]; exact HRW4.out, HN4.out⟩
        case measure => simp [intOf]; omega
      | some l =>
        rw [hlab] at hsee
        simp only at hsee
        have hwl := (labelO_some hlab).2.1
        obtain ⟨g, e, a, b, c, d, f⟩ := l
        simp only at hsee
        have g0 : (0 : Int) ≤ ((g % 4 : Nat) : Int) := by omega
        by_cases hk4 : g % 4 = k
        · rw [if_pos hk4] at hsee
          have hsl := standL_some (F := seenL D) (k := k) hsee
          have hlen := standL_length (seenL D) k
          obtain ⟨LL, hLL⟩ : ∃ LL, standL (seenL D) k = LL := ⟨_, rfl⟩
          rw [hLL] at hsl hlen HRW ⊢
          obtain ⟨nn, hnn⟩ : ∃ nn, LL.length = nn := ⟨_, rfl⟩
          rw [hnn] at hlen ⊢
          have HNN := Lib.hid hnn
          have HSL := Lib.hid hsl
          have HLN := Lib.hid hlen
          have hkk : ((g : Int) % 4 != (k : Int)) = false := by simp; omega
          have HWL := Lib.hid hwl
          have hn4 : nn ≤ 4 := by omega
          clear hsee hsl hk4 hLL hnn hlen
          go_wp2_with (first
            | (go_at_call 53
               refine (HR.out k wr hlt (HW.out.step HBr.out)).mono ?_
               rintro ev w2 ⟨v2, rfl, o2, b2⟩
               rw [HL.out k hlt, HS.out] at o2
               obtain ⟨A2, C2, rfl, s2⟩ := own_to o2
               have HB2 := Lib.hid (HBr.out.trans (b2.mono HBr.out.size))
               have hof := rlOf_any A2 C2 S w2 s2
               rw [hlab] at hof
               simp only [ofV] at hof
               have HOF := Lib.hid hof
               have HRW2 := Lib.hid (HRW.out.below b2)
               have HN2 := Lib.hid (HN.out.trans (b2.mono HSZ.out))
               have HSZ2 := Lib.hid (Nat.le_trans HSZ.out b2.size)
               clear o2 s2 b2 hof)
            | (go_at_call 52
               refine HOF.out.mono ?_
               rintro ev w3 ⟨l3, rfl, hl3, b3⟩
               obtain rfl := hl3 _ rfl
               have HB3 := Lib.hid (HB2.out.trans (b3.mono HB2.out.size))
               have HRW3 := Lib.hid (HRW2.out.below b3)
               have HN3 := Lib.hid (HN2.out.trans (b3.mono HSZ2.out))
               have HSZ3 := Lib.hid (Nat.le_trans HSZ2.out b3.size)
               obtain ⟨gb, hgb⟩ : ∃ gb, w3.heap.size = gb := ⟨_, rfl⟩
               obtain ⟨wo, hwo⟩ : ∃ wo, w3.alloc (.cells #[.int .u32 (g : Int), .int .u32 (e : Int), .int .i64 a, .int .u32 (b : Int), .int .u32 (c : Int), .int .u32 (d : Int), .int .u32 (f : Int)] 30) = wo := ⟨_, rfl⟩
               have ba : Below w3.heap.size w3 wo := by rw [← hwo]; exact (Below.refl _ _).alloc (Nat.le_refl _) _
               have xb : Blk wo gb 30 #[.int .u32 (g : Int), .int .u32 (e : Int), .int .i64 a, .int .u32 (b : Int), .int .u32 (c : Int), .int .u32 (d : Int), .int .u32 (f : Int)] := by rw [← hwo, ← hgb]; exact Blk.new _ _ _
               have HXB := Lib.hid xb
               have HB4 := Lib.hid (HB3.out.trans (ba.mono HB3.out.size))
               have HRW4 := Lib.hid (HRW3.out.below ba)
               have HN4 := Lib.hid (HN3.out.trans (ba.mono HSZ3.out))
               have HSZ4 := Lib.hid (Nat.le_trans HSZ3.out ba.size)
               have q0 := xb.cell 0
               clear ba b3 xb)
            | (go_at_call 12
               refine (rlSlot_any g hwl.1 _).mono ?_
               rintro ev w5 ⟨rfl, rfl⟩))
          clear hkk
          have hlb := HRW4.out.lbs
          obtain ⟨av', cv', hav, hlb⟩ := hlb
          rw [HNN.out] at hav hlb
          have HLB : Hid (Lbs wo wo.heap.size av nn cv LL) := Lib.hid (by cases hav; exact hlb)
          clear hav hlb
          go_loopw [7, 8, 9] (fun v df i wi => ∃ j : Nat, j ≤ nn ∧ i = .int .i64 j ∧ df = .bool (anyS (g, e, a, b, c, d, f) LL j) ∧ LRow wi wo.heap.size v (insS (g, e, a, b, c, d, f) LL j) ∧ Below wo.heap.size wo wi) (fun _ _ i _ => nn - (intOf i).toNat)
          case atStart => exact ⟨0, Nat.zero_le _, rfl, rfl, lrow_nil _ _, Below.refl _ _⟩
          case round =>
            obtain ⟨j, hj, rfl, rfl, hrw, hI⟩ := hrel
            obtain ⟨wi, hwi⟩ : ∃ wi : World, wi = wr := ⟨_, rfl⟩
            subst hwi
            obtain ⟨vv, cw, rfl, _⟩ := hrw.lbs
            have j0 : (0 : Int) ≤ j := by omega
            have HI := Lib.hid hI
            have HIR := Lib.hid hrw
            clear hI hrw
            by_cases hjl : j < nn
            · have j1 : (j : Int) < nn := by omega
              obtain ⟨nb, no, n0_, n1_, n2_, n3_, n4_, n5_, n6_, han, hnb, vn, hwn, d0, d1, d2, d3, d4, d5, d6⟩ := rl_cells HLB.out j hjl
              subst han
              have HSV := Lib.hid (show SevR wo nb (no + j * 7) _ _ _ _ _ _ _ from ⟨d0, d1, d2, d3, d4, d5, d6⟩)
              have HNB := Lib.hid hnb
              clear d0 d1 d2 d3 d4 d5 d6 hnb
              obtain ⟨d0, d1, d2, d3, d4, d5, d6⟩ := HSV.out.below HI.out HNB.out
              obtain ⟨xq0, xq1, xq2, xq3, xq4, xq5, xq6⟩ := (HXB.out.below HI.out HXB.out.lt).seven
              have HWN := Lib.hid hwn
              have hjL : j < LL.length := by rw [HNN.out]; exact hjl
              have hn := anyS_snoc (g, e, a, b, c, d, f) hjL
              clear hwn
              cases hany : anyS (g, e, a, b, c, d, f) LL j with
              | true =>
                rw [hany, Bool.true_or] at hn
                have hst := insS_in (g, e, a, b, c, d, f) hjL hany
                rw [vn] at hst
                have HST := Lib.hid hst
                have HAN := Lib.hid hn
                clear hst hn hany vn hjL
                go_wp2_with fail
                go_quiet (fail)
                obtain ⟨wq, hwq⟩ : ∃ wq, wi.drewN nq = wq := ⟨_, rfl⟩
                have bq : Below wi.heap.size wi wq := by rw [← hwq]; exact below_drewN (Below.refl _ _) nq
                have HIq := Lib.hid (HI.out.trans (bq.mono HI.out.size))
                have HRq := Lib.hid (HIR.out.below bq)
                have HZq := Lib.hid HIq.out.size
                rw [hwq]
                clear hwq bq d0 d1 d2 d3 d4 d5 d6 xq0 xq1 xq2 xq3 xq4 xq5 xq6
                obtain ⟨d0, d1, d2, d3, d4, d5, d6⟩ := HSV.out.below HIq.out HNB.out
                obtain ⟨xq0, xq1, xq2, xq3, xq4, xq5, xq6⟩ := (HXB.out.below HIq.out HXB.out.lt).seven
                go_wp2_with (first
                  | (with_reducible refine atAppendL ?_
                     have bb : Below wq.heap.size wq (wq.alloc (.cells #[.int .u32 (n0_ : Int), .int .u32 (n1_ : Int), .int .i64 n2_, .int .u32 (n3_ : Int), .int .u32 (n4_ : Int), .int .u32 (n5_ : Int), .int .u32 (n6_ : Int)] 30)) := (Below.refl _ _).alloc (Nat.le_refl _) _
                     have RA7 := Lib.hid (HRq.out.below bb)
                     have NA7 := Lib.hid (HIq.out.trans (bb.mono HZq.out))
                     have ZA7 := Lib.hid (Nat.le_trans HZq.out bb.size)
                     have hone := one_lbs wq (n0_, n1_, n2_, n3_, n4_, n5_, n6_) HWN.out
                     simp only [World.size_alloc] at hone
                     clear bb
                     refine wpList_append_lrow rfl (.tmp 52) (.tmp 57) rfl wo.heap.size _ (insS (g, e, a, b, c, d, f) LL j) rfl RA7.out _ _ 1 1 [(n0_, n1_, n2_, n3_, n4_, n5_, n6_)] rfl hone (by have := insS_length (g, e, a, b, c, d, f) LL j; have := HNN.out; have := HLN.out; (try simp only [List.length_append, List.length_cons, List.length_nil]); omega) ZA7.out ?_
                     intro v7 w7 r6 g6
                     have RB7 := Lib.hid r6
                     have NB7 := Lib.hid (app_below NA7.out RA7.out.1 g6 ZA7.out)
                     have ZB7 := Lib.hid (Nat.le_trans ZA7.out g6.size)
                     clear r6 g6 hone))
                go_roundw
                case rel => exact ⟨j + 1, by omega, by go_num, by rw [HAN.out], by rw [HST.out]; exact RB7.out, NB7.out⟩
                case measure => simp [intOf]; omega
              | false =>
                rw [hany, Bool.false_or, vn] at hn
                by_cases hx : n0_ < g
                · have m1 : (n0_ : Int) < (g : Int) := by omega
                  have m3 : decide ((n0_ : Int) < (g : Int)) = true := decide_eq_true m1
                  rw [show decide ((n0_, n1_, n2_, n3_, n4_, n5_, n6_).1 < (g, e, a, b, c, d, f).1) = true from decide_eq_true hx] at hn
                  have hst := insS_at (g, e, a, b, c, d, f) hjL hany (by rw [vn]; exact hx)
                  rw [vn] at hst
                  have HST := Lib.hid hst
                  have HAN := Lib.hid hn
                  clear hst hn hany vn hjL
                  go_wp2_with fail
                  go_quiet (fail)
                  obtain ⟨wq, hwq⟩ : ∃ wq, wi.drewN nq = wq := ⟨_, rfl⟩
                  have bq : Below wi.heap.size wi wq := by rw [← hwq]; exact below_drewN (Below.refl _ _) nq
                  have HIq := Lib.hid (HI.out.trans (bq.mono HI.out.size))
                  have HRq := Lib.hid (HIR.out.below bq)
                  have HZq := Lib.hid HIq.out.size
                  rw [hwq]
                  clear hwq bq d0 d1 d2 d3 d4 d5 d6 xq0 xq1 xq2 xq3 xq4 xq5 xq6
                  obtain ⟨d0, d1, d2, d3, d4, d5, d6⟩ := HSV.out.below HIq.out HNB.out
                  obtain ⟨xq0, xq1, xq2, xq3, xq4, xq5, xq6⟩ := (HXB.out.below HIq.out HXB.out.lt).seven
                  go_wp2_with (first
                    | (with_reducible refine atAppendL ?_
                       have bb : Below wq.heap.size wq (wq.alloc (.cells #[.int .u32 (g : Int), .int .u32 (e : Int), .int .i64 a, .int .u32 (b : Int), .int .u32 (c : Int), .int .u32 (d : Int), .int .u32 (f : Int)] 30)) := (Below.refl _ _).alloc (Nat.le_refl _) _
                       have RA7 := Lib.hid (HRq.out.below bb)
                       have NA7 := Lib.hid (HIq.out.trans (bb.mono HZq.out))
                       have ZA7 := Lib.hid (Nat.le_trans HZq.out bb.size)
                       have hone := one_lbs wq (g, e, a, b, c, d, f) HWL.out
                       simp only [World.size_alloc] at hone
                       clear bb
                       refine wpList_append_lrow rfl (.tmp 48) (.tmp 50) rfl wo.heap.size _ (insS (g, e, a, b, c, d, f) LL j) rfl RA7.out _ _ 1 1 [(g, e, a, b, c, d, f)] rfl hone (by have := insS_length (g, e, a, b, c, d, f) LL j; have := HNN.out; have := HLN.out; (try simp only [List.length_append, List.length_cons, List.length_nil]); omega) ZA7.out ?_
                       intro v7 w7 r6 g6
                       have RB7 := Lib.hid r6
                       have NB7 := Lib.hid (app_below NA7.out RA7.out.1 g6 ZA7.out)
                       have ZB7 := Lib.hid (Nat.le_trans ZA7.out g6.size)
                       clear r6 g6 hone
                       clear d0 d1 d2 d3 d4 d5 d6
                       obtain ⟨d0, d1, d2, d3, d4, d5, d6⟩ := HSV.out.below NB7.out HNB.out)
                    | (with_reducible refine atAppendL ?_
                       have bb : Below w7.heap.size w7 (w7.alloc (.cells #[.int .u32 (n0_ : Int), .int .u32 (n1_ : Int), .int .i64 n2_, .int .u32 (n3_ : Int), .int .u32 (n4_ : Int), .int .u32 (n5_ : Int), .int .u32 (n6_ : Int)] 30)) := (Below.refl _ _).alloc (Nat.le_refl _) _
                       have RA8 := Lib.hid (RB7.out.below bb)
                       have NA8 := Lib.hid (NB7.out.trans (bb.mono ZB7.out))
                       have ZA8 := Lib.hid (Nat.le_trans ZB7.out bb.size)
                       have hone := one_lbs w7 (n0_, n1_, n2_, n3_, n4_, n5_, n6_) HWN.out
                       simp only [World.size_alloc] at hone
                       clear bb
                       refine wpList_append_lrow rfl (.tmp 52) (.tmp 57) rfl wo.heap.size _ (insS (g, e, a, b, c, d, f) LL j ++ [(g, e, a, b, c, d, f)]) rfl RA8.out _ _ 1 1 [(n0_, n1_, n2_, n3_, n4_, n5_, n6_)] rfl hone (by have := insS_length (g, e, a, b, c, d, f) LL j; have := HNN.out; have := HLN.out; (try simp only [List.length_append, List.length_cons, List.length_nil]); omega) ZA8.out ?_
                       intro v8 w8 r6 g6
                       have RB8 := Lib.hid r6
                       have NB8 := Lib.hid (app_below NA8.out RA8.out.1 g6 ZA8.out)
                       have ZB8 := Lib.hid (Nat.le_trans ZA8.out g6.size)
                       clear r6 g6 hone))
                  go_roundw
                  case rel => exact ⟨j + 1, by omega, by go_num, by rw [HAN.out], by rw [HST.out]; exact RB8.out, NB8.out⟩
                  case measure => simp [intOf]; omega
                · have m1 : ¬ (n0_ : Int) < (g : Int) := by omega
                  have m3 : decide ((n0_ : Int) < (g : Int)) = false := decide_eq_false m1
                  rw [show decide ((n0_, n1_, n2_, n3_, n4_, n5_, n6_).1 < (g, e, a, b, c, d, f).1) = false from decide_eq_false hx] at hn
                  have hst := insS_out (g, e, a, b, c, d, f) hjL hany (by rw [vn]; exact hx)
                  rw [vn] at hst
                  have HST := Lib.hid hst
                  have HAN := Lib.hid hn
                  clear hst hn hany vn hjL
                  go_wp2_with fail
                  go_quiet (fail)
                  obtain ⟨wq, hwq⟩ : ∃ wq, wi.drewN nq = wq := ⟨_, rfl⟩
                  have bq : Below wi.heap.size wi wq := by rw [← hwq]; exact below_drewN (Below.refl _ _) nq
                  have HIq := Lib.hid (HI.out.trans (bq.mono HI.out.size))
                  have HRq := Lib.hid (HIR.out.below bq)
                  have HZq := Lib.hid HIq.out.size
                  rw [hwq]
                  clear hwq bq d0 d1 d2 d3 d4 d5 d6 xq0 xq1 xq2 xq3 xq4 xq5 xq6
                  obtain ⟨d0, d1, d2, d3, d4, d5, d6⟩ := HSV.out.below HIq.out HNB.out
                  obtain ⟨xq0, xq1, xq2, xq3, xq4, xq5, xq6⟩ := (HXB.out.below HIq.out HXB.out.lt).seven
                  go_wp2_with (first
                    | (with_reducible refine atAppendL ?_
                       have bb : Below wq.heap.size wq (wq.alloc (.cells #[.int .u32 (n0_ : Int), .int .u32 (n1_ : Int), .int .i64 n2_, .int .u32 (n3_ : Int), .int .u32 (n4_ : Int), .int .u32 (n5_ : Int), .int .u32 (n6_ : Int)] 30)) := (Below.refl _ _).alloc (Nat.le_refl _) _
                       have RA7 := Lib.hid (HRq.out.below bb)
                       have NA7 := Lib.hid (HIq.out.trans (bb.mono HZq.out))
                       have ZA7 := Lib.hid (Nat.le_trans HZq.out bb.size)
                       have hone := one_lbs wq (n0_, n1_, n2_, n3_, n4_, n5_, n6_) HWN.out
                       simp only [World.size_alloc] at hone
                       clear bb
                       refine wpList_append_lrow rfl (.tmp 52) (.tmp 57) rfl wo.heap.size _ (insS (g, e, a, b, c, d, f) LL j) rfl RA7.out _ _ 1 1 [(n0_, n1_, n2_, n3_, n4_, n5_, n6_)] rfl hone (by have := insS_length (g, e, a, b, c, d, f) LL j; have := HNN.out; have := HLN.out; (try simp only [List.length_append, List.length_cons, List.length_nil]); omega) ZA7.out ?_
                       intro v7 w7 r6 g6
                       have RB7 := Lib.hid r6
                       have NB7 := Lib.hid (app_below NA7.out RA7.out.1 g6 ZA7.out)
                       have ZB7 := Lib.hid (Nat.le_trans ZA7.out g6.size)
                       clear r6 g6 hone))
                  go_roundw
                  case rel => exact ⟨j + 1, by omega, by go_num, by rw [HAN.out], by rw [HST.out]; exact RB7.out, NB7.out⟩
                  case measure => simp [intOf]; omega
            · obtain rfl : nn = j := by omega
              cases hany : anyS (g, e, a, b, c, d, f) LL nn with
              | true =>
                have he : insS (g, e, a, b, c, d, f) LL nn = insL (g, e, a, b, c, d, f) LL := by
                  have := HNN.out
                  subst this
                  exact insS_all _ _ hany
                have HEE := Lib.hid he
                clear he hany
                go_wp2_with fail
                go_roundw
                case rel => exact ⟨k + 1, by omega, by go_num, by rw [HSL.out, ← HEE.out]; exact HIR.out.mono HSZ4.out, HN4.out.trans (HI.out.mono HSZ4.out)⟩
                case measure => simp [intOf]; omega
              | false =>
                have he : insS (g, e, a, b, c, d, f) LL nn ++ [(g, e, a, b, c, d, f)] = insL (g, e, a, b, c, d, f) LL := by
                  have := HNN.out
                  subst this
                  exact insS_none _ _ hany
                have HEE := Lib.hid he
                have HZi := Lib.hid HI.out.size
                clear he hany
                obtain ⟨xq0, xq1, xq2, xq3, xq4, xq5, xq6⟩ := (HXB.out.below HI.out HXB.out.lt).seven
                go_wp2_with (first
                  | (with_reducible refine atAppendL ?_
                     have bb : Below wi.heap.size wi (wi.alloc (.cells #[.int .u32 (g : Int), .int .u32 (e : Int), .int .i64 a, .int .u32 (b : Int), .int .u32 (c : Int), .int .u32 (d : Int), .int .u32 (f : Int)] 30)) := (Below.refl _ _).alloc (Nat.le_refl _) _
                     have RA7 := Lib.hid (HIR.out.below bb)
                     have NA7 := Lib.hid (HI.out.trans (bb.mono HZi.out))
                     have ZA7 := Lib.hid (Nat.le_trans HZi.out bb.size)
                     have hone := one_lbs wi (g, e, a, b, c, d, f) HWL.out
                     simp only [World.size_alloc] at hone
                     clear bb
                     refine wpList_append_lrow rfl (.tmp 61) (.tmp 63) rfl wo.heap.size _ (insS (g, e, a, b, c, d, f) LL nn) rfl RA7.out _ _ 1 1 [(g, e, a, b, c, d, f)] rfl hone (by have := insS_length (g, e, a, b, c, d, f) LL nn; have := HNN.out; have := HLN.out; (try simp only [List.length_append, List.length_cons, List.length_nil]); omega) ZA7.out ?_
                     intro v7 w7 r6 g6
                     have RB7 := Lib.hid r6
                     have NB7 := Lib.hid (app_below NA7.out RA7.out.1 g6 ZA7.out)
                     have ZB7 := Lib.hid (Nat.le_trans ZA7.out g6.size)
                     clear r6 g6 hone))
                go_roundw
                case rel => exact ⟨k + 1, by omega, by go_num, by rw [HSL.out, ← HEE.out]; exact RB7.out.mono HSZ4.out, HN4.out.trans (NB7.out.mono HSZ4.out)⟩
                case measure => simp [intOf]; omega
        · rw [if_neg hk4] at hsee
          have HSL := Lib.hid (standL_none (F := seenL D) (k := k) hsee)
          have hkk : ((g : Int) % 4 != (k : Int)) = true := by simp; omega
          clear hsee hk4
          go_wp2_with (first
            | (go_at_call 53
               refine (HR.out k wr hlt (HW.out.step HBr.out)).mono ?_
               rintro ev w2 ⟨v2, rfl, o2, b2⟩
               rw [HL.out k hlt, HS.out] at o2
               obtain ⟨A2, C2, rfl, s2⟩ := own_to o2
               have HB2 := Lib.hid (HBr.out.trans (b2.mono HBr.out.size))
               have hof := rlOf_any A2 C2 S w2 s2
               rw [hlab] at hof
               simp only [ofV] at hof
               have HOF := Lib.hid hof
               have HRW2 := Lib.hid (HRW.out.below b2)
               have HN2 := Lib.hid (HN.out.trans (b2.mono HSZ.out))
               have HSZ2 := Lib.hid (Nat.le_trans HSZ.out b2.size)
               clear o2 s2 b2 hof)
            | (go_at_call 52
               refine HOF.out.mono ?_
               rintro ev w3 ⟨l3, rfl, hl3, b3⟩
               obtain rfl := hl3 _ rfl
               have HB3 := Lib.hid (HB2.out.trans (b3.mono HB2.out.size))
               have HRW3 := Lib.hid (HRW2.out.below b3)
               have HN3 := Lib.hid (HN2.out.trans (b3.mono HSZ2.out))
               have HSZ3 := Lib.hid (Nat.le_trans HSZ2.out b3.size)
               obtain ⟨gb, hgb⟩ : ∃ gb, w3.heap.size = gb := ⟨_, rfl⟩
               obtain ⟨wo, hwo⟩ : ∃ wo, w3.alloc (.cells #[.int .u32 (g : Int), .int .u32 (e : Int), .int .i64 a, .int .u32 (b : Int), .int .u32 (c : Int), .int .u32 (d : Int), .int .u32 (f : Int)] 30) = wo := ⟨_, rfl⟩
               have ba : Below w3.heap.size w3 wo := by rw [← hwo]; exact (Below.refl _ _).alloc (Nat.le_refl _) _
               have xb : Blk wo gb 30 #[.int .u32 (g : Int), .int .u32 (e : Int), .int .i64 a, .int .u32 (b : Int), .int .u32 (c : Int), .int .u32 (d : Int), .int .u32 (f : Int)] := by rw [← hwo, ← hgb]; exact Blk.new _ _ _
               have HXB := Lib.hid xb
               have HB4 := Lib.hid (HB3.out.trans (ba.mono HB3.out.size))
               have HRW4 := Lib.hid (HRW3.out.below ba)
               have HN4 := Lib.hid (HN3.out.trans (ba.mono HSZ3.out))
               have HSZ4 := Lib.hid (Nat.le_trans HSZ3.out ba.size)
               have q0 := xb.cell 0
               clear ba b3 xb)
            | (go_at_call 12
               refine (rlSlot_any g hwl.1 _).mono ?_
               rintro ev w5 ⟨rfl, rfl⟩))
          go_roundw
          case rel => exact ⟨k + 1, by omega, by go_num, by rw [HSL.out]; exact HRW4.out, HN4.out⟩
          case measure => simp [intOf]; omega
    · obtain rfl : k = 4 := by omega
      go_wp2_with fail
      go_ret
      exact ⟨_, rfl, HRW.out.mono (Nat.le_succ _), HBr.out⟩
set_option maxHeartbeats 2000000 in
theorem rlFind_any (x : DAt) (D : DkL) (w : World) (h : Dsk w w.heap.size x D) : Calls Tryz.prog 9 #[dval x D] w (OutLs (findO D) w) := by
  obtain ⟨w0, hw0⟩ : ∃ w0, w.alloc (.cells #[.slice x.ba D.1.length x.bc, .slice x.wa D.2.length x.wc] 25) = w0 := ⟨_, rfl⟩
  have b0 : Below w.heap.size w w0 := by rw [← hw0]; exact (Below.refl w.heap.size w).alloc (Nat.le_refl _) _
  have x0 : Blk w0 w.heap.size 25 #[.slice x.ba D.1.length x.bc, .slice x.wa D.2.length x.wc] := by rw [← hw0]; exact Blk.new w _ _
  have hc := rdMay_any x D w0 (h.step b0)
  have hst := fun W hd hm => rlStand_any x D W hd hm
  have HB := Lib.hid b0
  have HX := Lib.hid x0
  have HD := Lib.hid (h.step b0)
  have c0 := x0.cell 0
  have c1 := x0.cell 1
  rw [findO]
  clear b0 x0 h
  by_cases hm : MayD D
  · rw [if_pos hm]
    rw [decide_eq_true hm] at hc
    have HST : Hid (∀ W, Dsk W W.heap.size x D → Calls Tryz.prog 25 #[dval x D] W fun e w' => ∃ v, e = .returned v ∧ LRow w' W.heap.size v (findL D) ∧ Below W.heap.size W w') := Lib.hid fun W hd => hst W hd hm
    have HC := Lib.hid hc
    simp only [dval] at HC HST ⊢
    clear hc hst hm
    go_enter Tryz.func9, Tryz.ntmps9
    go_wp2_with fail
    go_at_call 17
    refine HC.out.mono ?_
    rintro ev w1 ⟨rfl, b1⟩
    have HB1 := Lib.hid (HB.out.trans (b1.mono HB.out.size))
    have HD1 := Lib.hid (HD.out.step b1)
    have x1 := HX.out.below b1 HX.out.lt
    clear c0 c1 b1
    have c0 := x1.cell 0
    have c1 := x1.cell 1
    clear x1
    go_wp2_with fail
    go_at_call 25
    refine (HST.out w1 HD1.out).mono ?_
    rintro ev w2 ⟨v2, rfl, r2, b2⟩
    have HB2 := Lib.hid (HB1.out.trans (b2.mono HB1.out.size))
    have HR2 := Lib.hid (r2.mono HB1.out.size)
    clear b2 r2 c0 c1
    go_wp2_with fail
    go_ret2
    exact ⟨_, rfl, HR2.out, HB2.out⟩
  · rw [if_neg hm]
    rw [decide_eq_false hm] at hc
    have HC := Lib.hid hc
    simp only [dval] at HC ⊢
    clear hc hst hm
    go_enter Tryz.func9, Tryz.ntmps9
    go_wp2_with fail
    go_at_call 17
    refine HC.out.mono ?_
    rintro ev w1 ⟨rfl, b1⟩
    have HB1 := Lib.hid (HB.out.trans (b1.mono HB.out.size))
    clear c0 c1 b1
    go_wp2_with fail
    go_ret2
    exact ⟨_, rfl, lrow_nil _ _, HB1.out⟩
end Go.Proofs.YtldnelimemjaiaaGreatDoor
/-
  The document's own Flush and Crash for layer 9.
-/
namespace Go.Proofs.YtldnelimemjaiaaGreatDoor
open Go.RowKit Go.Shelf
set_option maxRecDepth 100000

/-- A disk and an error are answered. -/
def RefD (o : DkL × Int) (w : World) (e : Ending) (w' : World) : Prop := ∃ x', e = .returned (.tuple #[dval x' o.1, .int .i64 o.2]) ∧ Dsk w' w'.heap.size x' o.1 ∧ Below w.heap.size w w'
theorem refD_no {c : Int} {w : World} {e : Ending} {w' : World} (he : e = .returned (.tuple #[.agg #[.slice none 0 0, .slice none 0 0], .int .i64 c])) (hb : Below w.heap.size w w') : RefD (([], []), c) w e w' := ⟨⟨none, 0, none, 0⟩, he, ⟨bls_nil _ _, wts_nil _ _⟩, hb⟩
end Go.Proofs.YtldnelimemjaiaaGreatDoor
/-
  The document's own Crash for layer 9.
-/
namespace Go.Proofs.YtldnelimemjaiaaGreatDoor
open Go.RowKit Go.Shelf
set_option maxRecDepth 100000

theorem kept_full {D : DkL} {ks : List Bool} (h : ks.length = D.2.length) : keptD D (markF ks) = keptD D (fun i => ks.getD i false) := by
  unfold keptD
  have : leftD D (markF ks) = leftD D (fun i => ks.getD i false) := funext fun p => markF_full h p
  rw [this]
end Go.Proofs.YtldnelimemjaiaaGreatDoor
/-
  The document's own Read and Write for layer 9.
-/
namespace Go.Proofs.YtldnelimemjaiaaGreatDoor
open Go.RowKit Go.Shelf
set_option maxRecDepth 100000

end Go.Proofs.YtldnelimemjaiaaGreatDoor
/-
  dev.Tamper: what it answers, whatever disk, place and byte it is handed.
-/
namespace Go.Proofs.YtldnelimemjaiaaGreatDoor
open Go.RowKit Go.Shelf
set_option maxRecDepth 100000

theorem ar_set (t : List UInt8) (j : Nat) (y : UInt8) : (ar t).setIfInBounds j (.int .u8 (y.toNat : Int)) = ar (t.set j y) := by
  apply Array.ext'
  simp [ar, vals, List.map_set]
/-- One byte of a disk that is laid in one piece is turned. -/
theorem Laid.turned {w : World} {lo : Nat} {x : DAt} {D : DkL} (h : Laid w lo x D) {p q : Nat} (hp : p < D.1.length) (hq : q < (D.1.getD p []).length) (b : UInt8) :
    ∃ g hb o, x.ba = some ⟨hb, 0, none⟩ ∧ lo ≤ g ∧ w.cell? ⟨hb, p, none⟩ = some (.slice (some ⟨g, o, none⟩) (D.1.getD p []).length (D.1.getD p []).length) ∧ w.cell? ⟨g, o + q, none⟩ = some (.int .u8 (((D.1.getD p []).getD q 0).toNat : Int)) ∧
      w.frozen? ⟨g, o + q, none⟩ = false ∧ (∀ k t cs, Blk w k t cs → t ≠ 5 → g ≠ k) ∧ Laid (w.setCell ⟨g, o + q, none⟩ (.int .u8 (((D.1.getD p []).getD q 0 ^^^ b).toNat : Int))) lo x (turnedD D p q b) := by
  obtain ⟨g, hb, hw, rfl, k1, k2, k3, h1, h2, h3, h4, h5, ⟨cb, h6, h7, h8⟩, cw, h9, h10, h11⟩ := h
  have hP := pieces_length D
  obtain ⟨v, e1, o, rfl, ho⟩ := h8 p hp
  rw [pieces_left hp] at e1 ho
  have hst := ho (by omega)
  subst hst
  have n1 : hb ≠ g := h6.ne h5 (by decide)
  have n2 : hw ≠ g := h9.ne h5 (by decide)
  have hl1 : (turnedD D p q b).1.length = D.1.length := List.length_set ..
  have hget := room_get (P := pieces D) (T := sumD D) (n := D.1.length + D.2.length) (k := p) (j := q) (by omega) (by omega) (by rw [pieces_left hp]; exact hq)
  rw [pieces_left hp] at hget
  have hval : (D.1.getD p [])[q]? = some ((D.1.getD p []).getD q 0) := by rw [List.getD_eq_getElem?_getD (l := D.1.getD p []), List.getElem?_eq_getElem hq]; rfl
  have hpv : ∀ i, i < (pieces D).length → ∀ v, PieceV g (pieces D) i v → PieceV g (pieces (turnedD D p q b)) i v := by
    rintro i hi v ⟨o', rfl, ho'⟩
    have el : ((pieces (turnedD D p q b)).getD i []).length = ((pieces D).getD i []).length := by
      rw [turned_pieces hp, getD_set _ _ _ _ _ (by omega)]
      split
      · rename_i e
        rw [e, List.length_set]
      · rfl
    refine ⟨o', by rw [el], fun h0 => ?_⟩
    rw [turned_pieces hp, startP_set (by omega) (by simp) (by omega)]
    exact ho' (by rw [← el]; exact h0)
  refine ⟨g, hb, _, rfl, k1, by rw [h6.cell, e1], ?_, h5.frozen _, fun k t cs hk ht => h5.ne hk (Ne.symm ht), g, hb, hw, by rw [hl1]; rfl, k1, k2, k3, by rw [hl1]; exact h1, h2, by rw [turned_sum hp]; exact h3, h4, ?_, ⟨cb, h6.far (by simpa using n1) _, by rw [hl1]; exact h7, fun i hi => ?_⟩, cw, h9.far (by simpa using n2) _, h10, fun i hi => ?_⟩
  · rw [h5.cell, ar, List.getElem?_toArray, vals, List.getElem?_map, hget, hval]
    rfl
  · rw [turned_sum hp, hl1]
    show Blk _ g _ (ar (roomP (pieces (turnedD D p q b)) (sumD D) (D.1.length + D.2.length)))
    rw [turned_room hp hq, ← ar_set]
    exact h5.set_ _ _
  · rw [hl1] at hi
    obtain ⟨v, e3, e4⟩ := h8 i hi
    exact ⟨v, e3, hpv i (by omega) v e4⟩
  · obtain ⟨e0, v, e3, e4⟩ := h11 i hi
    refine ⟨e0, v, e3, ?_⟩
    rw [hl1]
    exact hpv _ (by have : i < D.2.length := hi; omega) v e4
def tamperO (D : DkL) (p q : Int) (b : UInt8) : DkL × Int := if MayD D then (if (0 ≤ p ∧ p < 256) ∧ 0 ≤ q ∧ q < 256 then (turnedD D p.toNat q.toNat b, 0) else (([], []), 2)) else (([], []), 8)
end Go.Proofs.YtldnelimemjaiaaGreatDoor
/-
  Words for the document's own Tamper of layer 9: a byte of a disk of the call's own is turned.
-/
namespace Go.Proofs.YtldnelimemjaiaaGreatDoor
open Go.RowKit Go.Shelf
set_option maxRecDepth 100000

theorem own_set {w : World} {B g n cap q : Nat} {s : List UInt8} (h : w.ownsRow B 5 1 (.slice (some ⟨g, 0, none⟩) n cap) n (vals s)) (y : UInt8) : (w.setCell ⟨g, q, none⟩ (.int .u8 (y.toNat : Int))).ownsRow B 5 1 (.slice (some ⟨g, 0, none⟩) n cap) n (vals (s.set q y)) := by
  obtain ⟨hl, ⟨e, _⟩ | ⟨g', cap', cur, e, h2, h3, h4, h5, h6, h7⟩⟩ := h
  · cases e
  · cases e
    have hb : Blk w g 5 cur := h3
    refine ⟨by rw [← hl]; simp [vals], .inr ⟨g, cap, _, rfl, h2, hb.set_ q _, h4, h5, by rw [Array.size_setIfInBounds]; exact h6, ?_⟩⟩
    rw [Array.toList_setIfInBounds, List.take_set, h7]
    simp [vals, List.map_set]
theorem getD_in (s : List UInt8) (q : Nat) (h : q < s.length) : s.getD q 0 = s[q] := by
  rw [List.getD_eq_getElem?_getD, List.getElem?_eq_getElem h]
  rfl
/-- The turned byte of a disk of the call's own. -/
theorem TwI.turned {base hb hw k p q : Nat} {D : DkL} {w : World} (h : TwI base hb hw D k w) (hk : D.1.length ≤ k) (hp : p < D.1.length) (hq : q < (D.1.getD p []).length) (b : UInt8) :
    ∃ g c, w.cell? ⟨hb, p, none⟩ = some (.slice (some ⟨g, 0, none⟩) (D.1.getD p []).length c) ∧ base ≤ g ∧ w.cell? ⟨g, q, none⟩ = some (.int .u8 (((D.1.getD p []).getD q 0).toNat : Int)) ∧ w.frozen? ⟨g, q, none⟩ = false ∧
      (∀ f t cs, Blk w f t cs → t ≠ 5 → g ≠ f) ∧ TwI base hb hw (turnedD D p q b) k (w.setCell ⟨g, q, none⟩ (.int .u8 (((D.1.getD p []).getD q 0 ^^^ b).toNat : Int))) := by
  obtain ⟨vs, cb, cw, h1, h2, h3, h4, h5, h6, h7, h8⟩ := h
  have ho := h7 p (by omega)
  have hpp : (pieces D).getD p [] = D.1.getD p [] := pieces_left hp
  rw [hpp] at ho
  obtain ⟨A, c, e, hbs⟩ := own_val ho
  obtain ⟨b0, off, e2, hlt, _, hce⟩ := (hbs 0).2.2.2.2 (by omega)
  have hA : A = some ⟨b0, 0, none⟩ := by
    rw [e, e2] at ho
    obtain ⟨_, ⟨e, _⟩ | ⟨g', _, _, e, _⟩⟩ := ho
    · cases e
    · cases e
      exact e2
  have hoff : off = 0 := by rw [hA] at e2; cases e2; rfl
  subst hoff
  rw [hA] at e
  rw [e] at ho
  obtain ⟨cs, hg⟩ := own_blk ho
  have hne : ∀ f t cs, Blk w f t cs → t ≠ 5 → b0 ≠ f := fun f t cs hf ht => hg.ne hf (Ne.symm ht)
  have hcq := hce q hq
  have hD2 : (turnedD D p q b).2 = D.2 := rfl
  have hD1 : (turnedD D p q b).1.length = D.1.length := List.length_set ..
  have gs : w.grownBy (w.setCell ⟨b0, q, none⟩ (.int .u8 (((D.1.getD p []).getD q 0 ^^^ b).toNat : Int))) (some b0) := only_setCell (World.grownBy.refl w _) (.inl rfl) _
  refine ⟨b0, c, ?_, (own_lt ho).1, ?_, hg.frozen q, hne, vs, cb, cw, h1.far (p := ⟨b0, q, none⟩) (Ne.symm (hne _ _ _ h1 (by decide))) _, by rw [hD1]; exact h2, h3.far (p := ⟨b0, q, none⟩) (Ne.symm (hne _ _ _ h3 (by decide))) _, by rw [hD2]; exact h4, fun i hi => ?_, fun j hj => ?_, fun i hi => ?_, h8⟩
  · rw [h1.cell, h5 p hp, done_yes (by omega), e]
  · rw [Nat.zero_add] at hcq
    rw [hcq, getD_in _ _ hq]
  · rw [hD1] at hi
    exact h5 i hi
  · rw [hD1]
    exact h6 j hj
  · rw [turned_pieces hp, hpp]
    by_cases hip : i = p
    · subst hip
      have : ((pieces D).set i ((D.1.getD i []).set q ((D.1.getD i []).getD q 0 ^^^ b))).getD i [] = (D.1.getD i []).set q ((D.1.getD i []).getD q 0 ^^^ b) := by
        rw [List.getD_eq_getElem?_getD, List.getElem?_set_self (by rw [pieces_length]; omega)]
        rfl
      rw [this, List.length_set, e]
      exact own_set ho _
    · have : ((pieces D).set p ((D.1.getD p []).set q ((D.1.getD p []).getD q 0 ^^^ b))).getD i [] = (pieces D).getD i [] := by
        rw [List.getD_eq_getElem?_getD, List.getElem?_set_ne (Ne.symm hip), ← List.getD_eq_getElem?_getD]
      rw [this]
      refine own_other (h7 i hi) gs fun f hf e3 => ?_
      have hpb : (vs p).ownBlock = some b0 := by rw [e]; rfl
      rw [← e3] at hpb
      rcases Nat.lt_or_gt_of_ne hip with h9 | h9
      · exact h8 i p h9 (by omega) f hf hpb
      · exact h8 p i h9 hi f hpb hf
end Go.Proofs.YtldnelimemjaiaaGreatDoor
/-
  The document's own Tamper for layer 9.
-/
namespace Go.Proofs.YtldnelimemjaiaaGreatDoor
open Go.RowKit Go.Shelf
set_option maxRecDepth 100000

end Go.Proofs.YtldnelimemjaiaaGreatDoor
/-
  dev.Same tells whether all fields of two disks are the same.
-/
namespace Go.Proofs.YtldnelimemjaiaaGreatDoor
open Go.RowKit Go.Shelf
set_option maxRecDepth 100000

theorem ext_bls {a b : List (List UInt8)} (h : a.length = b.length) (he : ∀ i, i < a.length → a.getD i [] = b.getD i []) : a = b := by
  apply List.ext_getElem h
  intro i h1 h2
  have := he i h1
  simpa [List.getD_eq_getElem?_getD, h1, h2] using this
theorem ext_wts {a b : WrL} (h : a.length = b.length) (he : ∀ i, i < a.length → wr_ a i = wr_ b i) : a = b := by
  apply List.ext_getElem h
  intro i h1 h2
  have := he i h1
  unfold wr_ at this
  simpa [List.getD_eq_getElem?_getD, h1, h2] using this
theorem dEqual_any (a : Option Addr) (la ca : Nat) (s : List UInt8) (b : Option Addr) (lb cb : Nat) (t : List UInt8) (A B : Nat) (w : World) (hA : Bsl w A a la ca s) (hB : Bsl w B b lb cb t) (r : Bool) (hr : r = true ↔ s = t) :
    Calls Tryz.prog 48 #[.slice a la ca, .slice b lb cb] w fun e w' => e = .returned (.bool r) ∧ w = w' := by
  have c1 := hA.conv
  have c2 := hB.conv
  have eq : ((strOf s).toList == (strOf t).toList) = r := by
    rw [strOf_toList, strOf_toList]
    cases r with
    | true => simp [hr.1 rfl]
    | false =>
      have : s ≠ t := fun h => by have := hr.2 h; cases this
      simp [this]
  have HE := Lib.hid eq; clear eq hA hB hr
  go_enter Tryz.func48, Tryz.ntmps48
  go_wp2_with fail
  go_ret
  exact ⟨by rw [← HE.out]; rfl, rfl⟩
/-- The first place where two rows part. -/
theorem part_at (n : Nat) (P : Nat → Prop) : ∃ j, j ≤ n ∧ (∀ i, i < j → P i) ∧ (j < n → ¬ P j) := by
  induction n with
  | zero => exact ⟨0, Nat.le_refl _, fun i h => absurd h (Nat.not_lt_zero _), fun h => absurd h (Nat.lt_irrefl _)⟩
  | succ n ih =>
    obtain ⟨j, h1, h2, h3⟩ := ih
    rcases Nat.lt_or_ge j n with h | h
    · exact ⟨j, by omega, h2, fun _ => h3 h⟩
    · obtain rfl : j = n := by omega
      by_cases hp : P j
      · refine ⟨j + 1, Nat.le_refl _, fun i hi => ?_, fun h => absurd h (Nat.lt_irrefl _)⟩
        rcases Nat.lt_or_ge i j with h4 | h4
        · exact h2 i h4
        · obtain rfl : i = j := by omega
          exact hp
      · exact ⟨j, by omega, h2, fun _ => hp⟩
end Go.Proofs.YtldnelimemjaiaaGreatDoor
/-
  The document's own Same for layer 9.
-/
namespace Go.Proofs.YtldnelimemjaiaaGreatDoor
open Go.RowKit Go.Shelf
set_option maxRecDepth 100000

theorem str_same (s t : List UInt8) : ((strOf s).toList == (strOf t).toList) = decide (s = t) := by
  rw [strOf_toList, strOf_toList]
  by_cases h : s = t <;> simp [h]
theorem same_iff {D E : DkL} {o1 o2 : Nat} (h1 : OddN o1 D.1.length (fun i => D.1.getD i [] = E.1.getD i [])) (h2 : OddN o2 D.2.length (fun i => wr_ D.2 i = wr_ E.2 i)) (e1 : D.1.length = E.1.length) (e2 : D.2.length = E.2.length) : o1 + o2 = 0 ↔ D = E := by
  constructor
  · intro h
    exact Prod.ext (ext_bls e1 (h1.2.1 (by omega))) (ext_wts e2 (h2.2.1 (by omega)))
  · intro h
    subst h
    have a1 := h1.2.2 fun _ _ => rfl
    have a2 := h2.2.2 fun _ _ => rfl
    omega
set_option maxHeartbeats 4000000 in
theorem rdSame_len (x : DAt) (D : DkL) (y : DAt) (E : DkL) (w : World) (hx : (D.1.length : Int) ≤ 9223372036854775807 ∧ (D.2.length : Int) ≤ 9223372036854775807 ∧ (E.1.length : Int) ≤ 9223372036854775807 ∧ (E.2.length : Int) ≤ 9223372036854775807) (hne : D.1.length ≠ E.1.length ∨ D.2.length ≠ E.2.length) :
    Calls Tryz.prog 10 #[dval x D, dval y E] w fun e w' => e = .returned (.bool false) ∧ Below w.heap.size w w' := by
  have b0 := ((Below.refl w.heap.size w).alloc (Nat.le_refl _) (.cells #[.slice x.ba D.1.length x.bc, .slice x.wa D.2.length x.wc] 25)).alloc (by simp) (.cells #[.slice y.ba E.1.length y.bc, .slice y.wa E.2.length y.wc] 25)
  have HB := Lib.hid b0
  simp only [dval]
  obtain ⟨n, hn⟩ : ∃ n, D.1.length = n := ⟨_, rfl⟩
  obtain ⟨m, hm⟩ : ∃ n, D.2.length = n := ⟨_, rfl⟩
  obtain ⟨n', hn'⟩ : ∃ n, E.1.length = n := ⟨_, rfl⟩
  obtain ⟨m', hm'⟩ : ∃ n, E.2.length = n := ⟨_, rfl⟩
  rw [hn, hm, hn', hm'] at HB hx ⊢
  rw [hn, hm, hn', hm'] at hne
  obtain ⟨x1, x2, x3, x4⟩ := hx
  clear b0 hn hm hn' hm'
  by_cases h : n = n'
  · subst h
    have h1 : ((n : Int) != n) = false := by simp
    have h2 : ((m : Int) != m') = true := by simp; omega
    clear hne
    go_enter Tryz.func10, Tryz.ntmps10
    go_wp2_with fail
    go_ret
    exact ⟨rfl, HB.out⟩
  · have h1 : ((n : Int) != n') = true := by simp; omega
    clear hne h
    go_enter Tryz.func10, Tryz.ntmps10
    go_wp2_with fail
    go_ret
    exact ⟨rfl, HB.out⟩
set_option maxHeartbeats 4000000 in
theorem rdSame_eq (x : DAt) (D : DkL) (y : DAt) (E : DkL) (w : World) (h : Dsk w w.heap.size x D) (h' : Dsk w w.heap.size y E) (e1 : D.1.length = E.1.length) (e2 : D.2.length = E.2.length) (hf : D.1.length ≤ 1000000 ∧ D.2.length ≤ 1000000) (R : Bool) (hR : R = true ↔ D = E) :
    Calls Tryz.prog 10 #[dval x D, dval y E] w fun e w' => e = .returned (.bool R) ∧ Below w.heap.size w w' := by
  obtain ⟨n, hn⟩ : ∃ n, D.1.length = n := ⟨_, rfl⟩
  obtain ⟨m, hm⟩ : ∃ n, D.2.length = n := ⟨_, rfl⟩
  have l1 := h.1.len_le
  have l2 := h.2.len_le
  obtain ⟨w0, hw0⟩ : ∃ w0, (w.alloc (.cells #[.slice x.ba n x.bc, .slice x.wa m x.wc] 25)).alloc (.cells #[.slice y.ba n y.bc, .slice y.wa m y.wc] 25) = w0 := ⟨_, rfl⟩
  have b0 : Below w.heap.size w w0 := by rw [← hw0]; exact ((Below.refl _ w).alloc (Nat.le_refl _) _).alloc (by simp) _
  have x0 : Blk w0 w.heap.size 25 #[.slice x.ba n x.bc, .slice x.wa m x.wc] := by rw [← hw0]; exact (Blk.new w _ _).alloc _
  have y0 : Blk w0 (w.heap.size + 1) 25 #[.slice y.ba n y.bc, .slice y.wa m y.wc] := by
    have := Blk.new (w.alloc (.cells #[.slice x.ba n x.bc, .slice x.wa m x.wc] 25)) 25 #[.slice y.ba n y.bc, .slice y.wa m y.wc]
    rw [World.size_alloc, hw0] at this
    exact this
  have c0 := x0.cell 0
  have c1 := x0.cell 1
  have d0 := y0.cell 0
  have d1 := y0.cell 1
  obtain ⟨hB, hW⟩ := h.step b0
  obtain ⟨hB', hW'⟩ := h'.step b0
  simp only [dval]
  rw [← e1, ← e2]
  rw [← e1] at hB'
  rw [← e2] at hW'
  rw [hn] at hB hB' l1 hf ⊢
  rw [hm] at hW hW' l2 hf ⊢
  have n0 : (0 : Int) ≤ n := by omega
  have m0 : (0 : Int) ≤ m := by omega
  have q1 : ((n : Int) != n) = false := by simp
  have q2 : ((m : Int) != m) = false := by simp
  have HBa := Lib.hid hB
  have HWa := Lib.hid hW
  have HBb := Lib.hid hB'
  have HWb := Lib.hid hW'
  have HX := Lib.hid x0
  have HY := Lib.hid y0
  have HB := Lib.hid b0
  have HN := Lib.hid hn
  have HM := Lib.hid hm
  have HRR := Lib.hid hR
  have HE := Lib.hid (And.intro e1 e2)
  clear h h' b0 x0 y0 hB hW hB' hW' hn hm hR e1 e2
  go_enter Tryz.func10, Tryz.ntmps10
  go_wp2_with fail
  clear hw0 q1 q2 c0 c1 d0 d1
  go_loopw [5, 6] (fun o i wr => ∃ k q : Nat, k ≤ n ∧ i = .int .i64 k ∧ o = .int .i64 q ∧ Hid (OddN q k (fun i => D.1.getD i [] = E.1.getD i [])) ∧ Hid (Below w0.heap.size w0 wr)) (fun _ i _ => n - (intOf i).toNat)
  case atStart => exact ⟨0, 0, Nat.zero_le _, rfl, rfl, Lib.hid (odd_zero _), Lib.hid (Below.refl _ _)⟩
  case round =>
    obtain ⟨k, q, hk, rfl, rfl, HO, HBr⟩ := hrel
    have k0 : (0 : Int) ≤ k := by omega
    have hq := HO.out.1
    have q0 : (0 : Int) ≤ q := by omega
    have qm : (q : Int) ≤ n := by omega
    have c0 := (HX.out.below HBr.out HX.out.lt).cell 0
    have c1 := (HX.out.below HBr.out HX.out.lt).cell 1
    have d0 := (HY.out.below HBr.out HY.out.lt).cell 0
    have d1 := (HY.out.below HBr.out HY.out.lt).cell 1
    by_cases hlt : k < n
    · have k1 : (k : Int) < n := by omega
      obtain ⟨ba, oa, A, l, c', s, hae, hba, hl, hc, hs⟩ := HBa.out.at_ hlt
      obtain ⟨bb, ob, A2, l2', c2, t, hbe, hbb, hl2, hc2, ht⟩ := HBb.out.at_ hlt
      obtain ⟨xba, xbc, xwa, xwc⟩ := x
      obtain ⟨yba, ybc, ywa, ywc⟩ := y
      obtain rfl : xba = some ⟨ba, oa, none⟩ := hae
      obtain rfl : yba = some ⟨bb, ob, none⟩ := hbe
      simp only at c0 c1 d0 d1 ⊢
      have a1 := (HBr.out.cell (p := ⟨ba, oa + k, none⟩) hba).trans hc
      have a2 := (HBr.out.cell (p := ⟨bb, ob + k, none⟩) hbb).trans hc2
      have v1 := fun q => ((hs.below HBr.out).below (below_drewN (Below.refl _ wr) q)).conv
      have v2 := fun q => ((ht.below HBr.out).below (below_drewN (Below.refl _ wr) q)).conv
      have hst := str_same s t
      have HBq := Lib.hid (fun q => HBr.out.trans (below_drewN (Below.refl _ wr) q))
      by_cases hst' : s = t
      · rw [decide_eq_true hst'] at hst
        have HO' := Lib.hid (HO.out.good (by rw [hl, hl2]; exact hst'))
        clear hl hl2 hc hc2 hs ht hst' HBr
        go_wp2_with fail
        go_quiet (fail)
        go_wp2_with fail
        go_roundw
        case rel => exact ⟨k + 1, q, by omega, by go_num, rfl, HO', Lib.hid (HBq.out _)⟩
        case measure => simp [intOf]; omega
      · rw [decide_eq_false hst'] at hst
        have HO' := Lib.hid (HO.out.odd (by rw [hl, hl2]; exact hst'))
        clear hl hl2 hc hc2 hs ht hst' HBr
        go_wp2_with fail
        go_quiet (fail)
        go_wp2_with fail
        go_roundw
        case rel => exact ⟨k + 1, q + 1, by omega, by go_num, by go_num, HO', Lib.hid (HBq.out _)⟩
        case measure => simp [intOf]; omega
    · obtain rfl : k = n := by omega
      go_wp2_with fail
      clear c0 c1 d0 d1
      go_loopw [5, 7] (fun o i wr => ∃ j r : Nat, j ≤ m ∧ i = .int .i64 j ∧ o = .int .i64 (q + r : Nat) ∧ Hid (OddN r j (fun i => wr_ D.2 i = wr_ E.2 i)) ∧ Hid (Below w0.heap.size w0 wr)) (fun _ i _ => m - (intOf i).toNat)
      case atStart => exact ⟨0, 0, Nat.zero_le _, rfl, rfl, Lib.hid (odd_zero _), HBr⟩
      case round =>
        obtain ⟨j, r, hj, rfl, rfl, HR, HB2⟩ := hrel
        clear HBr
        have j0 : (0 : Int) ≤ j := by omega
        have hr := HR.out.1
        obtain ⟨t, htt⟩ : ∃ t, q + r = t := ⟨_, rfl⟩
        have t0 : (0 : Int) ≤ t := by omega
        have c0 := (HX.out.below HB2.out HX.out.lt).cell 0
        have c1 := (HX.out.below HB2.out HX.out.lt).cell 1
        by_cases hlt : j < m
        · have j1 : (j : Int) < m := by omega
          have tm : (t : Int) ≤ 2000000 := by omega
          obtain ⟨ba, oa, p, A, l, c', s, hae, hba, hl, _, hc, hcd, hs⟩ := HWa.out.at_ hlt
          obtain ⟨bb, ob, p2, A2, l2', c2, u, hbe, hbb, hl2, _, hc2, hcd2, hu⟩ := HWb.out.at_ hlt
          obtain ⟨xba, xbc, xwa, xwc⟩ := x
          obtain ⟨yba, ybc, ywa, ywc⟩ := y
          obtain rfl : xwa = some ⟨ba, oa, none⟩ := hae
          obtain rfl : ywa = some ⟨bb, ob, none⟩ := hbe
          simp only at c0 c1 ⊢
          rw [htt]
          have a1 := (HB2.out.cell (p := ⟨ba, oa + j * 2, none⟩) hba).trans hc
          have a2 := (HB2.out.cell (p := ⟨ba, oa + j * 2 + 1, none⟩) hba).trans hcd
          have b1 := Below.alloc HB2.out HB2.out.size (.cells #[.int .i64 p, .slice A l c'] 47)
          have a3 := (b1.cell (p := ⟨bb, ob + j * 2, none⟩) hbb).trans hc2
          have a4 := (b1.cell (p := ⟨bb, ob + j * 2 + 1, none⟩) hbb).trans hcd2
          have d0 := (HY.out.below b1 HY.out.lt).cell 0
          have d1 := (HY.out.below b1 HY.out.lt).cell 1
          have b2 := Below.alloc b1 b1.size (.cells #[.int .i64 p2, .slice A2 l2' c2] 47)
          have v1 := (hs.below b2).conv
          have v2 := (hu.below b2).conv
          have hst := str_same s u
          have HB3 := Lib.hid b2
          have HTT := Lib.hid htt
          by_cases hpp : p = p2
          · subst hpp
            have hpb : (p != p) = false := by simp
            by_cases hst' : s = u
            · rw [decide_eq_true hst'] at hst
              have HO' := Lib.hid (HR.out.good (by rw [hl, hl2, hst']))
              clear hl hl2 hc hc2 hcd hcd2 hs hu hst' HB2 b1 b2 htt
              go_wp2_with fail
              go_roundw
              case rel => exact ⟨j + 1, r, by omega, by go_num, by rw [HTT.out], HO', HB3⟩
              case measure => simp [intOf]; omega
            · rw [decide_eq_false hst'] at hst
              have HO' := Lib.hid (HR.out.odd (by rw [hl, hl2]; exact fun hh => hst' (Prod.mk.inj hh).2))
              clear hl hl2 hc hc2 hcd hcd2 hs hu hst' HB2 b1 b2 htt
              go_wp2_with fail
              go_roundw
              case rel => exact ⟨j + 1, r + 1, by omega, by go_num, by rw [← Nat.add_assoc, HTT.out]; go_num, HO', HB3⟩
              case measure => simp [intOf]; omega
          · have hpb : (p != p2) = true := by simpa using hpp
            have HO' := Lib.hid (HR.out.odd (by rw [hl, hl2]; exact fun hh => hpp (Prod.mk.inj hh).1))
            clear hl hl2 hc hc2 hcd hcd2 hs hu hpp HB2 b1 b2 htt v1 v2 hst
            go_wp2_with fail
            go_roundw
            case rel => exact ⟨j + 1, r + 1, by omega, by go_num, by rw [← Nat.add_assoc, HTT.out]; go_num, HO', HB3⟩
            case measure => simp [intOf]; omega
        · obtain rfl : j = m := by omega
          rw [htt]
          have hiff := same_iff (D := D) (E := E) (by rw [HN.out]; exact HO.out) (by rw [HM.out]; exact HR.out) HE.out.1 HE.out.2
          rw [htt] at hiff
          have HBw := Lib.hid (HB.out.trans (HB2.out.mono HB.out.size))
          by_cases ht0 : t = 0
          · have htb : ((t : Int) == 0) = true := by simp; omega
            obtain rfl : R = true := HRR.out.2 (hiff.1 ht0)
            clear hiff ht0 htt
            go_wp2_with fail
            go_ret
            exact ⟨rfl, HBw.out⟩
          · have htb : ((t : Int) == 0) = false := by simp; omega
            obtain rfl : R = false := by
              cases R with
              | false => rfl
              | true => exact absurd (hiff.2 (HRR.out.1 rfl)) ht0
            clear hiff ht0 htt
            go_wp2_with fail
            go_ret
            exact ⟨rfl, HBw.out⟩
theorem rdSame_any (x : DAt) (D : DkL) (y : DAt) (E : DkL) (w : World) (h : Dsk w w.heap.size x D) (h' : Dsk w w.heap.size y E) (hf : D.1.length ≤ 1000000 ∧ D.2.length ≤ 1000000) (R : Bool) (hR : R = true ↔ D = E) :
    Calls Tryz.prog 10 #[dval x D, dval y E] w fun e w' => e = .returned (.bool R) ∧ Below w.heap.size w w' := by
  by_cases he : D.1.length = E.1.length ∧ D.2.length = E.2.length
  · exact rdSame_eq x D y E w h h' he.1 he.2 hf R hR
  · obtain rfl : R = false := by
      cases R with
      | false => rfl
      | true => exact absurd (by rw [hR.1 rfl]; exact ⟨rfl, rfl⟩) he
    exact rdSame_len x D y E w ⟨h.1.len_le, h.2.len_le, h'.1.len_le, h'.2.len_le⟩ (by omega)
end Go.Proofs.YtldnelimemjaiaaGreatDoor
