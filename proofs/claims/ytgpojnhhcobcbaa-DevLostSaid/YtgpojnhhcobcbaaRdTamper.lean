/-
  The document's own Tamper for layer 9.
-/
import Derived.Test.YtgpojnhhcobcbaaRdTurn
namespace Go.Proofs.Ytgpojnhhcobcbaa
open Go.RowKit Go.Shelf
set_option maxRecDepth 100000

set_option maxHeartbeats 2000000 in
theorem rdTamper_yes (x : DAt) (D : DkL) (p q : Nat) (b : UInt8) (w : World) (h : Dsk w w.heap.size x D) (hm : MayD D) (hp : p < 256) (hq : q < 256) : Calls Try.prog 30 #[dval x D, .int .i64 p, .int .i64 q, .int .u8 (b.toNat : Int)] w (RefD (turnedD D p q b, 0) w) := by
  have hmx : Try.prog.follows Departure.mixedOrders = true := by kernel_rfl
  obtain ⟨w0, hw0, b00, z0, x00, x01⟩ := two_boxes w (.slice x.ba D.1.length x.bc) (.slice x.wa D.2.length x.wc)
  obtain ⟨wd, hwd⟩ : ∃ wd, w0.drew = wd := ⟨_, rfl⟩
  have b0 : Below w.heap.size w wd := by rw [← hwd]; exact b00.drew
  have x0 : Blk wd w.heap.size 25 #[.slice x.ba D.1.length x.bc, .slice x.wa D.2.length x.wc] := by rw [← hwd]; exact x00.drew
  have x1 : Blk wd (w.heap.size + 1) 25 #[.slice none 0 0, .slice none 0 0] := by rw [← hwd]; exact x01.drew
  have h0 := h.step b0
  have c0 := x0.cell 0
  have c1 := x0.cell 1
  have C0 := fun X (hX : Below wd.heap.size wd X) => (hX.cell (p := ⟨w.heap.size, 0, none⟩) (World.block_lt_of_cell? wd _ c0)).trans c0
  have C1 := fun X (hX : Below wd.heap.size wd X) => (hX.cell (p := ⟨w.heap.size, 1, none⟩) (World.block_lt_of_cell? wd _ c1)).trans c1
  have hS : Below wd.heap.size wd wd := Below.refl _ _
  have HX0 := Lib.hid x0
  have HX1 := Lib.hid x1
  have HB := Lib.hid b0
  have hpl := rdPlace_any p wd
  have hql := rdPlace_any q wd
  clear c0 c1
  have ha := rdAsk_any x D true wd h0
  unfold askO at ha
  rw [if_pos hm, if_pos rfl] at ha
  rw [decide_eq_true (show 0 ≤ (p : Int) ∧ (p : Int) < 256 by omega)] at hpl
  rw [decide_eq_true (show 0 ≤ (q : Int) ∧ (q : Int) < 256 by omega)] at hql
  have htw : ∀ W, Below wd.heap.size wd W → Calls Try.prog 22 #[dval x D] W (TwinPost D W) := fun W hW => rdTwin_any x D W (h0.step hW) (may_fits hm)
  simp only [dval] at ha htw ⊢
  have HPL := Lib.hid hpl
  have HQL := Lib.hid hql
  have HA := Lib.hid ha
  have HTW := Lib.hid htw
  have HM := Lib.hid hm
  have HPQ := Lib.hid (And.intro hp hq)
  have HZ := Lib.hid (show w.heap.size + 2 ≤ wd.heap.size by have := x1.lt; omega)
  have p0 : (0 : Int) ≤ p := by omega
  have p1 : (p : Int) < 256 := by omega
  have q0 : (0 : Int) ≤ q := by omega
  have q1 : (q : Int) < 256 := by omega
  clear hpl hql ha htw x0 x1 b0 x00 x01 b00 z0 h0 h hm hp hq
  go_enter Try.func30, Try.ntmps30
  go_wp2_with fail
  clear hw0
  refine wpS_start [0, 1, 2, 3, 4, 5, 6, 7, 8] hmx rfl hwd ?_
  clear hwd
  iterate 2 (
    refine wpS_read (v := ?_) rfl (by kernel_rfl) (by kernel_rfl) (by kernel_rfl) (fun _ _ _ h => h) (.inl ⟨by rfl, ?_⟩) ?_
    rotate_left
    · intro X hX
      have hXa := C0 X (hX _ hS)
      have hXb := C1 X (hX _ hS)
      clear hX
      go_simp
      with_reducible rfl
    try simp only [Act.put, List.setIfInBounds_toArray, List.set_cons_zero, List.set_cons_succ])
  clear C0 C1 hS
  refine wpS_lone rfl (by kernel_rfl) (fun K hK => ?_)
  go_simp
  refine HPL.out.mono ?_
  rintro e w0' ⟨rfl, rfl⟩
  refine hK _ _ (Stays.refl _) ?_
  clear hK K
  try simp only [Act.put, List.setIfInBounds_toArray, List.set_cons_zero, List.set_cons_succ]
  refine wpS_read (v := ?_) rfl (by kernel_rfl) (by kernel_rfl) (by kernel_rfl) (fun _ _ _ h => h) (.inl ⟨by rfl, ?_⟩) ?_
  rotate_left
  · intro X hX
    clear hX
    go_simp
    with_reducible rfl
  try simp only [Act.put, List.setIfInBounds_toArray, List.set_cons_zero, List.set_cons_succ]
  refine wpS_read (v := ?_) rfl (by kernel_rfl) (by kernel_rfl) (by kernel_rfl) (fun _ _ _ h => h) (.inl ⟨by rfl, ?_⟩) ?_
  rotate_left
  · intro X hX
    clear hX
    go_simp
    with_reducible rfl
  try simp only [Act.put, List.setIfInBounds_toArray, List.set_cons_zero, List.set_cons_succ]
  refine wpS_lone rfl (by kernel_rfl) (fun K hK => ?_)
  go_simp
  refine HQL.out.mono ?_
  rintro e w0' ⟨rfl, rfl⟩
  refine hK _ _ (Stays.refl _) ?_
  clear hK K
  try simp only [Act.put, List.setIfInBounds_toArray, List.set_cons_zero, List.set_cons_succ]
  refine wpS_read (v := ?_) rfl (by kernel_rfl) (by kernel_rfl) (by kernel_rfl) (fun _ _ _ h => h) (.inl ⟨by rfl, ?_⟩) ?_
  rotate_left
  · intro X hX
    clear hX
    go_simp
    with_reducible rfl
  try simp only [Act.put, List.setIfInBounds_toArray, List.set_cons_zero, List.set_cons_succ]
  refine wpS_lone rfl (by kernel_rfl) (fun K hK => ?_)
  go_simp
  refine HA.out.mono ?_
  rintro e w1 ⟨rfl, b1⟩
  refine hK _ _ (Stays.of_below b1) ?_
  clear hK K
  try simp only [Act.put, List.setIfInBounds_toArray, List.set_cons_zero, List.set_cons_succ]
  refine wpS_read (v := ?_) rfl (by kernel_rfl) (by kernel_rfl) (by kernel_rfl) (fun _ _ _ h => h) (.inl ⟨by rfl, ?_⟩) ?_
  rotate_left
  · intro X hX
    clear hX
    go_simp
    with_reducible rfl
  try simp only [Act.put, List.setIfInBounds_toArray, List.set_cons_zero, List.set_cons_succ]
  refine wpS_done (by kernel_rfl) ?_
  have HY := Lib.hid (HX1.out.below b1 HX1.out.lt)
  have HB1 := Lib.hid (HB.out.trans (b1.mono HB.out.size))
  have c0 := (HX0.out.below b1 HX0.out.lt).cell 0
  have c1 := (HX0.out.below b1 HX0.out.lt).cell 1
  have HT1 := Lib.hid (HTW.out w1 b1)
  have HZ1 := Lib.hid (Nat.le_trans HZ.out b1.size)
  clear b1
  go_wp2_with fail
  clear c0 c1
  refine HT1.out.mono ?_
  rintro e w2 ⟨x', rfl, ht, b2⟩
  clear HT1 HTW HA HX0 HX1 HB HPL HQL
  obtain ⟨hb, hw, rfl, hle1, hle2, hfit, hwfs, hI⟩ := ht
  obtain ⟨m, hm2⟩ : ∃ m, D.2.length = m := ⟨_, rfl⟩
  simp only [dval]
  rw [HM.out.1.1, hm2]
  obtain ⟨gd, hgd⟩ : ∃ g, w2.heap.size = g := ⟨_, rfl⟩
  obtain ⟨w3, hw3⟩ : ∃ w3, w2.alloc (.cells #[.slice (some ⟨hb, 0, none⟩) 256 256, .slice (some ⟨hw, 0, none⟩) m m] 25) = w3 := ⟨_, rfl⟩
  have b3 : Below w2.heap.size w2 w3 := by rw [← hw3]; exact (Below.refl _ w2).alloc (Nat.le_refl _) _
  have x3 : Blk w3 gd 25 #[.slice (some ⟨hb, 0, none⟩) 256 256, .slice (some ⟨hw, 0, none⟩) m m] := by rw [← hw3, ← hgd]; exact Blk.new w2 _ _
  have b23 := b2.trans (b3.mono b2.size)
  have y3 := HY.out.below b23 HY.out.lt
  have hI3 := hI.below b3
  have hlp : (D.1.getD p []).length = 256 := HM.out.1.2 p HPQ.out.1
  obtain ⟨g, c, e1, e2, e3, e4, e5, e6⟩ := hI3.turned (p := p) (q := q) (by omega) (by rw [HM.out.1.1]; exact HPQ.out.1) (by rw [hlp]; exact HPQ.out.2) b
  rw [hlp] at e1
  obtain ⟨v, hv⟩ : ∃ v, (D.1.getD p []).getD q 0 = v := ⟨_, rfl⟩
  rw [hv] at e3 e6
  have hxor := xor8 v b
  obtain ⟨y, hy⟩ : ∃ y, (v ^^^ b).toNat = y := ⟨_, rfl⟩
  rw [hy] at e6 hxor
  have n1 := e5 _ _ _ x3 (by decide)
  have n2 := e5 _ _ _ y3 (by decide)
  have x4 := x3.far (p := ⟨g, q, none⟩) (Ne.symm n1) (.int .u8 (y : Int))
  have y4 := y3.far (p := ⟨g, q, none⟩) (Ne.symm n2) (.int .u8 (y : Int))
  have hg3' : w.heap.size + 1 < gd := by rw [← hgd]; have := b2.size; have := HZ1.out; omega
  have hz1 := HZ1.out
  have hgw : w.heap.size ≤ g := by omega
  have b4 := (HB1.out.trans (b23.mono (by omega))).setCell (p := ⟨g, q, none⟩) hgw (.int .u8 (y : Int))
  have hT : Tw (w3.setCell ⟨g, q, none⟩ (.int .u8 (y : Int))) w1.heap.size ⟨some ⟨hb, 0, none⟩, 256, some ⟨hw, 0, none⟩, m⟩ (turnedD D p q b) :=
    ⟨hb, hw, by rw [show (turnedD D p q b).1.length = 256 by rw [← HM.out.1.1]; exact List.length_set .., show (turnedD D p q b).2.length = m from hm2], hle1, hle2, may_fits (turned_may HM.out), hwfs, by
      have h1 : (turnedD D p q b).1.length = D.1.length := List.length_set ..
      have h2 : (turnedD D p q b).2.length = D.2.length := rfl
      rw [h1, h2]
      exact e6⟩
  have t0 := x3.cell 0
  have t1 := x3.cell 1
  obtain ⟨w4, hw4⟩ : ∃ w4, w3.setCell ⟨g, q, none⟩ (.int .u8 (y : Int)) = w4 := ⟨_, rfl⟩
  rw [hw4] at x4 y4 b4 hT
  have t40 := x4.cell 0
  have t41 := x4.cell 1
  have d0 := y4.cell 0
  have d1 := y4.cell 1
  have hf0 := y4.frozen 0
  have hf1 := y4.frozen 1
  have HTF := Lib.hid hT.dskT
  have HB4 := Lib.hid b4
  have HY4 := Lib.hid y4
  have HL2 := Lib.hid (show (turnedD D p q b).2.length = m from hm2)
  have HL1 := Lib.hid (show (turnedD D p q b).1.length = 256 by rw [← HM.out.1.1]; exact List.length_set ..)
  clear x3 b3 b23 y3 hI3 hI hlp e2 e5 e6 hv hy n1 n2 x4 y4 b4 hT hgw hg3' hz1 hle1 hle2 hfit hwfs b2 hm2 HB1 HY
  go_wp2_with fail
  have hBF := (HB4.out.setCell (p := ⟨w.heap.size + 1, 0, none⟩) (Nat.le_add_right _ _) (.slice (some ⟨hb, 0, none⟩) 256 256)).setCell (p := ⟨w.heap.size + 1, 1, none⟩) (Nat.le_add_right _ _) (.slice (some ⟨hw, 0, none⟩) m m)
  have hXF := (HY4.out.set_ 0 (.slice (some ⟨hb, 0, none⟩) 256 256)).set_ 1 (.slice (some ⟨hw, 0, none⟩) m m)
  have hDF := HTF.out.2 _ _ (.slice (some ⟨hb, 0, none⟩) 256 256) (.slice (some ⟨hw, 0, none⟩) m m) HY4.out
  have hzf : ((w4.setCell ⟨w.heap.size + 1, 0, none⟩ (.slice (some ⟨hb, 0, none⟩) 256 256)).setCell ⟨w.heap.size + 1, 1, none⟩ (.slice (some ⟨hw, 0, none⟩) m m)).heap.size = w4.heap.size := by simp
  rw [← hzf] at hDF
  clear hzf
  obtain ⟨wf, hwf⟩ : ∃ wf, ((w4.setCell ⟨w.heap.size + 1, 0, none⟩ (.slice (some ⟨hb, 0, none⟩) 256 256)).setCell ⟨w.heap.size + 1, 1, none⟩ (.slice (some ⟨hw, 0, none⟩) m m)) = wf := ⟨_, rfl⟩
  rw [hwf] at hBF hXF hDF ⊢
  clear hwf t0 t1 t40 t41 d0 d1 hf0 hf1
  have e0 := hXF.cell 0
  have e1 := hXF.cell 1
  exact bodyPost_ret (v := .tuple #[.agg #[.slice (some ⟨hb, 0, none⟩) 256 256, .slice (some ⟨hw, 0, none⟩) m m], .int .i64 0]) (by simp [results, Try.f30, go_sem, e0, e1]) rfl ⟨⟨some ⟨hb, 0, none⟩, 256, some ⟨hw, 0, none⟩, m⟩, by simp only [dval, HL1.out, HL2.out], hDF, hBF⟩
set_option maxHeartbeats 2000000 in
theorem rdTamper_no (x : DAt) (D : DkL) (p q : Int) (b : UInt8) (w : World) (h : Dsk w w.heap.size x D) (hno : ¬ (MayD D ∧ (0 ≤ p ∧ p < 256) ∧ 0 ≤ q ∧ q < 256)) : Calls Try.prog 30 #[dval x D, .int .i64 p, .int .i64 q, .int .u8 (b.toNat : Int)] w (RefD (tamperO D p q b) w) := by
  have hmx : Try.prog.follows Departure.mixedOrders = true := by kernel_rfl
  obtain ⟨w0, hw0, b00, z0, x00, x01⟩ := two_boxes w (.slice x.ba D.1.length x.bc) (.slice x.wa D.2.length x.wc)
  obtain ⟨wd, hwd⟩ : ∃ wd, w0.drew = wd := ⟨_, rfl⟩
  have b0 : Below w.heap.size w wd := by rw [← hwd]; exact b00.drew
  have x0 : Blk wd w.heap.size 25 #[.slice x.ba D.1.length x.bc, .slice x.wa D.2.length x.wc] := by rw [← hwd]; exact x00.drew
  have x1 : Blk wd (w.heap.size + 1) 25 #[.slice none 0 0, .slice none 0 0] := by rw [← hwd]; exact x01.drew
  have h0 := h.step b0
  have c0 := x0.cell 0
  have c1 := x0.cell 1
  have C0 := fun X (hX : Below wd.heap.size wd X) => (hX.cell (p := ⟨w.heap.size, 0, none⟩) (World.block_lt_of_cell? wd _ c0)).trans c0
  have C1 := fun X (hX : Below wd.heap.size wd X) => (hX.cell (p := ⟨w.heap.size, 1, none⟩) (World.block_lt_of_cell? wd _ c1)).trans c1
  have hS : Below wd.heap.size wd wd := Below.refl _ _
  have HX0 := Lib.hid x0
  have HX1 := Lib.hid x1
  have HB := Lib.hid b0
  have hpl := rdPlace_any p wd
  have hql := rdPlace_any q wd
  clear c0 c1
  unfold tamperO
  by_cases hp : 0 ≤ p ∧ p < 256
  · rw [decide_eq_true hp] at hpl
    obtain ⟨r, hr⟩ : ∃ r, decide (0 ≤ q ∧ q < 256) = r := ⟨_, rfl⟩
    rw [hr] at hql
    have ha := rdAsk_any x D r wd h0
    unfold askO at ha
    have HPL := Lib.hid hpl
    have HQL := Lib.hid hql
    by_cases hm : MayD D
    · have hq : ¬ (0 ≤ q ∧ q < 256) := fun hq => hno ⟨hm, hp, hq⟩
      rw [if_pos hm] at ha ⊢
      rw [if_neg (fun hh => hq hh.2)]
      rw [decide_eq_false hq] at hr
      subst hr
      rw [if_neg (show ¬ (false = true) by decide)] at ha
      simp only [dval] at ha ⊢
      have HA := Lib.hid ha
      clear hpl hql ha x0 x1 b0 x00 x01 b00 z0 h0 h hm hp hq hno
      go_enter Try.func30, Try.ntmps30
      go_wp2_with fail
      clear hw0
      refine wpS_start [0, 1, 2, 3, 4, 5, 6, 7, 8] hmx rfl hwd ?_
      clear hwd
      iterate 2 (
        refine wpS_read (v := ?_) rfl (by kernel_rfl) (by kernel_rfl) (by kernel_rfl) (fun _ _ _ h => h) (.inl ⟨by rfl, ?_⟩) ?_
        rotate_left
        · intro X hX
          have hXa := C0 X (hX _ hS)
          have hXb := C1 X (hX _ hS)
          clear hX
          go_simp
          with_reducible rfl
        try simp only [Act.put, List.setIfInBounds_toArray, List.set_cons_zero, List.set_cons_succ])
      clear C0 C1 hS
      refine wpS_lone rfl (by kernel_rfl) (fun K hK => ?_)
      go_simp
      refine HPL.out.mono ?_
      rintro e w0' ⟨rfl, rfl⟩
      refine hK _ _ (Stays.refl _) ?_
      clear hK K
      try simp only [Act.put, List.setIfInBounds_toArray, List.set_cons_zero, List.set_cons_succ]
      refine wpS_read (v := ?_) rfl (by kernel_rfl) (by kernel_rfl) (by kernel_rfl) (fun _ _ _ h => h) (.inl ⟨by rfl, ?_⟩) ?_
      rotate_left
      · intro X hX
        clear hX
        go_simp
        with_reducible rfl
      try simp only [Act.put, List.setIfInBounds_toArray, List.set_cons_zero, List.set_cons_succ]
      refine wpS_read (v := ?_) rfl (by kernel_rfl) (by kernel_rfl) (by kernel_rfl) (fun _ _ _ h => h) (.inl ⟨by rfl, ?_⟩) ?_
      rotate_left
      · intro X hX
        clear hX
        go_simp
        with_reducible rfl
      try simp only [Act.put, List.setIfInBounds_toArray, List.set_cons_zero, List.set_cons_succ]
      refine wpS_lone rfl (by kernel_rfl) (fun K hK => ?_)
      go_simp
      refine HQL.out.mono ?_
      rintro e w0' ⟨rfl, rfl⟩
      refine hK _ _ (Stays.refl _) ?_
      clear hK K
      try simp only [Act.put, List.setIfInBounds_toArray, List.set_cons_zero, List.set_cons_succ]
      refine wpS_read (v := ?_) rfl (by kernel_rfl) (by kernel_rfl) (by kernel_rfl) (fun _ _ _ h => h) (.inl ⟨by rfl, ?_⟩) ?_
      rotate_left
      · intro X hX
        clear hX
        go_simp
        with_reducible rfl
      try simp only [Act.put, List.setIfInBounds_toArray, List.set_cons_zero, List.set_cons_succ]
      refine wpS_lone rfl (by kernel_rfl) (fun K hK => ?_)
      go_simp
      refine HA.out.mono ?_
      rintro e w1 ⟨rfl, b1⟩
      refine hK _ _ (Stays.of_below b1) ?_
      clear hK K
      try simp only [Act.put, List.setIfInBounds_toArray, List.set_cons_zero, List.set_cons_succ]
      refine wpS_read (v := ?_) rfl (by kernel_rfl) (by kernel_rfl) (by kernel_rfl) (fun _ _ _ h => h) (.inl ⟨by rfl, ?_⟩) ?_
      rotate_left
      · intro X hX
        clear hX
        go_simp
        with_reducible rfl
      try simp only [Act.put, List.setIfInBounds_toArray, List.set_cons_zero, List.set_cons_succ]
      refine wpS_done (by kernel_rfl) ?_
      have HY := Lib.hid (HX1.out.below b1 HX1.out.lt)
      have HB1 := Lib.hid (HB.out.trans (b1.mono HB.out.size))
      have c0 := (HX0.out.below b1 HX0.out.lt).cell 0
      have c1 := (HX0.out.below b1 HX0.out.lt).cell 1
      clear b1
      have d0 := HY.out.cell 0
      have d1 := HY.out.cell 1
      have hf := fun i => HY.out.frozen i
      go_wp2_with fail
      have hBF := (HB1.out.setCell (p := ⟨w.heap.size + 1, 0, none⟩) (Nat.le_add_right _ _) (.slice none 0 0)).setCell (p := ⟨w.heap.size + 1, 1, none⟩) (Nat.le_add_right _ _) (.slice none 0 0)
      have hXF := (HY.out.set_ 0 (.slice none 0 0)).set_ 1 (.slice none 0 0)
      obtain ⟨wf, hwf⟩ : ∃ wf, ((w1.setCell ⟨w.heap.size + 1, 0, none⟩ (.slice none 0 0)).setCell ⟨w.heap.size + 1, 1, none⟩ (.slice none 0 0)) = wf := ⟨_, rfl⟩
      rw [hwf] at hBF hXF ⊢
      clear hwf d0 d1 hf
      have e0 := hXF.cell 0
      have e1 := hXF.cell 1
      exact bodyPost_ret (v := .tuple #[.agg #[.slice none 0 0, .slice none 0 0], .int .i64 2]) (by simp [results, Try.f30, go_sem, e0, e1]) rfl (refD_no rfl hBF)
    · rw [if_neg hm] at ha ⊢
      simp only [dval] at ha ⊢
      have HA := Lib.hid ha
      clear hpl hql ha x0 x1 b0 x00 x01 b00 z0 h0 h hm hp hno hr
      go_enter Try.func30, Try.ntmps30
      go_wp2_with fail
      clear hw0
      refine wpS_start [0, 1, 2, 3, 4, 5, 6, 7, 8] hmx rfl hwd ?_
      clear hwd
      iterate 2 (
        refine wpS_read (v := ?_) rfl (by kernel_rfl) (by kernel_rfl) (by kernel_rfl) (fun _ _ _ h => h) (.inl ⟨by rfl, ?_⟩) ?_
        rotate_left
        · intro X hX
          have hXa := C0 X (hX _ hS)
          have hXb := C1 X (hX _ hS)
          clear hX
          go_simp
          with_reducible rfl
        try simp only [Act.put, List.setIfInBounds_toArray, List.set_cons_zero, List.set_cons_succ])
      clear C0 C1 hS
      refine wpS_lone rfl (by kernel_rfl) (fun K hK => ?_)
      go_simp
      refine HPL.out.mono ?_
      rintro e w0' ⟨rfl, rfl⟩
      refine hK _ _ (Stays.refl _) ?_
      clear hK K
      try simp only [Act.put, List.setIfInBounds_toArray, List.set_cons_zero, List.set_cons_succ]
      refine wpS_read (v := ?_) rfl (by kernel_rfl) (by kernel_rfl) (by kernel_rfl) (fun _ _ _ h => h) (.inl ⟨by rfl, ?_⟩) ?_
      rotate_left
      · intro X hX
        clear hX
        go_simp
        with_reducible rfl
      try simp only [Act.put, List.setIfInBounds_toArray, List.set_cons_zero, List.set_cons_succ]
      refine wpS_read (v := ?_) rfl (by kernel_rfl) (by kernel_rfl) (by kernel_rfl) (fun _ _ _ h => h) (.inl ⟨by rfl, ?_⟩) ?_
      rotate_left
      · intro X hX
        clear hX
        go_simp
        with_reducible rfl
      try simp only [Act.put, List.setIfInBounds_toArray, List.set_cons_zero, List.set_cons_succ]
      refine wpS_lone rfl (by kernel_rfl) (fun K hK => ?_)
      go_simp
      refine HQL.out.mono ?_
      rintro e w0' ⟨rfl, rfl⟩
      refine hK _ _ (Stays.refl _) ?_
      clear hK K
      try simp only [Act.put, List.setIfInBounds_toArray, List.set_cons_zero, List.set_cons_succ]
      refine wpS_read (v := ?_) rfl (by kernel_rfl) (by kernel_rfl) (by kernel_rfl) (fun _ _ _ h => h) (.inl ⟨by rfl, ?_⟩) ?_
      rotate_left
      · intro X hX
        clear hX
        go_simp
        with_reducible rfl
      try simp only [Act.put, List.setIfInBounds_toArray, List.set_cons_zero, List.set_cons_succ]
      refine wpS_lone rfl (by kernel_rfl) (fun K hK => ?_)
      go_simp
      refine HA.out.mono ?_
      rintro e w1 ⟨rfl, b1⟩
      refine hK _ _ (Stays.of_below b1) ?_
      clear hK K
      try simp only [Act.put, List.setIfInBounds_toArray, List.set_cons_zero, List.set_cons_succ]
      refine wpS_read (v := ?_) rfl (by kernel_rfl) (by kernel_rfl) (by kernel_rfl) (fun _ _ _ h => h) (.inl ⟨by rfl, ?_⟩) ?_
      rotate_left
      · intro X hX
        clear hX
        go_simp
        with_reducible rfl
      try simp only [Act.put, List.setIfInBounds_toArray, List.set_cons_zero, List.set_cons_succ]
      refine wpS_done (by kernel_rfl) ?_
      have HY := Lib.hid (HX1.out.below b1 HX1.out.lt)
      have HB1 := Lib.hid (HB.out.trans (b1.mono HB.out.size))
      have c0 := (HX0.out.below b1 HX0.out.lt).cell 0
      have c1 := (HX0.out.below b1 HX0.out.lt).cell 1
      clear b1
      have d0 := HY.out.cell 0
      have d1 := HY.out.cell 1
      have hf := fun i => HY.out.frozen i
      go_wp2_with fail
      have hBF := (HB1.out.setCell (p := ⟨w.heap.size + 1, 0, none⟩) (Nat.le_add_right _ _) (.slice none 0 0)).setCell (p := ⟨w.heap.size + 1, 1, none⟩) (Nat.le_add_right _ _) (.slice none 0 0)
      have hXF := (HY.out.set_ 0 (.slice none 0 0)).set_ 1 (.slice none 0 0)
      obtain ⟨wf, hwf⟩ : ∃ wf, ((w1.setCell ⟨w.heap.size + 1, 0, none⟩ (.slice none 0 0)).setCell ⟨w.heap.size + 1, 1, none⟩ (.slice none 0 0)) = wf := ⟨_, rfl⟩
      rw [hwf] at hBF hXF ⊢
      clear hwf d0 d1 hf
      have e0 := hXF.cell 0
      have e1 := hXF.cell 1
      exact bodyPost_ret (v := .tuple #[.agg #[.slice none 0 0, .slice none 0 0], .int .i64 8]) (by simp [results, Try.f30, go_sem, e0, e1]) rfl (refD_no rfl hBF)
  · rw [decide_eq_false hp] at hpl
    have ha := rdAsk_any x D false wd h0
    unfold askO at ha
    rw [if_neg (show ¬ (false = true) by decide)] at ha
    have HPL := Lib.hid hpl
    by_cases hm : MayD D
    · rw [if_pos hm] at ha ⊢
      rw [if_neg (fun hh => hp hh.1)]
      simp only [dval] at ha ⊢
      have HA := Lib.hid ha
      clear hpl hql ha x0 x1 b0 x00 x01 b00 z0 h0 h hm hp hno
      go_enter Try.func30, Try.ntmps30
      go_wp2_with fail
      clear hw0
      refine wpS_start [0, 1, 2, 3, 4, 5, 6, 7, 8] hmx rfl hwd ?_
      clear hwd
      iterate 2 (
        refine wpS_read (v := ?_) rfl (by kernel_rfl) (by kernel_rfl) (by kernel_rfl) (fun _ _ _ h => h) (.inl ⟨by rfl, ?_⟩) ?_
        rotate_left
        · intro X hX
          have hXa := C0 X (hX _ hS)
          have hXb := C1 X (hX _ hS)
          clear hX
          go_simp
          with_reducible rfl
        try simp only [Act.put, List.setIfInBounds_toArray, List.set_cons_zero, List.set_cons_succ])
      clear C0 C1 hS
      refine wpS_lone rfl (by kernel_rfl) (fun K hK => ?_)
      go_simp
      refine HPL.out.mono ?_
      rintro e w0' ⟨rfl, rfl⟩
      refine hK _ _ (Stays.refl _) ?_
      clear hK K
      try simp only [Act.put, List.setIfInBounds_toArray, List.set_cons_zero, List.set_cons_succ]
      refine wpS_read (v := ?_) rfl (by kernel_rfl) (by kernel_rfl) (by kernel_rfl) (fun _ _ _ h => h) (.inl ⟨by rfl, ?_⟩) ?_
      rotate_left
      · intro X hX
        clear hX
        go_simp
        with_reducible rfl
      try simp only [Act.put, List.setIfInBounds_toArray, List.set_cons_zero, List.set_cons_succ]
      refine wpS_read (v := undef) rfl (by kernel_rfl) (by kernel_rfl) (by kernel_rfl) (fun _ _ _ h => h) (.inr ⟨by rfl, rfl⟩) ?_
      try simp only [Act.put, List.setIfInBounds_toArray, List.set_cons_zero, List.set_cons_succ]
      refine wpS_lone rfl (by kernel_rfl) (fun K hK => ?_)
      go_simp
      refine hK _ _ (Stays.refl _) ?_
      clear hK K
      try simp only [Act.put, List.setIfInBounds_toArray, List.set_cons_zero, List.set_cons_succ]
      refine wpS_read (v := ?_) rfl (by kernel_rfl) (by kernel_rfl) (by kernel_rfl) (fun _ _ _ h => h) (.inl ⟨by rfl, ?_⟩) ?_
      rotate_left
      · intro X hX
        clear hX
        go_simp
        with_reducible rfl
      try simp only [Act.put, List.setIfInBounds_toArray, List.set_cons_zero, List.set_cons_succ]
      refine wpS_lone rfl (by kernel_rfl) (fun K hK => ?_)
      go_simp
      refine HA.out.mono ?_
      rintro e w1 ⟨rfl, b1⟩
      refine hK _ _ (Stays.of_below b1) ?_
      clear hK K
      try simp only [Act.put, List.setIfInBounds_toArray, List.set_cons_zero, List.set_cons_succ]
      refine wpS_read (v := ?_) rfl (by kernel_rfl) (by kernel_rfl) (by kernel_rfl) (fun _ _ _ h => h) (.inl ⟨by rfl, ?_⟩) ?_
      rotate_left
      · intro X hX
        clear hX
        go_simp
        with_reducible rfl
      try simp only [Act.put, List.setIfInBounds_toArray, List.set_cons_zero, List.set_cons_succ]
      refine wpS_done (by kernel_rfl) ?_
      have HY := Lib.hid (HX1.out.below b1 HX1.out.lt)
      have HB1 := Lib.hid (HB.out.trans (b1.mono HB.out.size))
      have c0 := (HX0.out.below b1 HX0.out.lt).cell 0
      have c1 := (HX0.out.below b1 HX0.out.lt).cell 1
      clear b1
      have d0 := HY.out.cell 0
      have d1 := HY.out.cell 1
      have hf := fun i => HY.out.frozen i
      go_wp2_with fail
      have hBF := (HB1.out.setCell (p := ⟨w.heap.size + 1, 0, none⟩) (Nat.le_add_right _ _) (.slice none 0 0)).setCell (p := ⟨w.heap.size + 1, 1, none⟩) (Nat.le_add_right _ _) (.slice none 0 0)
      have hXF := (HY.out.set_ 0 (.slice none 0 0)).set_ 1 (.slice none 0 0)
      obtain ⟨wf, hwf⟩ : ∃ wf, ((w1.setCell ⟨w.heap.size + 1, 0, none⟩ (.slice none 0 0)).setCell ⟨w.heap.size + 1, 1, none⟩ (.slice none 0 0)) = wf := ⟨_, rfl⟩
      rw [hwf] at hBF hXF ⊢
      clear hwf d0 d1 hf
      have e0 := hXF.cell 0
      have e1 := hXF.cell 1
      exact bodyPost_ret (v := .tuple #[.agg #[.slice none 0 0, .slice none 0 0], .int .i64 2]) (by simp [results, Try.f30, go_sem, e0, e1]) rfl (refD_no rfl hBF)
    · rw [if_neg hm] at ha ⊢
      simp only [dval] at ha ⊢
      have HA := Lib.hid ha
      clear hpl hql ha x0 x1 b0 x00 x01 b00 z0 h0 h hm hp hno
      go_enter Try.func30, Try.ntmps30
      go_wp2_with fail
      clear hw0
      refine wpS_start [0, 1, 2, 3, 4, 5, 6, 7, 8] hmx rfl hwd ?_
      clear hwd
      iterate 2 (
        refine wpS_read (v := ?_) rfl (by kernel_rfl) (by kernel_rfl) (by kernel_rfl) (fun _ _ _ h => h) (.inl ⟨by rfl, ?_⟩) ?_
        rotate_left
        · intro X hX
          have hXa := C0 X (hX _ hS)
          have hXb := C1 X (hX _ hS)
          clear hX
          go_simp
          with_reducible rfl
        try simp only [Act.put, List.setIfInBounds_toArray, List.set_cons_zero, List.set_cons_succ])
      clear C0 C1 hS
      refine wpS_lone rfl (by kernel_rfl) (fun K hK => ?_)
      go_simp
      refine HPL.out.mono ?_
      rintro e w0' ⟨rfl, rfl⟩
      refine hK _ _ (Stays.refl _) ?_
      clear hK K
      try simp only [Act.put, List.setIfInBounds_toArray, List.set_cons_zero, List.set_cons_succ]
      refine wpS_read (v := ?_) rfl (by kernel_rfl) (by kernel_rfl) (by kernel_rfl) (fun _ _ _ h => h) (.inl ⟨by rfl, ?_⟩) ?_
      rotate_left
      · intro X hX
        clear hX
        go_simp
        with_reducible rfl
      try simp only [Act.put, List.setIfInBounds_toArray, List.set_cons_zero, List.set_cons_succ]
      refine wpS_read (v := undef) rfl (by kernel_rfl) (by kernel_rfl) (by kernel_rfl) (fun _ _ _ h => h) (.inr ⟨by rfl, rfl⟩) ?_
      try simp only [Act.put, List.setIfInBounds_toArray, List.set_cons_zero, List.set_cons_succ]
      refine wpS_lone rfl (by kernel_rfl) (fun K hK => ?_)
      go_simp
      refine hK _ _ (Stays.refl _) ?_
      clear hK K
      try simp only [Act.put, List.setIfInBounds_toArray, List.set_cons_zero, List.set_cons_succ]
      refine wpS_read (v := ?_) rfl (by kernel_rfl) (by kernel_rfl) (by kernel_rfl) (fun _ _ _ h => h) (.inl ⟨by rfl, ?_⟩) ?_
      rotate_left
      · intro X hX
        clear hX
        go_simp
        with_reducible rfl
      try simp only [Act.put, List.setIfInBounds_toArray, List.set_cons_zero, List.set_cons_succ]
      refine wpS_lone rfl (by kernel_rfl) (fun K hK => ?_)
      go_simp
      refine HA.out.mono ?_
      rintro e w1 ⟨rfl, b1⟩
      refine hK _ _ (Stays.of_below b1) ?_
      clear hK K
      try simp only [Act.put, List.setIfInBounds_toArray, List.set_cons_zero, List.set_cons_succ]
      refine wpS_read (v := ?_) rfl (by kernel_rfl) (by kernel_rfl) (by kernel_rfl) (fun _ _ _ h => h) (.inl ⟨by rfl, ?_⟩) ?_
      rotate_left
      · intro X hX
        clear hX
        go_simp
        with_reducible rfl
      try simp only [Act.put, List.setIfInBounds_toArray, List.set_cons_zero, List.set_cons_succ]
      refine wpS_done (by kernel_rfl) ?_
      have HY := Lib.hid (HX1.out.below b1 HX1.out.lt)
      have HB1 := Lib.hid (HB.out.trans (b1.mono HB.out.size))
      have c0 := (HX0.out.below b1 HX0.out.lt).cell 0
      have c1 := (HX0.out.below b1 HX0.out.lt).cell 1
      clear b1
      have d0 := HY.out.cell 0
      have d1 := HY.out.cell 1
      have hf := fun i => HY.out.frozen i
      go_wp2_with fail
      have hBF := (HB1.out.setCell (p := ⟨w.heap.size + 1, 0, none⟩) (Nat.le_add_right _ _) (.slice none 0 0)).setCell (p := ⟨w.heap.size + 1, 1, none⟩) (Nat.le_add_right _ _) (.slice none 0 0)
      have hXF := (HY.out.set_ 0 (.slice none 0 0)).set_ 1 (.slice none 0 0)
      obtain ⟨wf, hwf⟩ : ∃ wf, ((w1.setCell ⟨w.heap.size + 1, 0, none⟩ (.slice none 0 0)).setCell ⟨w.heap.size + 1, 1, none⟩ (.slice none 0 0)) = wf := ⟨_, rfl⟩
      rw [hwf] at hBF hXF ⊢
      clear hwf d0 d1 hf
      have e0 := hXF.cell 0
      have e1 := hXF.cell 1
      exact bodyPost_ret (v := .tuple #[.agg #[.slice none 0 0, .slice none 0 0], .int .i64 8]) (by simp [results, Try.f30, go_sem, e0, e1]) rfl (refD_no rfl hBF)
theorem rdTamper_any (x : DAt) (D : DkL) (p q : Int) (b : UInt8) (w : World) (h : Dsk w w.heap.size x D) : Calls Try.prog 30 #[dval x D, .int .i64 p, .int .i64 q, .int .u8 (b.toNat : Int)] w (RefD (tamperO D p q b) w) := by
  by_cases hy : MayD D ∧ (0 ≤ p ∧ p < 256) ∧ 0 ≤ q ∧ q < 256
  · obtain ⟨hm, hp, hq⟩ := hy
    rw [tamperO, if_pos hm, if_pos ⟨hp, hq⟩]
    obtain ⟨p', rfl⟩ := Int.eq_ofNat_of_zero_le hp.1
    obtain ⟨q', rfl⟩ := Int.eq_ofNat_of_zero_le hq.1
    exact rdTamper_yes x D p' q' b w h hm (by omega) (by omega)
  · exact rdTamper_no x D p q b w h hy
end Go.Proofs.Ytgpojnhhcobcbaa
