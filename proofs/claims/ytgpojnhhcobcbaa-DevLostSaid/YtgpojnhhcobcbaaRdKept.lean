/-
  The document's own Kept for layer 9: what those leave whose mark is true.
-/
import Derived.Test.YtgpojnhhcobcbaaRdNew
import Derived.Test.YtgpojnhhcobcbaaRdLast
namespace Go.Proofs.Ytgpojnhhcobcbaa
open Go.RowKit Go.Shelf
set_option maxRecDepth 100000

theorem take_kept {D : DkL} {mk : Nat → Bool} {k : Nat} (h : k < 256) : (keptD D mk).1.take (k + 1) = (keptD D mk).1.take k ++ [leftD D mk k] := by
  have hl := keptD_length D mk
  rw [List.take_add_one, ← keptD_get D mk k h, List.getD_eq_getElem?_getD, List.getElem?_eq_getElem (by omega)]
  rfl
section
variable {l : List Oper} {Q : Exit → Act → World → Prop} {md : Region.Mode} {i : Nat} {σ : List Nat} {o : Oper} {listed : Array Bool} {a : Act} {w : World}
/-- append(rows, s), at its own place in the order. -/
theorem wpS_append_brow (hi : nthOp l i = some o) (hr : Region.ready md l.toArray listed = [i]) (hl : lastB md l.toArray i = true) (hgd : o.guard = none) (x y : Operand) (ho : o.op = .call { callee := .builtin .append, args := #[x, y], argTypes := #[22, 22] })
    (base : Nat) {C : Nat} (hC : C ≤ base) (v : Value) (bl : List (List UInt8)) (hx : a.eval x = v) (hrw : BRowC w C base v bl) (A : Option Addr) (c : Nat) (s : List UInt8) (b : Nat) (hy : a.eval y = .slice (some ⟨b, 0, none⟩) 1 1) (hb : Blk w b 30 #[.slice A s.length c]) (hs : BslO w C A s.length c s)
    (hn : bl.length ≤ 1000000) (hbase : base ≤ w.heap.size)
    (h : ∀ v' w', BRowC w' C base v' (bl ++ [s]) → w.grownBy w' v.ownBlock → (∀ g, v.ownBlock = some g → base ≤ g ∧ ∃ t cs, Blk w g t cs ∧ t = 30) → wpS Try.prog md l Q σ (listed.setIfInBounds i true) (a.put o.dst v') w') : wpS Try.prog md l Q (i :: σ) listed a w :=
  wpS_last hi hr hl fun K hK => by
    rw [if_pos (by simp [Region.wanted, hgd])]
    have hty : ∀ g, v.ownBlock = some g → base ≤ g ∧ ∃ t cs, Blk w g t cs ∧ t = 30 := by
      obtain ⟨xs, h1, _⟩ := hrw
      intro g hg
      obtain ⟨_, ⟨rfl, _⟩ | ⟨g', cap, cur, rfl, h2, h3, _⟩⟩ := h1
      · cases hg
      · cases hg
        exact ⟨h2, _, _, h3, rfl⟩
    exact wp_append_browC x y ho base hC v bl hx hrw A c s b hy hb hs hn hbase fun v' w' h1 h2 _ => hK _ _ (h v' w' h1 h2 hty)
/-- append(writes, more...), at its own place in the order. -/
theorem wpS_append_wrow (hi : nthOp l i = some o) (hr : Region.ready md l.toArray listed = [i]) (hl : lastB md l.toArray i = true) (hgd : o.guard = none) (x y : Operand) (ho : o.op = .call { callee := .builtin .append, args := #[x, y], argTypes := #[23, 23] })
    (base : Nat) {C : Nat} (hC : C ≤ base) (v : Value) (ws : WrL) (hx : a.eval x = v) (hrw : WRowC w C base v ws) (ys : List Value) (ws' : WrL) (ad : Addr) (m c : Nat) (hy : a.eval y = .slice (some ad) m c) (hm : ws'.length = m) (hyl : ys.length = m * 2) (hcell : ∀ j u, ys[j]? = some u → w.cell? (ad.add j) = some u)
    (h3 : ∀ i, i < ws'.length → (Lit.int .i64 (wr_ ws' i).1).wf = true ∧ ys.getD (i * 2) undef = .int .i64 (wr_ ws' i).1 ∧ ∃ A c, ys.getD (i * 2 + 1) undef = .slice A (wr_ ws' i).2.length c ∧ BslO w C A (wr_ ws' i).2.length c (wr_ ws' i).2)
    (hn : ws.length + m ≤ 1000000) (hbase : base ≤ w.heap.size)
    (h : ∀ v' w', WRowC w' C base v' (ws ++ ws') → w.grownBy w' v.ownBlock → (∀ g, v.ownBlock = some g → base ≤ g ∧ ∃ t cs, Blk w g t cs ∧ t = 55) → wpS Try.prog md l Q σ (listed.setIfInBounds i true) (a.put o.dst v') w') : wpS Try.prog md l Q (i :: σ) listed a w :=
  wpS_last hi hr hl fun K hK => by
    rw [if_pos (by simp [Region.wanted, hgd])]
    have hty : ∀ g, v.ownBlock = some g → base ≤ g ∧ ∃ t cs, Blk w g t cs ∧ t = 55 := by
      obtain ⟨xs, h1, _⟩ := hrw
      intro g hg
      obtain ⟨_, ⟨rfl, _⟩ | ⟨g', cap, cur, rfl, h2, h3, _⟩⟩ := h1
      · cases hg
      · cases hg
        exact ⟨h2, _, _, h3, rfl⟩
    exact wp_append_wrowC x y ho base hC v ws hx hrw ys ws' ad m c hy hm hyl hcell h3 hn hbase fun v' w' h1 h2 _ => hK _ _ (h v' w' h1 h2 hty)
end
set_option maxHeartbeats 4000000 in
theorem rdKept_any (x : DAt) (D : DkL) (a : Option Addr) (n c : Nat) (ks : List Bool) (w : World) (h : Dsk w w.heap.size x D) (hk : Mks w w.heap.size a n c ks) (hn : n = 0 ∨ n = D.2.length) (hm : MayD D) :
    Calls Try.prog 53 #[dval x D, .slice a n c] w (DskPost (keptD D (markF ks)) w) := by
  have hmx : Try.prog.follows Departure.mixedOrders = true := by kernel_rfl
  obtain ⟨w0, hw0, b0, z0, x0, x1⟩ := two_boxes w (.slice x.ba D.1.length x.bc) (.slice x.wa D.2.length x.wc)
  obtain ⟨B, hB⟩ : ∃ B, w.heap.size = B := ⟨_, rfl⟩
  obtain ⟨E, hE⟩ : ∃ E, (keptD D (markF ks)).1 = E := ⟨_, rfl⟩
  have hel : E.length = 256 := by rw [← hE]; exact keptD_length _ _
  have h0 := h.step b0
  have hk0 := hk.step b0
  have hleft : ∀ W (k : Nat), Below w0.heap.size w0 W → k < 256 → Calls Try.prog 65 #[dval x D, .slice a n c, .int .i64 k] W (OwnS (leftD D (markF ks) k) W) := fun W k hW hk' =>
    rdLeft_any x D a n c ks k W (h0.step hW) (hk0.step hW) hn (by rw [hm.1.1]; exact hk') (by rw [leftD_length hm _ hk']; omega)
  have hll : ∀ k, k < 256 → (leftD D (markF ks) k).length = 256 := fun k hk' => leftD_length hm _ hk'
  have htk : ∀ k, k < 256 → E.take (k + 1) = E.take k ++ [leftD D (markF ks) k] := fun k hk' => by rw [← hE]; exact take_kept hk'
  have hkeep : keptD D (markF ks) = (E, []) := by rw [← hE]; rfl
  rw [hkeep]
  simp only [dval] at hleft ⊢
  obtain ⟨d1, hd1⟩ : ∃ d1, D.1.length = d1 := ⟨_, rfl⟩
  obtain ⟨d2, hd2⟩ : ∃ d2, D.2.length = d2 := ⟨_, rfl⟩
  rw [hd1, hd2] at hleft hw0 x0 ⊢
  rw [hB] at x0 x1 z0 b0
  have HL := Lib.hid hleft
  have HLL := Lib.hid hll
  have HTK := Lib.hid htk
  have HEL := Lib.hid hel
  have HX0 := Lib.hid x0
  have HX1 := Lib.hid x1
  have HB := Lib.hid b0
  have HZ := Lib.hid z0
  have HBB := Lib.hid hB
  clear hleft hll htk hel x0 x1 b0 z0 h0 hk0 h hk hn hm hkeep hE hd1 hd2
  go_enter Try.func53, Try.ntmps53
  go_wp2_with fail
  clear hw0 hB
  have HB0 := Lib.hid HB.out
  have hx2 := Blk.new w0 25 #[.slice none 0 0, .slice none 0 0]
  rw [HZ.out] at hx2
  have hB3 := HB.out.alloc (by have := HZ.out; omega) (.cells #[.slice none 0 0, .slice none 0 0] 25)
  have hZ3 : (w0.alloc (.cells #[.slice none 0 0, .slice none 0 0] 25)).heap.size = B + 3 := by rw [World.size_alloc, HZ.out]
  have hx0 := HX0.out.alloc (.cells #[.slice none 0 0, .slice none 0 0] 25)
  have hx1 := HX1.out.alloc (.cells #[.slice none 0 0, .slice none 0 0] 25)
  have hb3 : Below w0.heap.size w0 (w0.alloc (.cells #[.slice none 0 0, .slice none 0 0] 25)) := (Below.refl _ _).alloc (Nat.le_refl _) _
  obtain ⟨w1, hw1⟩ : ∃ w1, w0.alloc (.cells #[.slice none 0 0, .slice none 0 0] 25) = w1 := ⟨_, rfl⟩
  rw [hw1] at hx2 hB3 hZ3 hx0 hx1 hb3 ⊢
  clear hw1
  rw [HZ.out] at hb3 ⊢
  have HX0 := Lib.hid hx0
  have HX1 := Lib.hid hx1
  have HX2 := Lib.hid hx2
  have HB := Lib.hid hB3
  have HB3 := Lib.hid hb3
  clear hx2 hB3 hZ3 hx0 hx1 hb3
  go_loopw [6] (fun i wr => ∃ (k : Nat) (v : Value), k ≤ 256 ∧ i = .int .i64 k ∧ Hid (BRowC wr 0 (B + 1) v (E.take k)) ∧ Hid (Blk wr (B + 2) 25 #[v, .slice none 0 0]) ∧ Hid (Blk wr B 25 #[.slice x.ba d1 x.bc, .slice x.wa d2 x.wc]) ∧ Hid (Blk wr (B + 1) 25 #[.slice none 0 0, .slice none 0 0]) ∧ Hid (Below (B + 2) w0 wr)) (fun i _ => 256 - (intOf i).toNat)
  case atStart => exact ⟨0, _, Nat.zero_le _, rfl, Lib.hid (by rw [List.take_zero]; exact brow_nil _ _), HX2, HX0, HX1, HB3⟩
  case round =>
    obtain ⟨k, v, hk, rfl, HRr, HGr, H0r, H1r, HBr⟩ := hrel
    clear HX0 HX1 HX2 HB3
    have i0 : (0 : Int) ≤ k := by omega
    by_cases hlt : k < 256
    · have i1 : (k : Int) < 256 := by omega
      obtain ⟨wd, hwd⟩ : ∃ wd, wr.drew = wd := ⟨_, rfl⟩
      have bd : Below wr.heap.size wr wd := by rw [← hwd]; exact (Below.refl _ wr).drew
      have hGd := HGr.out.below bd HGr.out.lt
      have h0d := H0r.out.below bd H0r.out.lt
      have h1d := H1r.out.below bd H1r.out.lt
      have hBd : Below (B + 2) w0 wd := by rw [← hwd]; exact HBr.out.drew
      have hRd := HRr.out.below bd
      obtain ⟨s, hs⟩ : ∃ s, leftD D (markF ks) k = s := ⟨_, rfl⟩
      have hsl : s.length = 256 := by rw [← hs]; exact HLL.out k hlt
      have hC := HL.out wd k (by rw [HZ.out]; exact hBd) hlt
      have hta := HTK.out k hlt
      rw [hs] at hC hta
      have HC := Lib.hid hC
      have HTA := Lib.hid hta
      have HSL := Lib.hid hsl
      have HSZ := Lib.hid (show B + 2 < wd.heap.size from hGd.lt)
      have g0 := hGd.cell 0
      have d0 := h0d.cell 0
      have d1 := h0d.cell 1
      have C0 := fun X (hX : Below wd.heap.size wd X) => (hX.cell (p := ⟨B + 2, 0, none⟩) (World.block_lt_of_cell? wd _ g0)).trans g0
      have C1 := fun X (hX : Below wd.heap.size wd X) => (hX.cell (p := ⟨B, 0, none⟩) (World.block_lt_of_cell? wd _ d0)).trans d0
      have C2 := fun X (hX : Below wd.heap.size wd X) => (hX.cell (p := ⟨B, 1, none⟩) (World.block_lt_of_cell? wd _ d1)).trans d1
      have hS : Below wd.heap.size wd wd := Below.refl _ _
      have HGd := Lib.hid hGd
      have H0d := Lib.hid h0d
      have H1d := Lib.hid h1d
      have HBd := Lib.hid hBd
      have HRd := Lib.hid hRd
      clear hGd h0d h1d hBd hRd hC hta hsl g0 d0 d1 HRr HGr H0r H1r HBr bd
      go_wp2_with fail
      refine wpS_start [0, 1, 2, 3, 4, 5, 6, 7, 8, 9] hmx rfl hwd ?_
      clear hwd
      iterate 5 (
        refine wpS_read (v := ?_) rfl (by kernel_rfl) (by kernel_rfl) (by kernel_rfl) (fun _ _ _ h => h) (.inl ⟨by rfl, ?_⟩) ?_
        rotate_left
        · intro X hX
          have hXa := C0 X (hX _ hS)
          have hXb := C1 X (hX _ hS)
          have hXc := C2 X (hX _ hS)
          clear hX
          go_simp
          with_reducible rfl
        try simp only [Act.put, List.setIfInBounds_toArray, List.set_cons_zero, List.set_cons_succ])
      clear C0 C1 C2 hS
      refine wpS_lone rfl (by kernel_rfl) (fun K hK => ?_)
      go_simp
      refine HC.out.mono ?_
      rintro e w2 ⟨v2, rfl, ho2, b2⟩
      obtain ⟨A2, c2, rfl⟩ := own_slice ho2
      refine hK _ _ (Stays.of_below b2) ?_
      clear hK K
      try simp only [Act.put, List.setIfInBounds_toArray, List.set_cons_zero, List.set_cons_succ]
      have b3 : Below w2.heap.size w2 (w2.alloc (.cells #[.slice A2 s.length c2] 30)) := (Below.refl _ _).alloc (Nat.le_refl _) _
      have b23 : Below wd.heap.size wd (w2.alloc (.cells #[.slice A2 s.length c2] 30)) := b2.trans (b3.mono b2.size)
      have HN3 := Lib.hid (Blk.new w2 30 #[.slice A2 s.length c2])
      have HS3 := Lib.hid ((BslO.own ho2 0).below b3)
      have HG3 := Lib.hid (HGd.out.below b23 HGd.out.lt)
      have H03 := Lib.hid (H0d.out.below b23 H0d.out.lt)
      have H13 := Lib.hid (H1d.out.below b23 H1d.out.lt)
      have HR3 := Lib.hid (HRd.out.below b23)
      have HB3 := Lib.hid (HBd.out.trans (b23.mono (Nat.le_of_lt HSZ.out)))
      have HST := Lib.hid (Stays.of_below b3)
      clear b3 b23 b2 ho2 HC HGd H0d H1d HRd HBd HL
      refine wpS_lone rfl (by kernel_rfl) (fun K hK => ?_)
      go_simp
      refine hK _ _ HST.out ?_
      clear hK K HST
      try simp only [Act.put, List.setIfInBounds_toArray, List.set_cons_zero, List.set_cons_succ]
      obtain ⟨w3, hw3⟩ : ∃ w3, w2.alloc (.cells #[.slice A2 s.length c2] 30) = w3 := ⟨_, rfl⟩
      rw [hw3] at HN3 HS3 HG3 H03 H13 HR3 HB3 ⊢
      clear hw3
      refine wpS_append_brow rfl (by kernel_rfl) (by kernel_rfl) rfl (.tmp 12) (.tmp 17) rfl (B + 1) (Nat.zero_le _) v (E.take k) rfl HR3.out A2 c2 s w2.heap.size rfl HN3.out HS3.out (by rw [List.length_take]; omega) (by have := HG3.out.lt; omega) ?_
      intro v4 w4 hr4 hg4 hty
      have hne : ∀ g t cs, Blk w3 g t cs → t ≠ 30 → w4.heap[g]? = w3.heap[g]? := fun g t cs hx ht => hg4.block g hx.lt fun e => by
        obtain ⟨_, t', cs', h1, h2⟩ := hty g e.symm
        exact hx.ne h1 (by rw [h2]; exact ht) rfl
      have hG4 : Blk w4 (B + 2) 25 #[v, .slice none 0 0] := (hne _ _ _ HG3.out (by decide)).trans HG3.out
      have h04 : Blk w4 B 25 #[.slice x.ba d1 x.bc, .slice x.wa d2 x.wc] := (hne _ _ _ H03.out (by decide)).trans H03.out
      have h14 : Blk w4 (B + 1) 25 #[.slice none 0 0, .slice none 0 0] := (hne _ _ _ H13.out (by decide)).trans H13.out
      have hB4 : Below (B + 2) w0 w4 := HB3.out.grown hg4 (by have := HG3.out.lt; omega) (fun g e => by
        obtain ⟨h1, t', cs', h2, h3⟩ := hty g e
        have h4 : g ≠ B + 1 := h2.ne H13.out (by rw [h3]; decide)
        omega)
      obtain ⟨A4, c4, rfl, _⟩ := hr4.bls
      obtain ⟨n4, hn4⟩ : ∃ n4, (E.take k ++ [s]).length = n4 := ⟨_, rfl⟩
      rw [hn4] at hr4 ⊢
      have hg5 : w4.grownBy (w4.setCell ⟨B + 2, 0, none⟩ (.slice A4 n4 c4)) (some (B + 2)) := only_setCell (World.grownBy.refl w4 _) (.inl rfl) _
      have HRF := Lib.hid (hr4.row hg5 (Nat.zero_le _) hG4 (by decide) (by decide))
      have HGF := Lib.hid (hG4.set_ 0 (.slice A4 n4 c4))
      have H0F := Lib.hid (h04.far (p := ⟨B + 2, 0, none⟩) (by show B ≠ B + 2; omega) (.slice A4 n4 c4))
      have H1F := Lib.hid (h14.far (p := ⟨B + 2, 0, none⟩) (by show B + 1 ≠ B + 2; omega) (.slice A4 n4 c4))
      have HBF := Lib.hid (hB4.setCell (p := ⟨B + 2, 0, none⟩) (Nat.le_refl _) (.slice A4 n4 c4))
      have hu3 := hG4.cell 0
      have hf3 := hG4.frozen 0
      clear hne hG4 h04 h14 hB4 hr4 hg4 hty hg5 HB3 HR3 H13 H03 HG3 HS3 HN3
      try simp only [Act.put, List.setIfInBounds_toArray, List.set_cons_zero, List.set_cons_succ]
      refine wpS_read (v := ?_) rfl (by kernel_rfl) (by kernel_rfl) (by kernel_rfl) (fun _ _ _ h => h) (.inl ⟨by rfl, ?_⟩) ?_
      rotate_left
      · intro X hX
        clear hX
        go_simp
        with_reducible rfl
      try simp only [Act.put, List.setIfInBounds_toArray, List.set_cons_zero, List.set_cons_succ]
      refine wpS_last rfl (by kernel_rfl) (by kernel_rfl) (fun K hK => ?_)
      go_simp
      refine hK _ _ ?_
      clear hK K
      try simp only [Act.put, List.setIfInBounds_toArray, List.set_cons_zero, List.set_cons_succ]
      refine wpS_done (by kernel_rfl) ?_
      go_wp2_with fail
      go_roundw
      case rel => exact ⟨k + 1, _, by omega, by go_num, Lib.hid (by rw [HTA.out]; exact HRF.out), HGF, H0F, H1F, HBF⟩
      case measure => simp [intOf]; omega
    · obtain rfl : k = 256 := by omega
      have hte : E.take 256 = E := List.take_of_length_le (by rw [HEL.out]; exact Nat.le_refl _)
      have hr := HRr.out
      rw [hte] at hr
      obtain ⟨A4, c4, rfl, hbl⟩ := hr.bls
      rw [HEL.out] at HGr hbl
      have t1 := HGr.out.cell 0
      have t2 := HGr.out.cell 1
      have hR := H1r.out
      have r2 := hR.cell 0
      have r3 := hR.cell 1
      have hf0 := hR.frozen 0
      have hf1 := hR.frozen 1
      have gs := only_two wr (B + 1) (.slice A4 256 c4) (.slice none 0 0)
      have hfr := hr.row gs (Nat.zero_le _) hR (by decide) (by decide)
      have hbw : Below w.heap.size w wr := by rw [HBB.out]; exact (HB0.out.trans (HBr.out.mono (by omega)))
      have HFIN := Lib.hid hfr
      have HBF := Lib.hid ((hbw.setCell (p := ⟨B + 1, 0, none⟩) (by show w.heap.size ≤ B + 1; have := HBB.out; omega) (.slice A4 256 c4)).setCell (p := ⟨B + 1, 1, none⟩) (by show w.heap.size ≤ B + 1; have := HBB.out; omega) (.slice none 0 0))
      have HXR := Lib.hid ((hR.set_ 0 (.slice A4 256 c4)).set_ 1 (.slice none 0 0))
      clear hR HRr HGr H0r H1r HBr hbl hr hfr gs hbw
      go_wp2_with fail
      obtain ⟨wf, hwf⟩ : ∃ wf, ((wr.setCell ⟨B + 1, 0, none⟩ (.slice A4 256 c4)).setCell ⟨B + 1, 1, none⟩ (.slice none 0 0)) = wf := ⟨_, rfl⟩
      rw [hwf] at HFIN HBF HXR ⊢
      clear hwf t1 t2 r2 r3 hf0 hf1
      have e0 := HXR.out.cell 0
      have e1 := HXR.out.cell 1
      refine bodyPost_ret (v := .agg #[.slice A4 256 c4, .slice none 0 0]) (by simp [results, Try.f53, go_sem, e0, e1]) rfl ?_
      refine ⟨⟨A4, c4, none, 0⟩, ?_, rows_dskT (b2 := 0) (by have := HFIN.out; rw [HEL.out] at this; rw [HEL.out]; exact this) (wrow_nil _ _), HBF.out⟩
      rw [dval, HEL.out]
      rfl
end Go.Proofs.Ytgpojnhhcobcbaa
