/-
  The document's own Read of layer 14.
-/
import Derived.Test.YtennhempdnpobaaDoorRoB
import Derived.Test.YtennhempdnpobaaDoorPRow
import Derived.Test.YtennhempdnpobaaDoorIn
namespace Go.Proofs.YtennhempdnpobaaDoor
open Go.RowKit Go.Shelf
set_option maxRecDepth 100000

theorem outOb_no (c : Nat) {w w' : World} (hb : Below w.heap.size w w') : OutOb (ob0, c) w (.returned (.tuple #[.agg #[.int .u8 0, .int .i64 0, .int .i64 0, .slice none 0 0], .int .i64 c])) w' := ⟨_, rfl, prow_nil _ _, hb⟩
theorem slice_ob (W : World) (b off cap j : Nat) (h : j < 15) (hc : 256 ≤ cap) : (Instr.slice 28 (.slice (some ⟨b, off, none⟩) 256 cap) (some (.int .i64 (16 + 16 * (j : Int)))) (some (.int .i64 (32 + 16 * (j : Int)))) none).run Tryd.prog W = .ok (.slice (some ⟨b, off + (16 + 16 * j), none⟩) 16 (cap - (16 + 16 * j))) W := by
  have := slice_lh W b off 256 cap (16 + 16 * j) 16 (by omega) (by omega)
  rw [show ((16 + 16 * j : Nat) : Int) + (16 : Nat) = 32 + 16 * (j : Int) by omega, show ((16 + 16 * j : Nat) : Int) = 16 + 16 * (j : Int) by omega] at this
  exact this
theorem far4 {w : World} {g g' : Nat} {t : TypeId} {cs : Array Value} (h : Blk w g' t cs) (hne : g' ≠ g) (v0 v1 v2 v3 : Value) : Blk ((((w.setCell ⟨g, 0, none⟩ v0).setCell ⟨g, 1, none⟩ v1).setCell ⟨g, 2, none⟩ v2).setCell ⟨g, 3, none⟩ v3) g' t cs :=
  (((h.far (p := ⟨g, 0, none⟩) hne v0).far (p := ⟨g, 1, none⟩) hne v1).far (p := ⟨g, 2, none⟩) hne v2).far (p := ⟨g, 3, none⟩) hne v3
set_option maxHeartbeats 8000000 in
theorem roRead_any (a : Option Addr) (c : Nat) (b : List UInt8) (w : World) (hA : Bsl w w.heap.size a b.length c b) : Calls Tryd.prog 14 #[.slice a b.length c] w (OutOb (oreadO b) w) := by
  have hmx : Tryd.prog.follows Departure.mixedOrders = true := by kernel_rfl
  have hl9 := hA.len_le
  have l0 : (0 : Int) ≤ b.length := by omega
  have xb := Blk.new w 24 #[.int .u8 0, .int .i64 0, .int .i64 0, .slice none 0 0]
  have b0 := (Below.refl w.heap.size w).alloc (Nat.le_refl _) (.cells #[.int .u8 0, .int .i64 0, .int .i64 0, .slice none 0 0] 24)
  obtain ⟨w0, hw0⟩ : ∃ w0, w.alloc (.cells #[.int .u8 0, .int .i64 0, .int .i64 0, .slice none 0 0] 24) = w0 := ⟨_, rfl⟩
  have hz0 : w0.heap.size = w.heap.size + 1 := by rw [← hw0, World.size_alloc]
  rw [hw0] at xb b0
  obtain ⟨g, hg⟩ : ∃ g, w.heap.size = g := ⟨_, rfl⟩
  have HGE := Lib.hid (show w.heap.size ≤ g by omega)
  have HG0 := Lib.hid (show g < w0.heap.size by omega)
  rw [hg] at xb
  have HZ := Lib.hid xb
  have HB := Lib.hid b0
  have HA := Lib.hid hA
  clear xb b0 hA hz0
  by_cases h : b.length = 256
  · have HL := Lib.hid h
    have hA := HA.out
    rw [h] at hA ⊢
    obtain ⟨bb, off, rfl, hbb, _⟩ := hA.2.2.2.2 (by omega)
    have hcap := hA.2.1
    have k0 := hA.cellD 0 (by omega)
    have k1 := hA.cellD 1 (by omega)
    have k2 := hA.cellD 2 (by omega)
    have k3 := hA.cellD 3 (by omega)
    have y0 := (b.getD 0 0).toNat_lt
    have y1 := (b.getD 1 0).toNat_lt
    have y2 := (b.getD 2 0).toNat_lt
    have y3 := (b.getD 3 0).toNat_lt
    have hho : headOb b = ((b.getD 0 0).toNat, ((b.getD 1 0).toNat : Int), ((b.getD 2 0).toNat : Int) + 256 * ((b.getD 3 0).toNat : Int)) := rfl
    obtain ⟨x0, hx0⟩ : ∃ n, (b.getD 0 0).toNat = n := ⟨_, rfl⟩
    obtain ⟨x1, hx1⟩ : ∃ n, (b.getD 1 0).toNat = n := ⟨_, rfl⟩
    obtain ⟨x2, hx2⟩ : ∃ n, (b.getD 2 0).toNat = n := ⟨_, rfl⟩
    obtain ⟨x3, hx3⟩ : ∃ n, (b.getD 3 0).toNat = n := ⟨_, rfl⟩
    rw [hx0] at k0 y0 hho
    rw [hx1] at k1 y1 hho
    rw [hx2] at k2 y2 hho
    rw [hx3] at k3 y3 hho
    rw [Nat.add_zero] at k0
    have HHO := Lib.hid hho
    have HAA := Lib.hid hA
    have e1 : (((256 : Nat) : Int) != 256) = false := rfl
    have xu2 : (0 : Int) ≤ x2 := by omega
    have xu2' : (x2 : Int) ≤ 255 := by omega
    have xu3 : (0 : Int) ≤ x3 := by omega
    have xu3' : (x3 : Int) ≤ 255 := by omega
    have xu1' : (x1 : Int) ≤ 255 := by omega
    have v1_ : IntKind.i64.wrap (x1 : Int) = x1 := by rw [IntKind.wrap_i64]; omega
    have v2_ : IntKind.i64.wrap (x2 : Int) = x2 := by rw [IntKind.wrap_i64]; omega
    have v3_ : IntKind.i64.wrap (x3 : Int) = x3 := by rw [IntKind.wrap_i64]; omega
    have v4_ : IntKind.i64.wrap (256 * (x3 : Int)) = 256 * (x3 : Int) := by rw [IntKind.wrap_i64]; omega
    have v5_ : IntKind.i64.wrap ((x2 : Int) + 256 * (x3 : Int)) = (x2 : Int) + 256 * (x3 : Int) := by rw [IntKind.wrap_i64]; omega
    have HK := Lib.hid (And.intro k0 (And.intro k1 (And.intro k2 k3)))
    clear h HA hA hho hx0 hx1 hx2 hx3 k0 k1 k2 k3 y0 y1 y2 y3
    go_enter Tryd.func14, Tryd.ntmps14
    go_wp2_with fail
    try rw [hw0]
    try rw [hg]
    obtain ⟨wd, hwd⟩ : ∃ wd, w0.drew = wd := ⟨_, rfl⟩
    have bb0 : Below w0.heap.size w0 wd := by rw [← hwd]; exact (Below.refl _ w0).drew
    replace HZ := Lib.hid (HZ.out.below bb0 HZ.out.lt)
    replace HB := Lib.hid (HB.out.trans (bb0.mono HB.out.size))
    have HGD := Lib.hid (Nat.lt_of_lt_of_le HG0.out bb0.size)
    have bw : Below w.heap.size w wd := HB.out
    have C0 := fun X (hX : Below wd.heap.size wd X) => ((bw.trans (hX.mono bw.size)).cell (p := ⟨bb, off, none⟩) hbb).trans HK.out.1
    have C1 := fun X (hX : Below wd.heap.size wd X) => ((bw.trans (hX.mono bw.size)).cell (p := ⟨bb, off + 1, none⟩) hbb).trans HK.out.2.1
    have C2 := fun X (hX : Below wd.heap.size wd X) => ((bw.trans (hX.mono bw.size)).cell (p := ⟨bb, off + 2, none⟩) hbb).trans HK.out.2.2.1
    have C3 := fun X (hX : Below wd.heap.size wd X) => ((bw.trans (hX.mono bw.size)).cell (p := ⟨bb, off + 3, none⟩) hbb).trans HK.out.2.2.2
    have hwd0 := Below.refl wd.heap.size wd
    refine wpI_start (Below wd.heap.size wd) [0, 1, 2, 3, 4, 5, 6, 7, 8, 9, 10, 11, 12, 13, 14, 15, 16, 17, 18, 19] hmx rfl hwd ?_
    clear hwd bb0 hw0 hg bw
    iterate 18 (
      refine wpI_read (v := ?_) hwd0 rfl (by kernel_rfl) (by kernel_rfl) (by kernel_rfl) (fun _ _ _ h => h) (.inl ⟨by rfl, ?_⟩) ?_
      rotate_left
      · intro X hX
        have j0 := C0 X hX
        have j1 := C1 X hX
        have j2 := C2 X hX
        have j3 := C3 X hX
        clear hX
        go_simp
        with_reducible rfl
      try simp only [Act.put, List.setIfInBounds_toArray, List.set_cons_zero, List.set_cons_succ])
    clear C0 C1 C2 C3 HK e1 l0 hl9 v1_ v2_ v3_ v4_ v5_ xu1'
    refine wpI_lone rfl (by kernel_rfl) (fun K hK => ?_)
    go_simp
    have bq := (Below.refl wd.heap.size wd).alloc (Nat.le_refl _) (.cells #[.int .u8 0, .int .i64 0, .int .i64 0, .slice none 0 0] 24)
    have hx := Blk.new wd 24 #[.int .u8 0, .int .i64 0, .int .i64 0, .slice none 0 0]
    obtain ⟨w1, hn⟩ : ∃ X, wd.alloc (.cells #[.int .u8 0, .int .i64 0, .int .i64 0, .slice none 0 0] 24) = X := ⟨_, rfl⟩
    obtain ⟨g4, hg4⟩ : ∃ X, wd.heap.size = X := ⟨_, rfl⟩
    have hz1 : w1.heap.size = wd.heap.size + 1 := by rw [← hn, World.size_alloc]
    rw [hn] at bq hx ⊢
    have hsb := bq
    rw [hg4] at hx ⊢
    have HG4 := Lib.hid (show g < g4 ∧ w.heap.size ≤ g4 ∧ g4 < w1.heap.size by have := HGD.out; have := HGE.out; omega)
    replace HZ := Lib.hid (HZ.out.below bq HZ.out.lt)
    replace HB := Lib.hid (HB.out.trans (bq.mono HB.out.size))
    refine hK _ _ hsb ?_
    clear hK K hn hwd0 bq hz1
    try simp only [Act.put, List.setIfInBounds_toArray, List.set_cons_zero, List.set_cons_succ]
    refine wpI_lone rfl (by kernel_rfl) (fun K hK => ?_)
    have m0 := ox0 hx
    have m1 := ox1 hx
    have m2 := ox2 hx
    have m3 := ox3 hx
    have hfz := fun i => hx.frozen i
    have xo := hx.set4 (.int .u8 (x0 : Int)) (.int .i64 (x1 : Int)) (.int .i64 ((x2 : Int) + 256 * (x3 : Int))) (.slice none 0 0)
    have bo := below_set4 hsb (Nat.le_of_eq hg4) (.int .u8 (x0 : Int)) (.int .i64 (x1 : Int)) (.int .i64 ((x2 : Int) + 256 * (x3 : Int))) (.slice none 0 0)
    have bB := below_set4 HB.out HG4.out.2.1 (.int .u8 (x0 : Int)) (.int .i64 (x1 : Int)) (.int .i64 ((x2 : Int) + 256 * (x3 : Int))) (.slice none 0 0)
    have hfar := far4 HZ.out (show g ≠ g4 by have := HG4.out.1; omega) (.int .u8 (x0 : Int)) (.int .i64 (x1 : Int)) (.int .i64 ((x2 : Int) + 256 * (x3 : Int))) (.slice none 0 0)
    obtain ⟨w2, hn⟩ : ∃ X, (((w1.setCell ⟨g4, 0, none⟩ (.int .u8 (x0 : Int))).setCell ⟨g4, 1, none⟩ (.int .i64 (x1 : Int))).setCell ⟨g4, 2, none⟩ (.int .i64 ((x2 : Int) + 256 * (x3 : Int)))).setCell ⟨g4, 3, none⟩ (.slice none 0 0) = X := ⟨_, rfl⟩
    have hz2 : w2.heap.size = w1.heap.size := by rw [← hn]; simp [World.setCell]
    rw [hn] at xo bo bB hfar
    go_simp
    refine hK _ _ bo ?_
    have HX := Lib.hid xo
    replace HZ := Lib.hid hfar
    replace HB := Lib.hid bB
    have HB2 := Lib.hid (show g4 < w2.heap.size by rw [hz2]; exact HG4.out.2.2)
    clear hK K hn hx hsb xo bo bB hfar hfz m0 m1 m2 m3 hz2 hg4 HGD HG0
    try simp only [Act.put, List.setIfInBounds_toArray, List.set_cons_zero, List.set_cons_succ]
    refine wpI_done (by kernel_rfl) ?_
    go_wp2_with fail
    go_loopw [5] (fun i wr => ∃ (j : Nat) (v : Value), j ≤ 15 ∧ i = .int .i64 j ∧ (∀ t, t < j → MayP (getP (winOb b t))) ∧ Blk wr g4 24 #[.int .u8 (x0 : Int), .int .i64 (x1 : Int), .int .i64 ((x2 : Int) + 256 * (x3 : Int)), v] ∧ Blk wr g 24 #[.int .u8 0, .int .i64 0, .int .i64 0, .slice none 0 0] ∧ PRow wr w2.heap.size v (ptsOb b j) ∧ w2.heap.size ≤ wr.heap.size ∧ Below w.heap.size w wr) (fun i _ => 15 - (intOf i).toNat)
    case atStart => exact ⟨0, _, Nat.zero_le _, rfl, fun t ht => absurd ht (Nat.not_lt_zero _), HX.out, HZ.out, prow_nil _ _, Nat.le_refl _, HB.out⟩
    case round =>
      clear HX HZ HB xu2 xu2' xu3 xu3'
      obtain ⟨j, v, hj, rfl, hmay, hx, hz, hrow, hsz, hb⟩ := hrel
      have j0 : (0 : Int) ≤ j := by omega
      have HX := Lib.hid hx
      have HZ := Lib.hid hz
      have HR := Lib.hid hrow
      have HS := Lib.hid hsz
      have HB := Lib.hid hb
      have HM := Lib.hid hmay
      clear hmay hx hz hrow hsz hb
      by_cases hlt : j < 15
      · have j1 : (j : Int) < 15 := by omega
        have hsl := fun W => slice_ob W bb off c j hlt hcap
        have hbw := ((HAA.out.below HB.out).more HB.out.size).win (16 + 16 * j) 16 (by omega)
        have hrd := rpRead_any _ 16 _ _ wr hbw
        have hlen : ((b.drop (16 + 16 * j)).take 16).length = 16 := win_length (by have := HL.out; omega)
        rw [preadO, if_pos hlen] at hrd
        rw [show (b.drop (16 + 16 * j)).take 16 = winOb b j from rfl] at hrd
        have hst := ptsOb_step b j
        have hwf := wf_getP (winOb b j)
        obtain ⟨P, hP⟩ : ∃ P, getP (winOb b j) = P := ⟨_, rfl⟩
        rw [hP] at hrd hst hwf
        have HST := Lib.hid hst
        have HPE := Lib.hid hP
        have HWF := Lib.hid hwf
        have HPL := Lib.hid (ptsOb_length b j)
        clear hst hP hwf hlen hbw
        by_cases hm : MayP P
        · rw [if_pos hm] at hrd
          have HMP := Lib.hid hm
          clear hm
          obtain ⟨a', b', c', d', e'⟩ := P
          have HRD := Lib.hid hrd
          clear hrd
          go_wp2_with (first
            | (go_at_call 30
               refine HRD.out.mono ?_
               rintro ev w1 ⟨rfl, b1⟩
               have bx := (Below.refl w1.heap.size w1).alloc (Nat.le_refl _) (.cells (ptC (a', b', c', d', e')).toArray 42)
               have by_ := bx.alloc bx.size (.cells (ptC (a', b', c', d', e')).toArray 42)
               have bz := b1.trans (by_.mono b1.size)
               have HB1 := Lib.hid (HB.out.trans (bz.mono HB.out.size))
               have HO1 := Lib.hid (HR.out.below bz)
               have HX1 := Lib.hid (HX.out.below bz HX.out.lt)
               have HZ1 := Lib.hid (HZ.out.below bz HZ.out.lt)
               have HS1 := Lib.hid (Nat.le_trans HS.out bz.size)
               have hpt := one_pts (w1.alloc (.cells (ptC (a', b', c', d', e')).toArray 42)) (a', b', c', d', e') HWF.out
               rw [World.size_alloc, World.size_alloc] at hpt
               have HPT := Lib.hid hpt
               have hx1 := HX.out.below b1 HX.out.lt
               have c3 : ∀ o : Obj, (w1.alloc o).cell? ⟨g4, 3, none⟩ = some v := fun o => ox3 (hx1.below ((Below.refl w1.heap.size w1).alloc (Nat.le_refl _) o) hx1.lt)
               clear hx1
               clear hpt
               clear b1 bx by_ bz)
            | (at_builtin
               refine wpList_append_prow rfl (.tmp 50) (.tmp 52) rfl w2.heap.size v _ rfl HO1.out _ _ 1 1 [(a', b', c', d', e')] rfl HPT.out (by rw [HPL.out]; omega) HS1.out ?_
               intro v2 w4 h2 hg2
               rw [← HST.out] at h2
               obtain ⟨av2, cv2, rfl, _⟩ := h2.pts
               have hb4 := app_below (Below.refl w2.heap.size _) HO1.out.1 hg2 HS1.out
               have hx4 := HX1.out.below hb4 (show g4 < w2.heap.size from HB2.out)
               have hz4 := HZ1.out.below hb4 (show g < w2.heap.size by have := HB2.out; have := HG4.out.1; omega)
               have hf4 := fun i => hx4.frozen i
               have c3' := ox3 hx4
               have hb4' := HB1.out.trans (hb4.mono (show w.heap.size ≤ w2.heap.size by have := HB2.out; have := HG4.out.2.1; omega))
               have HB5 := Lib.hid (hb4'.setCell (p := ⟨g4, 3, none⟩) HG4.out.2.1 (.slice av2 (ptsOb b (j + 1)).length cv2))
               have HX5 := Lib.hid (show Blk (w4.setCell ⟨g4, 3, none⟩ (.slice av2 (ptsOb b (j + 1)).length cv2)) g4 24 #[.int .u8 (x0 : Int), .int .i64 (x1 : Int), .int .i64 ((x2 : Int) + 256 * (x3 : Int)), .slice av2 (ptsOb b (j + 1)).length cv2] from hx4.set_ 3 (.slice av2 (ptsOb b (j + 1)).length cv2))
               have HZ5 := Lib.hid (hz4.far (p := ⟨g4, 3, none⟩) (show g ≠ g4 by have := HG4.out.1; omega) (.slice av2 (ptsOb b (j + 1)).length cv2))
               have HR5 := Lib.hid (h2.own (only_setCell (World.grownBy.refl w4 (some g4)) (p := ⟨g4, 3, none⟩) (.inl rfl) (.slice av2 (ptsOb b (j + 1)).length cv2)) (fun k hk e => by have h1 := (h2.1.lt k hk).1; have h3 := HB2.out; omega))
               have HS5 := Lib.hid (show w2.heap.size ≤ (w4.setCell ⟨g4, 3, none⟩ (.slice av2 (ptsOb b (j + 1)).length cv2)).heap.size from Nat.le_trans HS1.out (Nat.le_trans hb4.size (by simp [World.setCell])))
               clear h2 hg2 hb4 hx4 hz4 hb4'))
          go_roundw
          case rel =>
            refine ⟨j + 1, _, by omega, by go_num, fun t ht => ?_, HX5.out, HZ5.out, HR5.out, HS5.out, HB5.out⟩
            by_cases e : t = j
            · subst e
              rw [HPE.out]
              exact HMP.out
            · exact HM.out t (by omega)
          case measure => simp [intOf]; omega
        · rw [if_neg hm] at hrd
          have hno : oreadO b = (ob0, 8) := by
            unfold oreadO
            rw [if_pos HL.out, if_neg]
            rintro ⟨⟨_, hall⟩, _⟩
            refine hm ?_
            rw [← HPE.out]
            exact hall _ (List.mem_map.2 ⟨j, List.mem_range.2 hlt, rfl⟩)
          rw [hno]
          clear hm hno
          have HRD := Lib.hid hrd
          clear hrd
          go_wp2_with fail
          refine HRD.out.mono ?_
          rintro ev w1 ⟨rfl, b1⟩
          have bx := (Below.refl w1.heap.size w1).alloc (Nat.le_refl _) (.cells #[.int .i64 0, .int .u32 0, .int .u32 0, .int .u32 0, .int .u32 0] 42)
          have bz := b1.trans (bx.mono b1.size)
          have hz5 := HZ.out.below bz HZ.out.lt
          have hb5 := HB.out.trans (bz.mono HB.out.size)
          have m0 := ox0 hz5
          have m1 := ox1 hz5
          have m2 := ox2 hz5
          have m3 := ox3 hz5
          have hfz := fun i => hz5.frozen i
          have xz := hz5.set4 (.int .u8 0) (.int .i64 0) (.int .i64 0) (.slice none 0 0)
          have bz5 := below_set4 hb5 HGE.out (.int .u8 0) (.int .i64 0) (.int .i64 0) (.slice none 0 0)
          obtain ⟨wz, hwz⟩ : ∃ X, ((((w1.alloc (.cells #[.int .i64 0, .int .u32 0, .int .u32 0, .int .u32 0, .int .u32 0] 42)).setCell ⟨g, 0, none⟩ (.int .u8 0)).setCell ⟨g, 1, none⟩ (.int .i64 0)).setCell ⟨g, 2, none⟩ (.int .i64 0)).setCell ⟨g, 3, none⟩ (.slice none 0 0) = X := ⟨_, rfl⟩
          rw [hwz] at xz bz5
          have HXZ := Lib.hid xz
          have HBZ := Lib.hid bz5
          clear b1 bx bz hz5 hb5 xz bz5
          go_wp2_with fail
          clear m0 m1 m2 m3 hfz hwz
          have e0 := ox0 HXZ.out
          have e1 := ox1 HXZ.out
          have e2 := ox2 HXZ.out
          have e3 := ox3 HXZ.out
          refine bodyPost_ret (v := .tuple #[.agg #[.int .u8 0, .int .i64 0, .int .i64 0, .slice none 0 0], .int .i64 8]) (by simp [results, Tryd.f14, go_sem, e0, e1, e2, e3]) rfl ?_
          exact outOb_no 8 HBZ.out
      · obtain rfl : j = 15 := by omega
        clear hlt hj HM
        obtain ⟨av, cv, rfl, hpts⟩ := HR.out.pts
        have hxo : Blk wr g4 24 (obC av cv (decOb b)) := by
          have := HX.out
          unfold decOb
          rw [HHO.out]
          exact this
        have hro : PRow wr w2.heap.size (.slice av (decOb b).2.2.2.length cv) (decOb b).2.2.2 := HR.out
        have hpo : Pts wr wr.heap.size av (decOb b).2.2.2.length cv (decOb b).2.2.2 := hpts
        have hwo := decOb_wf b
        have hor : ∀ (h : MayOb (decOb b) ∧ blockOb (decOb b) = b), oreadO b = (decOb b, 0) := fun h => by unfold oreadO; rw [if_pos HL.out, if_pos h]
        have hon : ∀ (h : ¬ (MayOb (decOb b) ∧ blockOb (decOb b) = b)), oreadO b = (ob0, 8) := fun h => by unfold oreadO; rw [if_pos HL.out, if_neg h]
        rw [show (.slice av (ptsOb b 15).length cv : Value) = .slice av (decOb b).2.2.2.length cv from rfl] at HR
        obtain ⟨O, hO⟩ : ∃ O, decOb b = O := ⟨_, rfl⟩
        rw [hO] at hxo hro hpo hwo hor hon
        have HX' := Lib.hid hxo
        have HRO := Lib.hid hro
        have HPO := Lib.hid hpo
        have HOR := Lib.hid hor
        have HON := Lib.hid hon
        clear hpts hxo hro hpo hor hon hO HX HR
        go_wp2_with fail
        obtain ⟨wd, hwd⟩ : ∃ X, wr.drew = X := ⟨_, rfl⟩
        have bb0 : Below wr.heap.size wr wd := by rw [← hwd]; exact (Below.refl _ wr).drew
        replace HX' := Lib.hid (HX'.out.below bb0 HX'.out.lt)
        replace HRO := Lib.hid (HRO.out.below bb0)
        replace HPO := Lib.hid (HPO.out.step bb0)
        replace HZ := Lib.hid (HZ.out.below bb0 HZ.out.lt)
        replace HB := Lib.hid (HB.out.trans (bb0.mono HB.out.size))
        have hs0 := And.intro HX'.out HB.out
        refine wpI_start (fun X => Blk X g4 24 (obC av cv O) ∧ Below w.heap.size w X) [0, 1, 2, 3, 4, 7, 8, 5, 6, 9, 10] hmx rfl hwd ?_
        clear hwd bb0
        iterate 1 (
          refine wpI_read (v := ?_) hs0 rfl (by kernel_rfl) (by kernel_rfl) (by kernel_rfl) (fun _ _ _ h => h) (.inl ⟨by rfl, ?_⟩) ?_
          rotate_left
          · intro X hX
            obtain ⟨hx, hb⟩ := hX
            have j0 := ox0 hx
            have j1 := ox1 hx
            have j2 := ox2 hx
            have j3 := ox3 hx
            have jc := Bsl.conv (Bsl.below HAA.out hb)
            clear hx hb
            go_simp
            with_reducible rfl
          try simp only [Act.put, List.setIfInBounds_toArray, List.set_cons_zero, List.set_cons_succ])
        by_cases hm : MayOb O
        · have HC := Lib.hid (roMay_any av cv O wd HPO.out hwo true ⟨fun _ => hm, fun _ => rfl⟩)
          refine wpI_lone rfl (by kernel_rfl) (fun K hK => ?_)
          go_simp
          refine HC.out.mono ?_
          rintro ev w5 ⟨rfl, b1⟩
          replace HX' := Lib.hid (HX'.out.below b1 HX'.out.lt)
          replace HRO := Lib.hid (HRO.out.below b1)
          replace HPO := Lib.hid (HPO.out.step b1)
          replace HZ := Lib.hid (HZ.out.below b1 HZ.out.lt)
          replace HB := Lib.hid (HB.out.trans (b1.mono HB.out.size))
          have hs1 := And.intro HX'.out HB.out
          refine hK _ _ hs1 ?_
          clear hK K hs0 b1 HC
          try simp only [Act.put, List.setIfInBounds_toArray, List.set_cons_zero, List.set_cons_succ]
          iterate 5 (
            refine wpI_read (v := ?_) hs1 rfl (by kernel_rfl) (by kernel_rfl) (by kernel_rfl) (fun _ _ _ h => h) (.inl ⟨by rfl, ?_⟩) ?_
            rotate_left
            · intro X hX
              obtain ⟨hx, hb⟩ := hX
              have j0 := ox0 hx
              have j1 := ox1 hx
              have j2 := ox2 hx
              have j3 := ox3 hx
              have jc := Bsl.conv (Bsl.below HAA.out hb)
              clear hx hb
              go_simp
              with_reducible rfl
            try simp only [Act.put, List.setIfInBounds_toArray, List.set_cons_zero, List.set_cons_succ])
          have HC := Lib.hid (roBlock_any av cv O w5 HPO.out hm)
          refine wpI_lone rfl (by kernel_rfl) (fun K hK => ?_)
          go_simp
          refine HC.out.mono ?_
          rintro ev w6 ⟨vb, rfl, ho, b1⟩
          obtain ⟨ab, cb, rfl⟩ := own_slice ho
          replace HX' := Lib.hid (HX'.out.below b1 HX'.out.lt)
          replace HRO := Lib.hid (HRO.out.below b1)
          replace HPO := Lib.hid (HPO.out.step b1)
          replace HZ := Lib.hid (HZ.out.below b1 HZ.out.lt)
          replace HB := Lib.hid (HB.out.trans (b1.mono HB.out.size))
          have hs2 := And.intro HX'.out HB.out
          refine hK _ _ hs2 ?_
          clear hK K hs1 b1 HC
          try simp only [Act.put, List.setIfInBounds_toArray, List.set_cons_zero, List.set_cons_succ]
          refine wpI_lone rfl (by kernel_rfl) (fun K hK => ?_)
          have V1 := (own_bsl ho).conv
          go_simp
          refine hK _ _ hs2 ?_
          clear hK K V1 ho
          try simp only [Act.put, List.setIfInBounds_toArray, List.set_cons_zero, List.set_cons_succ]
          by_cases hbe : blockOb O = b
          · have HOQ := Lib.hid (HOR.out ⟨hm, hbe⟩)
            have e2 : ((strOf (blockOb O)).toList == (strOf b).toList) = true := by rw [hbe]; simp
            clear hbe hm
            iterate 2 (
              refine wpI_read (v := ?_) hs2 rfl (by kernel_rfl) (by kernel_rfl) (by kernel_rfl) (fun _ _ _ h => h) (.inl ⟨by rfl, ?_⟩) ?_
              rotate_left
              · intro X hX
                obtain ⟨hx, hb⟩ := hX
                have j0 := ox0 hx
                have j1 := ox1 hx
                have j2 := ox2 hx
                have j3 := ox3 hx
                have jc := Bsl.conv (Bsl.below HAA.out hb)
                clear hx hb
                go_simp
                with_reducible rfl
              try simp only [Act.put, List.setIfInBounds_toArray, List.set_cons_zero, List.set_cons_succ])
            refine wpI_done (by kernel_rfl) ?_
            clear hs2 e2
            have m0 := ox0 HZ.out
            have m1 := ox1 HZ.out
            have m2 := ox2 HZ.out
            have m3 := ox3 HZ.out
            have hfz := fun i => HZ.out.frozen i
            have n0 := ox0 HX'.out
            have n1 := ox1 HX'.out
            have n2 := ox2 HX'.out
            have n3 := ox3 HX'.out
            have xz := HZ.out.set4 (.int .u8 (O.1 : Int)) (.int .i64 O.2.1) (.int .i64 O.2.2.1) (.slice av O.2.2.2.length cv)
            have bz := below_set4 HB.out HGE.out (.int .u8 (O.1 : Int)) (.int .i64 O.2.1) (.int .i64 O.2.2.1) (.slice av O.2.2.2.length cv)
            have hr := HRO.out.own (only_set4 (World.grownBy.refl w6 (some g)) (.int .u8 (O.1 : Int)) (.int .i64 O.2.1) (.int .i64 O.2.2.1) (.slice av O.2.2.2.length cv)) (fun k hk e => by have h1 := (HRO.out.1.lt k hk).1; have h3 := HB2.out; have := HG4.out.1; omega)
            obtain ⟨wz, hwz⟩ : ∃ X, (((w6.setCell ⟨g, 0, none⟩ (.int .u8 (O.1 : Int))).setCell ⟨g, 1, none⟩ (.int .i64 O.2.1)).setCell ⟨g, 2, none⟩ (.int .i64 O.2.2.1)).setCell ⟨g, 3, none⟩ (.slice av O.2.2.2.length cv) = X := ⟨_, rfl⟩
            rw [hwz] at xz bz hr
            have HXZ := Lib.hid xz
            have HBZ := Lib.hid bz
            have HRZ := Lib.hid hr
            clear xz bz hr
            go_wp2_with fail
            clear m0 m1 m2 m3 n0 n1 n2 n3 hfz hwz
            have e0 := ox0 HXZ.out
            have e1 := ox1 HXZ.out
            have e2 := ox2 HXZ.out
            have e3 := ox3 HXZ.out
            refine bodyPost_ret (v := .tuple #[.agg #[.int .u8 (O.1 : Int), .int .i64 O.2.1, .int .i64 O.2.2.1, .slice av O.2.2.2.length cv], .int .i64 0]) (by simp [results, Tryd.f14, go_sem, e0, e1, e2, e3]) rfl ?_
            rw [HOQ.out]
            exact ⟨_, rfl, HRZ.out.mono (show w.heap.size ≤ w2.heap.size by have := HB2.out; have := HG4.out.2.1; omega), HBZ.out⟩
          · have HOQ := Lib.hid (HON.out (fun h => hbe h.2))
            have e2 : ((strOf (blockOb O)).toList == (strOf b).toList) = false := by simp [strOf_toList, hbe]
            clear hbe hm
            iterate 2 (
              refine wpI_read (v := ?_) hs2 rfl (by kernel_rfl) (by kernel_rfl) (by kernel_rfl) (fun _ _ _ h => h) (.inl ⟨by rfl, ?_⟩) ?_
              rotate_left
              · intro X hX
                obtain ⟨hx, hb⟩ := hX
                have j0 := ox0 hx
                have j1 := ox1 hx
                have j2 := ox2 hx
                have j3 := ox3 hx
                have jc := Bsl.conv (Bsl.below HAA.out hb)
                clear hx hb
                go_simp
                with_reducible rfl
              try simp only [Act.put, List.setIfInBounds_toArray, List.set_cons_zero, List.set_cons_succ])
            refine wpI_done (by kernel_rfl) ?_
            clear hs2 e2
            have m0 := ox0 HZ.out
            have m1 := ox1 HZ.out
            have m2 := ox2 HZ.out
            have m3 := ox3 HZ.out
            have hfz := fun i => HZ.out.frozen i
            have xz := HZ.out.set4 (.int .u8 0) (.int .i64 0) (.int .i64 0) (.slice none 0 0)
            have bz := below_set4 HB.out HGE.out (.int .u8 0) (.int .i64 0) (.int .i64 0) (.slice none 0 0)
            obtain ⟨wz, hwz⟩ : ∃ X, (((w6.setCell ⟨g, 0, none⟩ (.int .u8 0)).setCell ⟨g, 1, none⟩ (.int .i64 0)).setCell ⟨g, 2, none⟩ (.int .i64 0)).setCell ⟨g, 3, none⟩ (.slice none 0 0) = X := ⟨_, rfl⟩
            rw [hwz] at xz bz
            have HXZ := Lib.hid xz
            have HBZ := Lib.hid bz
            clear xz bz
            go_wp2_with fail
            clear m0 m1 m2 m3 hfz hwz
            have e0 := ox0 HXZ.out
            have e1 := ox1 HXZ.out
            have e2 := ox2 HXZ.out
            have e3 := ox3 HXZ.out
            refine bodyPost_ret (v := .tuple #[.agg #[.int .u8 0, .int .i64 0, .int .i64 0, .slice none 0 0], .int .i64 8]) (by simp [results, Tryd.f14, go_sem, e0, e1, e2, e3]) rfl ?_
            rw [HOQ.out]
            exact outOb_no 8 HBZ.out
        · have HC := Lib.hid (roMay_any av cv O wd HPO.out hwo false ⟨fun h => (by cases h), fun h => absurd h hm⟩)
          refine wpI_lone rfl (by kernel_rfl) (fun K hK => ?_)
          go_simp
          refine HC.out.mono ?_
          rintro ev w5 ⟨rfl, b1⟩
          replace HX' := Lib.hid (HX'.out.below b1 HX'.out.lt)
          replace HRO := Lib.hid (HRO.out.below b1)
          replace HPO := Lib.hid (HPO.out.step b1)
          replace HZ := Lib.hid (HZ.out.below b1 HZ.out.lt)
          replace HB := Lib.hid (HB.out.trans (b1.mono HB.out.size))
          have hs1 := And.intro HX'.out HB.out
          refine hK _ _ hs1 ?_
          clear hK K hs0 b1 HC
          try simp only [Act.put, List.setIfInBounds_toArray, List.set_cons_zero, List.set_cons_succ]
          have HOQ := Lib.hid (HON.out (fun h => hm h.1))
          clear hm
          iterate 2 (
            refine wpI_read (v := ?_) hs1 rfl (by kernel_rfl) (by kernel_rfl) (by kernel_rfl) (fun _ _ _ h => h) (.inl ⟨by rfl, ?_⟩) ?_
            rotate_left
            · intro X hX
              obtain ⟨hx, hb⟩ := hX
              have j0 := ox0 hx
              have j1 := ox1 hx
              have j2 := ox2 hx
              have j3 := ox3 hx
              have jc := Bsl.conv (Bsl.below HAA.out hb)
              clear hx hb
              go_simp
              with_reducible rfl
            try simp only [Act.put, List.setIfInBounds_toArray, List.set_cons_zero, List.set_cons_succ])
          iterate 6 (
            refine wpI_read (v := undef) hs1 rfl (by kernel_rfl) (by kernel_rfl) (by kernel_rfl) (fun _ _ _ h => h) (.inr ⟨by rfl, rfl⟩) ?_
            try simp only [Act.put, List.setIfInBounds_toArray, List.set_cons_zero, List.set_cons_succ])
          iterate 1 (
            refine wpI_read (v := ?_) hs1 rfl (by kernel_rfl) (by kernel_rfl) (by kernel_rfl) (fun _ _ _ h => h) (.inl ⟨by rfl, ?_⟩) ?_
            rotate_left
            · intro X hX
              obtain ⟨hx, hb⟩ := hX
              have j0 := ox0 hx
              have j1 := ox1 hx
              have j2 := ox2 hx
              have j3 := ox3 hx
              have jc := Bsl.conv (Bsl.below HAA.out hb)
              clear hx hb
              go_simp
              with_reducible rfl
            try simp only [Act.put, List.setIfInBounds_toArray, List.set_cons_zero, List.set_cons_succ])
          refine wpI_done (by kernel_rfl) ?_
          clear hs1
          have m0 := ox0 HZ.out
          have m1 := ox1 HZ.out
          have m2 := ox2 HZ.out
          have m3 := ox3 HZ.out
          have hfz := fun i => HZ.out.frozen i
          have xz := HZ.out.set4 (.int .u8 0) (.int .i64 0) (.int .i64 0) (.slice none 0 0)
          have bz := below_set4 HB.out HGE.out (.int .u8 0) (.int .i64 0) (.int .i64 0) (.slice none 0 0)
          obtain ⟨wz, hwz⟩ : ∃ X, (((w5.setCell ⟨g, 0, none⟩ (.int .u8 0)).setCell ⟨g, 1, none⟩ (.int .i64 0)).setCell ⟨g, 2, none⟩ (.int .i64 0)).setCell ⟨g, 3, none⟩ (.slice none 0 0) = X := ⟨_, rfl⟩
          rw [hwz] at xz bz
          have HXZ := Lib.hid xz
          have HBZ := Lib.hid bz
          clear xz bz
          go_wp2_with fail
          clear m0 m1 m2 m3 hfz hwz
          have e0 := ox0 HXZ.out
          have e1 := ox1 HXZ.out
          have e2 := ox2 HXZ.out
          have e3 := ox3 HXZ.out
          refine bodyPost_ret (v := .tuple #[.agg #[.int .u8 0, .int .i64 0, .int .i64 0, .slice none 0 0], .int .i64 8]) (by simp [results, Tryd.f14, go_sem, e0, e1, e2, e3]) rfl ?_
          rw [HOQ.out]
          exact outOb_no 8 HBZ.out
  · have HO := Lib.hid (show oreadO b = (ob0, 3) by unfold oreadO; rw [if_neg h])
    rw [HO.out]
    have e1 : ((b.length : Int) != 256) = true := by simp; omega
    have m0 := ox0 HZ.out
    have m1 := ox1 HZ.out
    have m2 := ox2 HZ.out
    have m3 := ox3 HZ.out
    have hfz := fun i => HZ.out.frozen i
    have xz := HZ.out.set4 (.int .u8 0) (.int .i64 0) (.int .i64 0) (.slice none 0 0)
    have bz := below_set4 HB.out HGE.out (.int .u8 0) (.int .i64 0) (.int .i64 0) (.slice none 0 0)
    obtain ⟨wz, hwz⟩ : ∃ X, (((w0.setCell ⟨g, 0, none⟩ (.int .u8 0)).setCell ⟨g, 1, none⟩ (.int .i64 0)).setCell ⟨g, 2, none⟩ (.int .i64 0)).setCell ⟨g, 3, none⟩ (.slice none 0 0) = X := ⟨_, rfl⟩
    rw [hwz] at xz bz
    have HXZ := Lib.hid xz
    have HBZ := Lib.hid bz
    clear xz bz h
    go_enter Tryd.func14, Tryd.ntmps14
    go_wp2_with fail
    clear m0 m1 m2 m3 hfz hwz hw0
    have e0 := ox0 HXZ.out
    have e1 := ox1 HXZ.out
    have e2 := ox2 HXZ.out
    have e3 := ox3 HXZ.out
    refine bodyPost_ret (v := .tuple #[.agg #[.int .u8 0, .int .i64 0, .int .i64 0, .slice none 0 0], .int .i64 3]) (by simp [results, Tryd.f14, go_sem, e0, e1, e2, e3]) rfl ?_
    exact outOb_no 3 HBZ.out
end Go.Proofs.YtennhempdnpobaaDoor
