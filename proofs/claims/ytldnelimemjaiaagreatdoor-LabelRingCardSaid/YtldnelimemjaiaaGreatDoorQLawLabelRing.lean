/-
  LabelRingSaid: for any disk that is not great, and any label, Put, Find and Slot answer as the document's own do, and what Put answers shares no memory with the disk.
-/
import Derived.Test.YtldnelimemjaiaaGreatDoorRows
import Derived.Test.YtldnelimemjaiaaGreatDoorPkLR6
namespace Go.Proofs.YtldnelimemjaiaaGreatDoor
open Go.RowKit Go.Shelf
set_option maxRecDepth 100000

/-- A label in a box. -/
def LbBox (w : World) (g : Nat) (l : Lb) : Prop := Blk w g 30 (lbC l).toArray
/-- The disk that was answered, its first bytes being turned. -/
def RingI (gA m lo : Nat) (u : Value) (A : Option Addr) (C : Nat) (wl w : World) : Prop :=
  Blk w gA 25 #[u, .slice A m C] ∧ Below lo wl w ∧
    (0 < m → ∃ g hw cw T, A = some ⟨hw, 0, none⟩ ∧ lo ≤ g ∧ Blk w hw 47 cw ∧ (∃ t : List UInt8, t.length = T ∧ Blk w g 5 (ar t)) ∧ ∀ i, i < m → ∃ o l, cw[i * 2 + 1]? = some (.slice (some ⟨g, o, none⟩) l l) ∧ 0 < l ∧ o < T)
theorem RingI.drew {gA m lo : Nat} {u : Value} {A : Option Addr} {C : Nat} {wl w : World} (h : RingI gA m lo u A C wl w) : RingI gA m lo u A C wl w.drew := by
  obtain ⟨h1, h2, h3⟩ := h
  refine ⟨h1.drew, h2.drew, fun hm => ?_⟩
  obtain ⟨g, hw, cw, T, e, hlo, k1, ⟨t, k2, k3⟩, k4⟩ := h3 hm
  exact ⟨g, hw, cw, T, e, hlo, k1.drew, ⟨t, k2, k3.drew⟩, k4⟩
/-- What a round finds. -/
theorem RingI.at_ {gA m lo : Nat} {u : Value} {A : Option Addr} {C : Nat} {wl w : World} (h : RingI gA m lo u A C wl w) {i : Nat} (hi : i < m) :
    ∃ g hw o l y, A = some ⟨hw, 0, none⟩ ∧ 0 < l ∧ lo ≤ g ∧ w.cell? ⟨gA, 1, none⟩ = some (.slice (some ⟨hw, 0, none⟩) m C) ∧ w.cell? ⟨hw, i * 2 + 1, none⟩ = some (.slice (some ⟨g, o, none⟩) l l) ∧ w.cell? ⟨g, o, none⟩ = some (.int .u8 ((UInt8.toNat y : Nat) : Int)) ∧ w.frozen? ⟨g, o, none⟩ = false ∧
      ∀ z : UInt8, RingI gA m lo u A C wl (w.setCell ⟨g, o, none⟩ (.int .u8 (z.toNat : Int))) := by
  obtain ⟨h1, h2, h3⟩ := h
  obtain ⟨g, hw, cw, T, e, hlo, k1, ⟨t, k2, k3⟩, k4⟩ := h3 (by omega)
  obtain ⟨o, l, hc, hl, hoT⟩ := k4 i hi
  have hot : o < t.length := by omega
  refine ⟨g, hw, o, l, t[o], e, hl, hlo, by rw [← e]; exact h1.cell 1, (k1.cell (i * 2 + 1)).trans hc, by rw [k3.cell, ar_get t o hot], k3.frozen o, fun z => ?_⟩
  refine ⟨h1.far (p := ⟨g, o, none⟩) (h1.ne k3 (by decide)) _, h2.setCell (p := ⟨g, o, none⟩) hlo _, fun _ => ⟨g, hw, cw, T, e, hlo, k1.far (p := ⟨g, o, none⟩) (k1.ne k3 (by decide)) _, ⟨t.set o z, by rw [List.length_set, k2], ?_⟩, k4⟩⟩
  have := k3.set_ o (.int .u8 (z.toNat : Int))
  rwa [ar_set] at this
theorem ring_start {lo g : Nat} {x : DAt} {D : DkL} {w : World} (h : MineL lo g x D w) (hd : ∀ i, i < D.2.length → (wr_ D.2 i).2.length = 256) : RingI g D.2.length lo (.slice x.ba D.1.length x.bc) x.wa x.wc w w := by
  refine ⟨h.1, Below.refl _ _, fun hm => ?_⟩
  rcases h.2.2 with ⟨_, h2⟩ | ⟨r, hb, hw, rfl, k1, k2, k3, h1, h2, h3, h4, h5, h6, cw, h9, h10, h11⟩
  · rw [h2] at hm; cases hm
  · have hst : startP (pieces D) (D.1.length + D.2.length) = sumD D := startP_sumD D
    refine ⟨r, hw, cw, sumD D, rfl, k1, h9, ⟨_, roomP_length (by rw [hst]; exact Nat.le_refl _), h5⟩, fun i hi => ?_⟩
    obtain ⟨_, v, e1, o, rfl, ho⟩ := h11 i hi
    have hs := startP_succ (P := pieces D) (k := D.1.length + i) (by rw [pieces_length]; omega)
    have hmo := startP_mono (P := pieces D) (show D.1.length + i + 1 ≤ D.1.length + D.2.length by omega)
    have hp : (pieces D).getD (D.1.length + i) [] = (wr_ D.2 i).2 := pieces_right hi
    have hl : ((pieces D).getD (D.1.length + i) []).length = 256 := by rw [hp]; exact hd i hi
    have := ho (by omega)
    exact ⟨o, _, e1, by omega, by omega⟩
theorem putO_may (D : DkL) (l : Lb) : ∀ i, i < (putO D l).1.2.length → (wr_ (putO D l).1.2 i).2.length = 256 := by
  intro i hi
  rcases putO_cases D l with ⟨c, e, _⟩ | ⟨_, _, _, hm, e⟩
  · rw [e] at hi; cases hi
  · rw [e] at hi ⊢
    exact (hm.2.2 i hi).2
theorem putO_len (D : DkL) (l : Lb) : (putO D l).1.1.length ≤ 1000000 ∧ (putO D l).1.2.length ≤ 1000000 := by
  rcases putO_cases D l with ⟨c, e, _⟩ | ⟨_, _, _, hm, e⟩
  · rw [e]; exact ⟨Nat.zero_le _, Nat.zero_le _⟩
  · rw [e]
    have h1 := hm.1.1
    have h2 := hm.2.1
    exact ⟨by rw [h1]; omega, Nat.le_trans h2 (by omega)⟩
theorem addU8 (y : UInt8) : IntKind.u8.wrap ((y.toNat : Int) + 1) = ((y + 1).toNat : Int) := by
  have := y.toNat_lt
  simp [IntKind.wrap, IntKind.bits, IntKind.signed, UInt8.toNat_add]
set_option maxHeartbeats 8000000 in
theorem labelRing_walk (x : DAt) (D : DkL) (l : Lb) (w : World) (hz : Szs w) (h : Dsk w w.heap.size x D) (hnear : Near D) (hwl : WfL l) :
    Calls Tryz.prog 3 #[dval x D, lbV l] w fun e w' => e = .returned (.bool true) ∧ Below w.heap.size w w' := by
  have hmx : Tryz.prog.follows Departure.mixedOrders = true := by kernel_rfl
  obtain ⟨g, e, a, b, c, d, f⟩ := l
  have hL00 := lawL_box w x D h
  obtain ⟨w0_, hw0_⟩ : ∃ w0, w.alloc (.cells #[.slice x.ba D.1.length x.bc, .slice x.wa D.2.length x.wc] 25) = w0 := ⟨_, rfl⟩
  rw [hw0_] at hL00
  have b0_ : Below w.heap.size w w0_ := hL00.bel
  have hz0 : w0_.heap.size = w.heap.size + 1 := by rw [← hw0_]; simp
  obtain ⟨w0, hw0⟩ : ∃ w0, w0_.alloc (.cells #[.int .u32 (g : Int), .int .u32 (e : Int), .int .i64 a, .int .u32 (b : Int), .int .u32 (c : Int), .int .u32 (d : Int), .int .u32 (f : Int)] 30) = w0 := ⟨_, rfl⟩
  have b1_ : Below w0_.heap.size w0_ w0 := by rw [← hw0]; exact alloc_b _ _
  have hL0 := hL00.step b1_
  obtain ⟨B, hB⟩ : ∃ B, w.heap.size = B := ⟨_, rfl⟩
  have hxl : Blk w0 (B + 1) 30 #[.int .u32 (g : Int), .int .u32 (e : Int), .int .i64 a, .int .u32 (b : Int), .int .u32 (c : Int), .int .u32 (d : Int), .int .u32 (f : Int)] := by rw [← hB, ← hz0, ← hw0]; exact Blk.new _ _ _
  rw [hB] at hL0 hz0
  have HL := Lib.hid hL0
  have HXL := Lib.hid hxl
  have HZ := Lib.hid ((hz.step (by rw [← hB] at hz0; exact b0_)).step b1_)
  have HBB := Lib.hid hB
  have HWL := Lib.hid hwl
  have HG := Lib.hid (rdGreat_any x D w0 hL0.dsk hnear)
  have c0 := hL0.c0
  have c1 := hL0.c1
  have htw := fun W (hd : Dsk W W.heap.size x D) (hs : Small D) => rdTwin_any x D W hd (small_fits hs)
  have HTW := Lib.hid htw
  simp only [dval] at HG HTW ⊢
  clear h hz hnear hwl hL00 hL0 hxl b0_ b1_ htw
  go_enter Tryz.func3, Tryz.ntmps3
  rw [hB]
  go_wp2_with fail
  clear hw0 hw0_ hB hz0
  refine HG.out.mono ?_
  rintro ev w1 ⟨bb, rfl, hsm, b1⟩
  replace HL := Lib.hid (HL.out.step b1)
  replace HXL := Lib.hid (Blk.below HXL.out b1 (Blk.lt HXL.out))
  replace HZ := Lib.hid (HZ.out.step b1)
  clear b1 HG c0 c1
  cases bb with
  | true =>
    go_wp2_with fail
    go_ret
    exact ⟨rfl, by rw [← HBB.out]; exact HL.out.bel⟩
  | false =>
    have HSM := Lib.hid (hsm rfl)
    clear hsm
    have c0 := HL.out.c0
    have c1 := HL.out.c1
    go_wp2_with fail
    refine (HTW.out w1 HL.out.dsk HSM.out).mono ?_
    rintro ev w2 ⟨y, rfl, hty, b2⟩
    clear c0 c1
    replace HL := Lib.hid (HL.out.step b2)
    replace HXL := Lib.hid (Blk.below HXL.out b2 (Blk.lt HXL.out))
    replace HZ := Lib.hid (HZ.out.step b2)
    obtain ⟨w3, hw3⟩ : ∃ x, w2.alloc (.cells #[.slice y.ba D.1.length y.bc, .slice y.wa D.2.length y.wc] 25) = x := ⟨_, rfl⟩
    have ba : Below w2.heap.size w2 w3 := by rw [← hw3]; exact alloc_b _ _
    obtain ⟨gO, hgO⟩ : ∃ g, w2.heap.size = g := ⟨_, rfl⟩
    have hy := HL.out.put hty.dsk
    rw [hw3, hgO] at hy
    have HO := Lib.hid hy
    replace HL := Lib.hid (HL.out.step ba)
    replace HXL := Lib.hid (Blk.below HXL.out ba (Blk.lt HXL.out))
    replace HZ := Lib.hid (HZ.out.step ba)
    clear b2 hty ba hy HTW
    simp only [dval]
    obtain ⟨K, ke, hK⟩ : ∃ K ke, putO D (g, e, a, b, c, d, f) = (K, ke) := ⟨_, _, rfl⟩
    have hpm := putO_may D (g, e, a, b, c, d, f)
    rw [hK] at hpm
    have HPM := Lib.hid hpm
    have HKL := Lib.hid (putO_len D (g, e, a, b, c, d, f))
    rw [hK] at HKL
    have hp1 := lPut_any y D (g, e, a, b, c, d, f) w3 HO.out.dsk HWL.out HZ.out
    have hp2 := fun W hd => rlPut_any x D (g, e, a, b, c, d, f) W hd HWL.out
    rw [hK] at hp1 hp2
    have HP1 := Lib.hid hp1
    have HP2 : Hid (∀ W, Dsk W W.heap.size x D → Calls Tryz.prog 7 #[dval x D, lbV (g, e, a, b, c, d, f)] W (PutPost (K, ke) W)) := Lib.hid hp2
    have HF1 : Hid (∀ W, Dsk W W.heap.size y D → Szs W → Calls Tryz.prog 8 #[dval y D] W (OutLs (findO D) W)) := Lib.hid fun W hd hz => lFind_any y D W hd hz
    have HF2 : Hid (∀ W, Dsk W W.heap.size x D → Calls Tryz.prog 9 #[dval x D] W (OutLs (findO D) W)) := Lib.hid fun W hd => rlFind_any x D W hd
    simp only [dval] at HP1 HP2 HF1 HF2
    clear hp1 hp2 hpm hK
    have c0 := HO.out.c0
    have c1 := HO.out.c1
    obtain ⟨e0, e1, e2, e3, e4, e5, e6⟩ := HXL.out.seven
    go_wp2_with fail
    clear hw3 hgO c0 c1 e0 e1 e2 e3 e4 e5 e6
    refine HP1.out.mono ?_
    have hO4 : gO + 1 ≤ w3.heap.size := HO.out.2.2.2.1
    rintro ev w4 ⟨z, rfl, hzo, b4⟩
    have hlo4 : w3.heap.size ≤ w4.heap.size := b4.size
    replace HL := Lib.hid (HL.out.step b4)
    replace HXL := Lib.hid (Blk.below HXL.out b4 (Blk.lt HXL.out))
    replace HZ := Lib.hid (HZ.out.step b4)
    replace HO := Lib.hid (HO.out.step b4)
    obtain ⟨w5, hw5⟩ : ∃ x, w4.alloc (.cells #[.slice z.ba K.1.length z.bc, .slice z.wa K.2.length z.wc] 25) = x := ⟨_, rfl⟩
    have ba : Below w4.heap.size w4 w5 := by rw [← hw5]; exact alloc_b _ _
    obtain ⟨gA, hgA⟩ : ∃ g, w4.heap.size = g := ⟨_, rfl⟩
    obtain ⟨lo, hlo⟩ : ∃ lo, w3.heap.size = lo := ⟨_, rfl⟩
    have hA := mineL_put hzo hlo4
    rw [hw5, hgA] at hA
    rw [hlo] at hA
    have HA := Lib.hid hA
    have HLO := Lib.hid (show gO + 1 ≤ lo from by rw [← hlo]; exact hO4)
    replace HL := Lib.hid (HL.out.step ba)
    replace HXL := Lib.hid (Blk.below HXL.out ba (Blk.lt HXL.out))
    replace HZ := Lib.hid (HZ.out.step ba)
    replace HO := Lib.hid (HO.out.step ba)
    clear b4 ba hA hzo hlo4 hlo HP1 hO4
    have c0 := HL.out.c0
    have c1 := HL.out.c1
    obtain ⟨e0, e1, e2, e3, e4, e5, e6⟩ := HXL.out.seven
    simp only [dval]
    go_wp2_with fail
    clear hw5 hgA c0 c1 e0 e1 e2 e3 e4 e5 e6
    refine (HP2.out w5 HL.out.dsk).mono ?_
    rintro ev w6 ⟨z2, rfl, hz2, b6⟩
    replace HL := Lib.hid (HL.out.step b6)
    replace HXL := Lib.hid (Blk.below HXL.out b6 (Blk.lt HXL.out))
    replace HZ := Lib.hid (HZ.out.step b6)
    replace HO := Lib.hid (HO.out.step b6)
    replace HA := Lib.hid (HA.out.step b6)
    obtain ⟨w7, hw7⟩ : ∃ x, w6.alloc (.cells #[.slice z2.ba K.1.length z2.bc, .slice z2.wa K.2.length z2.wc] 25) = x := ⟨_, rfl⟩
    have ba : Below w6.heap.size w6 w7 := by rw [← hw7]; exact alloc_b _ _
    obtain ⟨gB, hgB⟩ : ∃ g, w6.heap.size = g := ⟨_, rfl⟩
    have hy := HL.out.put hz2
    rw [hw7, hgB] at hy
    have HBX := Lib.hid hy
    replace HL := Lib.hid (HL.out.step ba)
    replace HXL := Lib.hid (Blk.below HXL.out ba (Blk.lt HXL.out))
    replace HZ := Lib.hid (HZ.out.step ba)
    replace HO := Lib.hid (HO.out.step ba)
    replace HA := Lib.hid (HA.out.step ba)
    clear b6 ba hy hz2 HP2
    have c0 := HO.out.c0
    have c1 := HO.out.c1
    simp only [dval]
    go_wp2_with fail
    clear hw7 hgB c0 c1
    refine (HF1.out w7 HO.out.dsk HZ.out).mono ?_
    rintro ev w8 ⟨vx, rfl, rx, b8⟩
    have HX := Lib.hid rx
    replace HL := Lib.hid (HL.out.step b8)
    replace HXL := Lib.hid (Blk.below HXL.out b8 (Blk.lt HXL.out))
    replace HZ := Lib.hid (HZ.out.step b8)
    replace HO := Lib.hid (HO.out.step b8)
    replace HA := Lib.hid (HA.out.step b8)
    replace HBX := Lib.hid (HBX.out.step b8)
    clear rx b8 HF1
    have c0 := HL.out.c0
    have c1 := HL.out.c1
    go_wp2_with fail
    clear c0 c1
    refine (HF2.out w8 HL.out.dsk).mono ?_
    rintro ev w9 ⟨vy, rfl, ry, b9⟩
    have HY := Lib.hid ry
    replace HL := Lib.hid (HL.out.step b9)
    replace HXL := Lib.hid (Blk.below HXL.out b9 (Blk.lt HXL.out))
    replace HZ := Lib.hid (HZ.out.step b9)
    replace HO := Lib.hid (HO.out.step b9)
    replace HA := Lib.hid (HA.out.step b9)
    replace HBX := Lib.hid (HBX.out.step b9)
    replace HX := Lib.hid (HX.out.below b9)
    clear ry b9 HF2
    obtain ⟨FL, fe, hFL⟩ : ∃ FL fe, findO D = (FL, fe) := ⟨_, _, rfl⟩
    rw [hFL] at HX HY ⊢
    clear hFL
    obtain ⟨AX, cx, rfl, _⟩ := HX.out.lbs
    obtain ⟨AY, cy, rfl, _⟩ := HY.out.lbs
    simp only
    go_wp2_with fail
    obtain ⟨wd, hwd⟩ : ∃ wd, w9.drew = wd := ⟨_, rfl⟩
    have bd : Below w9.heap.size w9 wd := by rw [← hwd]; exact (Below.refl _ _).drew
    replace HL := Lib.hid (HL.out.step bd)
    replace HXL := Lib.hid (Blk.below HXL.out bd (Blk.lt HXL.out))
    replace HZ := Lib.hid (HZ.out.step bd)
    replace HO := Lib.hid (HO.out.step bd)
    replace HA := Lib.hid (HA.out.step bd)
    replace HBX := Lib.hid (HBX.out.step bd)
    replace HX := Lib.hid (HX.out.below bd)
    replace HY := Lib.hid (HY.out.below bd)
    have p0 := HA.out.c0
    have p1 := HA.out.c1
    have r0_ := HBX.out.c0
    have r1_ := HBX.out.c1
    obtain ⟨q0, _⟩ := HXL.out.seven
    have C0 := fun X (hX : Below wd.heap.size wd X) => (hX.cell (p := ⟨gA, 0, none⟩) (World.block_lt_of_cell? wd _ p0)).trans p0
    have C1 := fun X (hX : Below wd.heap.size wd X) => (hX.cell (p := ⟨gA, 1, none⟩) (World.block_lt_of_cell? wd _ p1)).trans p1
    have C2 := fun X (hX : Below wd.heap.size wd X) => (hX.cell (p := ⟨gB, 0, none⟩) (World.block_lt_of_cell? wd _ r0_)).trans r0_
    have C3 := fun X (hX : Below wd.heap.size wd X) => (hX.cell (p := ⟨gB, 1, none⟩) (World.block_lt_of_cell? wd _ r1_)).trans r1_
    have C4 := fun X (hX : Below wd.heap.size wd X) => (hX.cell (p := ⟨B + 1, 0, none⟩) (World.block_lt_of_cell? wd _ q0)).trans q0
    have hS : Below wd.heap.size wd wd := Below.refl _ _
    have hsm := rdSame_any z K z2 K wd HA.out.2.2.dsk HBX.out.dsk HKL.out true (by simp)
    have HSAME := Lib.hid hsm
    simp only [dval] at HSAME
    clear bd p0 p1 r0_ r1_ q0 hsm
    refine wpI_start (Below wd.heap.size wd) [0, 1, 2, 3, 4, 5, 6, 7, 8, 9, 10, 11, 12, 13, 14, 15, 16, 17, 18, 19, 20, 21, 22, 23, 25, 26, 24, 27, 28, 29] hmx rfl hwd ?_
    clear hwd
    iterate 2 (
      refine wpI_read (v := ?_) hS rfl (by kernel_rfl) (by kernel_rfl) (by kernel_rfl) (fun _ _ _ h => h) (.inl ⟨by rfl, ?_⟩) ?_
      rotate_left
      · intro X hX
        have hX0 := C0 X hX
        have hX1 := C1 X hX
        have hX2 := C2 X hX
        have hX3 := C3 X hX
        clear hX
        go_simp
        with_reducible rfl
      try simp only [Act.put, List.setIfInBounds_toArray, List.set_cons_zero, List.set_cons_succ])
    refine wpI_lone rfl (by kernel_rfl) (fun K hK => ?_)
    go_simp
    refine HSAME.out.mono ?_
    rintro ev w10 ⟨rfl, b10⟩
    refine hK _ _ b10 ?_
    clear hK K C0 C1 C2 C3
    try simp only [Act.put, List.setIfInBounds_toArray, List.set_cons_zero, List.set_cons_succ]
    iterate 23 (
      refine wpI_read (v := ?_) b10 rfl (by kernel_rfl) (by kernel_rfl) (by kernel_rfl) (fun _ _ _ h => h) (.inl ⟨by rfl, ?_⟩) ?_
      rotate_left
      · intro X hX
        have hX4 := C4 X hX
        clear hX
        go_simp
        with_reducible rfl
      try simp only [Act.put, List.setIfInBounds_toArray, List.set_cons_zero, List.set_cons_succ])
    refine wpI_lone rfl (by kernel_rfl) (fun K hK => ?_)
    go_simp
    refine (lSlot_any g HWL.out.1 w10).mono ?_
    rintro ev wq ⟨rfl, rfl⟩
    refine hK _ _ b10 ?_
    clear hK K C4
    try simp only [Act.put, List.setIfInBounds_toArray, List.set_cons_zero, List.set_cons_succ]
    refine wpI_lone rfl (by kernel_rfl) (fun K hK => ?_)
    go_simp
    refine (rlSlot_any g HWL.out.1 w10).mono ?_
    rintro ev wq ⟨rfl, rfl⟩
    refine hK _ _ b10 ?_
    clear hK K
    try simp only [Act.put, List.setIfInBounds_toArray, List.set_cons_zero, List.set_cons_succ]
    iterate 2 (
      refine wpI_read (v := ?_) b10 rfl (by kernel_rfl) (by kernel_rfl) (by kernel_rfl) (fun _ _ _ h => h) (.inl ⟨by rfl, ?_⟩) ?_
      rotate_left
      · intro X hX
        clear hX
        go_simp
        with_reducible rfl
      try simp only [Act.put, List.setIfInBounds_toArray, List.set_cons_zero, List.set_cons_succ])
    refine wpI_done (by kernel_rfl) ?_
    replace HL := Lib.hid (HL.out.step b10)
    replace HXL := Lib.hid (Blk.below HXL.out b10 (Blk.lt HXL.out))
    replace HO := Lib.hid (HO.out.step b10)
    replace HA := Lib.hid (HA.out.step b10)
    replace HX := Lib.hid (HX.out.below b10)
    replace HY := Lib.hid (HY.out.below b10)
    clear b10 hS
    go_wp2_with fail
    go_loopw [14] (fun i wr => ∃ k : Nat, k ≤ FL.length ∧ i = .int .i64 k ∧ Below w10.heap.size w10 wr) (fun i _ => FL.length - (intOf i).toNat)
    case atStart => exact ⟨0, Nat.zero_le _, rfl, Below.refl _ _⟩
    case round =>
      obtain ⟨k, hk, rfl, hI⟩ := hrel
      obtain ⟨wi, hwi⟩ : ∃ wi : World, wi = wr := ⟨_, rfl⟩
      subst hwi
      have k0 : (0 : Int) ≤ k := by omega
      obtain ⟨_, _, ex, hlx⟩ := (HX.out.below hI).lbs
      cases ex
      have hln := hlx.len_le
      by_cases hkl : k < FL.length
      · have k1 : (k : Int) < FL.length := by omega
        obtain ⟨_, _, ey, hly⟩ := (HY.out.below hI).lbs
        cases ey
        obtain ⟨nb, no, n0_, n1_, n2_, n3_, n4_, n5_, n6_, hanx, _, vn, _, d0, d1, d2, d3, d4, d5, d6⟩ := rl_cells hlx k hkl
        obtain ⟨yb, yo, m0_, m1_, m2_, m3_, m4_, m5_, m6_, hany, _, vm, _, f0, f1, f2, f3, f4, f5, f6⟩ := rl_cells hly k hkl
        rw [vn] at vm
        cases vm
        subst hanx
        subst hany
        have heq : ∀ W, (Op.equalIn 10000 30 (lbV (n0_, n1_, n2_, n3_, n4_, n5_, n6_)) (lbV (n0_, n1_, n2_, n3_, n4_, n5_, n6_))).run Tryz.prog W = .ok true W := fun W => by rw [eqLb, (eqL_iff _ _).2 rfl]
        simp only [lbV] at heq
        have HIW := Lib.hid hI
        clear vn hlx hly hI
        go_wp2_with fail
        go_quiet (fail)
        go_wp2_with fail
        go_roundw
        case rel => exact ⟨k + 1, by omega, by go_num, below_drewN HIW.out _⟩
        case measure => simp [intOf]; omega
      · have k2 : ¬ (k : Int) < FL.length := by omega
        replace HL := Lib.hid (HL.out.step hI)
        replace HXL := Lib.hid (Blk.below HXL.out hI (Blk.lt HXL.out))
        replace HO := Lib.hid (HO.out.step hI)
        replace HA := Lib.hid (HA.out.step hI)
        clear hlx
        go_wp2_with fail
        have HRS := Lib.hid (ring_start HA.out HPM.out)
        have m1 : (K.2.length : Int) ≤ 1000000 := by have := HKL.out.2; omega
        go_loopw [15] (fun i wj => ∃ j : Nat, j ≤ K.2.length ∧ i = .int .i64 j ∧ Hid (RingI gA K.2.length lo (.slice z.ba K.1.length z.bc) z.wa z.wc wi wj)) (fun i _ => K.2.length - (intOf i).toNat)
        case atStart => exact ⟨0, Nat.zero_le _, rfl, HRS⟩
        case round =>
          obtain ⟨j, hj, rfl, HR⟩ := hrel
          clear HRS
          have j0 : (0 : Int) ≤ j := by omega
          have r1 := HR.out.1.cell 1
          by_cases hjl : j < K.2.length
          · have j1 : (j : Int) < K.2.length := by omega
            obtain ⟨wd, hwd⟩ : ∃ wd, wr.drew = wd := ⟨_, rfl⟩
            have hD : RingI gA K.2.length lo (.slice z.ba K.1.length z.bc) z.wa z.wc wi wd := by rw [← hwd]; exact HR.out.drew
            obtain ⟨gg, hw, o, l, yb, -, hl0, _, s0, s1, hy, hfz, hst⟩ := hD.at_ hjl
            have l0 : (0 : Int) < l := by omega
            have C0 := fun X (hX : Below wd.heap.size wd X) => (hX.cell (p := ⟨gA, 1, none⟩) (World.block_lt_of_cell? wd _ s0)).trans s0
            have C1 := fun X (hX : Below wd.heap.size wd X) => (hX.cell (p := ⟨hw, j * 2 + 1, none⟩) (World.block_lt_of_cell? wd _ s1)).trans s1
            have C2 := fun X (hX : Below wd.heap.size wd X) => (hX.cell (p := ⟨gg, o, none⟩) (World.block_lt_of_cell? wd _ hy)).trans hy
            have hS : Below wd.heap.size wd wd := Below.refl _ _
            have hadd := addU8 yb
            have HF := Lib.hid (hst (yb + 1))
            obtain ⟨zz, hz⟩ : ∃ z, (yb + 1).toNat = z := ⟨_, rfl⟩
            rw [hz] at hadd HF
            clear hD s0 s1 hz hst
            go_wp2_with fail
            clear r1
            refine wpS_start [0, 1, 2, 3, 4, 5, 6, 7, 8, 9, 10, 11, 12, 13, 14, 15, 16] hmx rfl hwd ?_
            clear hwd
            iterate 16 (
              refine wpS_read (v := ?_) rfl (by kernel_rfl) (by kernel_rfl) (by kernel_rfl) (fun _ _ _ h => h) (.inl ⟨by rfl, ?_⟩) ?_
              rotate_left
              · intro X hX
                have hX0 := C0 X (hX _ hS)
                have hX1 := C1 X (hX _ hS)
                have hX2 := C2 X (hX _ hS)
                clear hX
                go_simp
                with_reducible rfl
              try simp only [Act.put, List.setIfInBounds_toArray, List.set_cons_zero, List.set_cons_succ])
            clear C0 C1 C2 hS
            refine wpS_last rfl (by kernel_rfl) (by kernel_rfl) (fun K hK => ?_)
            go_simp
            refine hK _ _ ?_
            clear hK K
            try simp only [Act.put, List.setIfInBounds_toArray, List.set_cons_zero, List.set_cons_succ]
            refine wpS_done (by kernel_rfl) ?_
            go_wp2_with fail
            go_roundw
            case rel => exact ⟨j + 1, by omega, by go_num, HF⟩
            case measure => simp [intOf]; omega
          · have j2 : ¬ (j : Int) < K.2.length := by omega
            have hbl := HR.out.2.1
            have HOf := Lib.hid (HO.out.below (hbl.mono HLO.out))
            have HLf := Lib.hid (HL.out.below (hbl.mono (by have := HLO.out; have := HO.out.2.1; have := HBB.out; omega)))
            have hsm := rdSame_any y D x D wr HOf.out.dsk HLf.out.dsk ⟨(small_fits HSM.out).1, (small_fits HSM.out).2.1⟩ true (by simp)
            have HSAME := Lib.hid hsm
            simp only [dval] at HSAME
            clear hsm hbl
            have c0 := HOf.out.c0
            have c1 := HOf.out.c1
            have d0 := HLf.out.c0
            have d1 := HLf.out.c1
            go_wp2_with fail
            refine HSAME.out.mono ?_
            rintro ev wz ⟨rfl, bz⟩
            have HLz := Lib.hid (HLf.out.step bz)
            clear bz c0 c1 d0 d1 r1
            go_wp2_with fail
            go_ret
            exact ⟨rfl, by rw [← HBB.out]; exact HLz.out.bel⟩
end Go.Proofs.YtldnelimemjaiaaGreatDoor
namespace Go.Proofs.YtldnelimemjaiaaGreatDoor.labelRing
open Go.ChangeShapes Go.WideShapes Go.ChangeAt Go.RowKit
set_option linter.unusedVariables false

theorem own : ownKnob Tryz.prog.godebug = none := by kernel_rfl
theorem laidOut : laidOutB Tryz.prog = true := by kernel_rfl

set_option maxRecDepth 100000 in
theorem lifted (os : Os) (started : os.Started) (H : Type) (enc : TypeId × Value → H) :
    ReturnsInHanded {} Tryz.checked os 3 .any (fun w args => (Rows.labelRingSpec.pre enc Tryz.prog Tryz.f3 [] false w args ∧ laidMetH Tryz.prog [("charterhouse/ptr.sizes", Rows.laid_charterhouse_ptr_sizes)] w) ∧ sizedMet enc Tryz.prog Tryz.f3 (OpenSpec.ofChange Rows.labelRingSpec) false w args)
      (Rows.labelRingSpec.post enc Tryz.prog Tryz.f3 false true false false) := by
  refine returnsInHanded_of_change_and (C := Tryz.checked) (X := fun w _ => laidMetH Tryz.prog [("charterhouse/ptr.sizes", Rows.laid_charterhouse_ptr_sizes)] w) (fun _ _ _ hh h => h.of_heap hh) own started (by kernel_rfl) Tryz.func3
    (ChangeSpec.witness_shaped (enc := enc) (C := Tryz.checked) (os := os) (X := fun w _ => laidMetH Tryz.prog [("charterhouse/ptr.sizes", Rows.laid_charterhouse_ptr_sizes)] w) false (World.doorLaid Tryz.prog 400 os) #[.agg #[.slice none 0 0, .slice none 0 0], .agg #[.int .u32 0, .int .u32 0, .int .i64 0, .int .u32 0, .int .u32 0, .int .u32 0, .int .u32 0]] 8 rfl (World.shaped_of_RefB (by kernel_rfl) (by kernel_rfl)) (by kernel_rfl) (by kernel_rfl) (by kernel_rfl) (door_met os _)) ?_
  intro W base args ds gs before hval0 hW _ hsz hL _
  have hval : ∀ (j : Nat) t v, Tryz.f3.params[j]? = some t → args[j]? = some v → Value.okWide Tryz.prog W .any base t v := hval0
  have hW' := hW
  obtain ⟨p, q, hA0, hV, rfl, hfz, hnd⟩ := hW
  have hA : DataW.TrodAll enc Tryz.prog W 0 (fun _ => true) true Tryz.f3.params.toList args.toList ds p := hA0
  rw [Tryz.params3] at hA hval
  obtain ⟨v0, vs0, d0, ds0, p0, q0, hargs, rfl, rfl, h0, r0⟩ := trodAll_cons hA
  obtain ⟨v1, vs1, d1, ds1, p1, q1, rfl, rfl, rfl, h1, r1⟩ := trodAll_cons r0
  obtain ⟨rfl, rfl, rfl⟩ := trodAll_nil r1
  obtain rfl : args = #[v0, v1] := by cases args; simp_all
  obtain ⟨rfl, rfl⟩ := trodVars_none hV
  have k0 := h0
  have lt0 : ∀ x ∈ p0, x.block < W.heap.size := by obtain ⟨m, hm⟩ := k0; exact DataW.trod_lt m _ _ _ hm
  obtain ⟨x0, D0, rfl, w0, m0⟩ := open_disk (hval 0 25 v0 rfl rfl) h0 (fun n hn => by
    have := List.all_eq_true.1 hsz n (DataW.weights_mem_each (j := 0) (t := 25) (by kernel_rfl) rfl n hn)
    simpa using this)
  have k1 := h1
  have lt1 : ∀ x ∈ p1, x.block < W.heap.size := by obtain ⟨m, hm⟩ := k1; exact DataW.trod_lt m _ _ _ hm
  obtain ⟨z1, rfl, w1⟩ := open_label (hval 1 30 v1 rfl rfl) h1
  clear hA0 hval0
  refine (labelRing_walk x0 D0 z1 W (szs_of_laid hL) w0 m0 w1).mono fun e W' ⟨he, bel⟩ => ?_
  subst he
  exact ⟨_, rfl, _, _, _, [], _, [], hW', trodAll_mk1 (shut_bool Tryz.underlying4 _), (trodAll_cons_mk (Below.trod laidOut (by kernel_rfl) (of_decide_eq_true (by kernel_rfl)) k0 bel lt0) (trodAll_cons_mk (Below.trod laidOut (by kernel_rfl) (of_decide_eq_true (by kernel_rfl)) k1 bel lt1) trodAll_mk0)), rfl, bel.frame _, fun h => by cases h⟩

theorem over : Rows.LabelRingSaid :=
  OpenClaim.holds_of_wide 3 Tryz.f3 rfl rfl rfl rfl rfl rfl rfl ⟨rfl, rfl, rfl, rfl, rfl⟩ rfl rfl rfl rfl rfl (by kernel_rfl) Tryz.func3 (by kernel_rfl)
    (of_decide_eq_true (by kernel_rfl)) (by unfold Func.isWrapper; first | (rw [if_pos (by decide +kernel)]; kernel_rfl) | (rw [if_neg (by decide +kernel)]; exact ⟨rfl, rfl⟩))
    (fun os started H enc _ => lifted os started H enc)

/-- The statement. -/
theorem proved : Rows.LabelRingCardSaid :=
  Claim7.holds_tied_plain_at .later [] [.data] true _ false
    over (fun _ h => by cases h) (by kernel_rfl) (fun _ h => by cases h) labelRing_row_tie rfl ⟨rfl, rfl⟩ (by kernel_rfl) rfl
    (fun f fn hf hfn => by
      obtain rfl : f = 3 := Option.some.inj ((show Tryz.prog.funcNamed "charterhouse/charterhouselaw11.LabelRing" = some 3 by kernel_rfl).symm.trans hf) |>.symm
      obtain rfl : fn = Tryz.f3 := (Option.some.inj (Tryz.func3.symm.trans hfn)).symm
      exact ⟨by kernel_rfl, fun j t ht => by
        rw [Tryz.params3] at ht
        have hm : t ∈ [25, 30] := by simpa using Array.mem_of_getElem? ht
        have hall : ([25, 30].all fun u => !Tryz.prog.wantsStandIn u) = true := by kernel_rfl
        exact (show Tryz.prog.wantsStandIn t = false by simpa using List.all_eq_true.1 hall t hm)⟩)
    (by kernel_rfl)
end Go.Proofs.YtldnelimemjaiaaGreatDoor.labelRing
