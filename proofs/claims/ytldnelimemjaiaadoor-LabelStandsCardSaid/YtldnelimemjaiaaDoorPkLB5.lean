/-
  Texts of one seat, one behind the other.
-/
import Derived.Lib.SmallJoins
import Derived.Deep.Matrix
import Derived.Deep.SlicePairs
import Derived.Deep.Grids
import Derived.SizedLaws
import Derived.Test.YtldnelimemjaiaaDoorPkLB4
/-
  Layer 9's laws beside the document's answer: what lies where while a law runs and wipes what it was answered.
-/
namespace Go.Proofs.YtldnelimemjaiaaDoor
open Go.RowKit Go.Shelf
set_option maxRecDepth 100000

/-- A disk that lies below block L, its box too. -/
def LawL (w : World) (L g : Nat) (x : DAt) (D : DkL) (w' : World) : Prop :=
  Blk w' g 30 #[.slice x.ba D.1.length x.bc, .slice x.wa D.2.length x.wc] ∧ w.heap.size ≤ g ∧ g < L ∧ L ≤ w'.heap.size ∧ Dsk w' L x D ∧ Below w.heap.size w w'
section
variable {w w' w'' : World} {L L' g : Nat} {x : DAt} {D : DkL}
theorem Dsk.belowL (h : Dsk w L x D) (hb : Below L w w') : Dsk w' L x D := ⟨h.1.below hb, h.2.below hb⟩
theorem Dsk.moreL (h : Dsk w L x D) (hb : L ≤ L') : Dsk w L' x D := ⟨h.1.more hb, h.2.more hb⟩
theorem LawL.below (h : LawL w L g x D w') (hb : Below L w' w'') : LawL w L g x D w'' := by
  obtain ⟨h1, h2, h3, h4, h5, h6⟩ := h
  exact ⟨h1.below hb h3, h2, h3, Nat.le_trans h4 hb.size, h5.belowL hb, h6.trans (hb.mono (by omega))⟩
theorem LawL.step (h : LawL w L g x D w') (hb : Below w'.heap.size w' w'') : LawL w L g x D w'' := h.below (hb.mono h.2.2.2.1)
theorem LawL.c0 (h : LawL w L g x D w') : w'.cell? ⟨g, 0, none⟩ = some (.slice x.ba D.1.length x.bc) := h.1.cell 0
theorem LawL.c1 (h : LawL w L g x D w') : w'.cell? ⟨g, 1, none⟩ = some (.slice x.wa D.2.length x.wc) := h.1.cell 1
theorem LawL.dsk (h : LawL w L g x D w') : Dsk w' w'.heap.size x D := h.2.2.2.2.1.moreL h.2.2.2.1
theorem LawL.bel (h : LawL w L g x D w') : Below w.heap.size w w' := h.2.2.2.2.2
theorem lawL_box (w : World) (x : DAt) (D : DkL) (h : Dsk w w.heap.size x D) : LawL w (w.heap.size + 1) w.heap.size x D (w.alloc (.cells #[.slice x.ba D.1.length x.bc, .slice x.wa D.2.length x.wc] 30)) :=
  have b := alloc_b w (.cells #[.slice x.ba D.1.length x.bc, .slice x.wa D.2.length x.wc] 30)
  ⟨Blk.new w _ _, Nat.le_refl _, Nat.lt_succ_self _, by rw [World.size_alloc]; exact Nat.le_refl _, by have := h.step b; rwa [World.size_alloc] at this, b⟩
/-- A disk that a call answered is put in a box. -/
theorem LawL.put {y : DAt} {E : DkL} (h : LawL w L g x D w') (hd : Dsk w' w'.heap.size y E) : LawL w (w'.heap.size + 1) w'.heap.size y E (w'.alloc (.cells #[.slice y.ba E.1.length y.bc, .slice y.wa E.2.length y.wc] 30)) :=
  have b := alloc_b w' (.cells #[.slice y.ba E.1.length y.bc, .slice y.wa E.2.length y.wc] 30)
  ⟨Blk.new w' _ _, h.bel.size, Nat.lt_succ_self _, by rw [World.size_alloc]; exact Nat.le_refl _, by have := hd.step b; rwa [World.size_alloc] at this, h.bel.trans (b.mono h.bel.size)⟩
end
/-- A disk that is the law's own, and its box. -/
def MineL (lo g : Nat) (x : DAt) (D : DkL) (w : World) : Prop := Blk w g 30 #[.slice x.ba D.1.length x.bc, .slice x.wa D.2.length x.wc] ∧ lo ≤ g ∧ OutD w lo x D
section
variable {w w' : World} {lo g b : Nat} {x : DAt} {D : DkL}
theorem Laid.beside (h : Laid w lo x D) (hg : w.grownBy w' (some b)) (hb : b < lo) : Laid w' lo x D := by
  obtain ⟨r, hb', hw, h0, k1, k2, k3, h1, h2, h3, h4, h5, ⟨cb, h6, h7⟩, cw, h9, h10⟩ := h
  exact ⟨r, hb', hw, h0, k1, k2, k3, h1, h2, h3, h4, h5.grown hg (fun e => by cases e; omega), ⟨cb, h6.grown hg (fun e => by cases e; omega), h7⟩, cw, h9.grown hg (fun e => by cases e; omega), h10⟩
theorem MineL.step (h : MineL lo g x D w) (hb : Below w.heap.size w w') : MineL lo g x D w' := ⟨h.1.below hb h.1.lt, h.2.1, h.2.2.below hb⟩
theorem MineL.beside (h : MineL lo g x D w) (hg : w.grownBy w' (some b)) (hb : b < lo) : MineL lo g x D w' :=
  ⟨h.1.grown hg (fun e => by cases e; have := h.2.1; omega), h.2.1, h.2.2.imp id fun h => h.beside hg hb⟩
theorem MineL.c0 (h : MineL lo g x D w) : w.cell? ⟨g, 0, none⟩ = some (.slice x.ba D.1.length x.bc) := h.1.cell 0
theorem MineL.c1 (h : MineL lo g x D w) : w.cell? ⟨g, 1, none⟩ = some (.slice x.wa D.2.length x.wc) := h.1.cell 1
theorem mineL_put (h : OutD w lo x D) (hlo : lo ≤ w.heap.size) : MineL lo w.heap.size x D (w.alloc (.cells #[.slice x.ba D.1.length x.bc, .slice x.wa D.2.length x.wc] 30)) :=
  ⟨Blk.new w _ _, hlo, h.below (alloc_b w _)⟩
end
theorem LaidR.below {w w' : World} {lo r : Nat} {x : DAt} {D : DkL} (h : LaidR w lo r x D) (hb' : Below w.heap.size w w') : LaidR w' lo r x D := by
  obtain ⟨hb, hw, h0, k1, k2, k3, h1, h2, h3, h4, h5, ⟨cb, h6, h7⟩, cw, h9, h10⟩ := h
  exact ⟨hb, hw, h0, k1, k2, k3, h1, h2, h3, h4, h5.below hb' h5.lt, ⟨cb, h6.below hb' h6.lt, h7⟩, cw, h9.below hb' h9.lt, h10⟩
theorem LaidR.beside {w w' : World} {lo r : Nat} {row : Option Nat} {x : DAt} {D : DkL} (h : LaidR w lo r x D) (hg : w.grownBy w' row) (hb : ∀ b, row = some b → b < lo) : LaidR w' lo r x D := by
  obtain ⟨hb', hw, h0, k1, k2, k3, h1, h2, h3, h4, h5, ⟨cb, h6, h7⟩, cw, h9, h10⟩ := h
  exact ⟨hb', hw, h0, k1, k2, k3, h1, h2, h3, h4, h5.grown hg (fun e => by have := hb _ e.symm; omega), ⟨cb, h6.grown hg (fun e => by have := hb _ e.symm; omega), h7⟩, cw, h9.grown hg (fun e => by have := hb _ e.symm; omega), h10⟩
/-- A disk that is the law's own, its box, and the block of its bytes. -/
def MineR (lo hi g : Nat) (row : Option Nat) (x : DAt) (D : DkL) (w : World) : Prop := Blk w g 30 #[.slice x.ba D.1.length x.bc, .slice x.wa D.2.length x.wc] ∧ lo ≤ g ∧ OutR w lo row x D ∧ ∀ r, row = some r → lo ≤ r ∧ r < hi
section
variable {w w' w'' : World} {lo hi g L : Nat} {row row' : Option Nat} {x : DAt} {D : DkL}
theorem MineR.step (h : MineR lo hi g row x D w) (hb : Below w.heap.size w w') : MineR lo hi g row x D w' := by
  obtain ⟨h1, h2, h3, h4⟩ := h
  refine ⟨h1.below hb h1.lt, h2, ?_, h4⟩
  rcases h3 with h3 | ⟨r, e, h3⟩
  · exact .inl h3
  · exact .inr ⟨r, e, h3.below hb⟩
theorem MineR.beside (h : MineR lo hi g row x D w) (hg : w.grownBy w' row') (hb : ∀ b, row' = some b → b < lo) : MineR lo hi g row x D w' := by
  obtain ⟨h1, h2, h3, h4⟩ := h
  refine ⟨h1.grown hg (fun e => by have := hb _ e.symm; omega), h2, ?_, h4⟩
  rcases h3 with h3 | ⟨r, e, h3⟩
  · exact .inl h3
  · exact .inr ⟨r, e, h3.beside hg hb⟩
theorem MineR.c0 (h : MineR lo hi g row x D w) : w.cell? ⟨g, 0, none⟩ = some (.slice x.ba D.1.length x.bc) := h.1.cell 0
theorem MineR.c1 (h : MineR lo hi g row x D w) : w.cell? ⟨g, 1, none⟩ = some (.slice x.wa D.2.length x.wc) := h.1.cell 1
theorem MineR.dsk (h : MineR lo hi g row x D w) : Dsk w w.heap.size x D := h.2.2.1.out.dsk
theorem mineR_put (h : OutD w lo x D) (hlo : lo ≤ w.heap.size) : ∃ row, MineR lo w.heap.size w.heap.size row x D (w.alloc (.cells #[.slice x.ba D.1.length x.bc, .slice x.wa D.2.length x.wc] 30)) := by
  obtain ⟨row, hr⟩ := h.row
  refine ⟨row, Blk.new w _ _, hlo, ?_, hr.low⟩
  rcases hr with hr | ⟨r, e, hr⟩
  · exact .inl hr
  · exact .inr ⟨r, e, hr.below (alloc_b w _)⟩
theorem LawL.rows (h : LawL w L g x D w') (hg : w'.grownBy w'' row) (hr : ∀ r, row = some r → L ≤ r) : LawL w L g x D w'' := h.below ((Below.refl L w').grown hg h.2.2.2.1 hr)
end
theorem own_pos {w : World} {B n : Nat} {v : Value} {xs : List Value} (h : w.ownsRow B 5 1 v n xs) (h0 : 0 < n) : ∃ g c, v = .slice (some ⟨g, 0, none⟩) n c := by
  obtain ⟨hl, ⟨rfl, e⟩ | ⟨g, cap, cur, rfl, _⟩⟩ := h
  · omega
  · exact ⟨g, cap, rfl⟩
end Go.Proofs.YtldnelimemjaiaaDoor
/-
  The statements of layer 11: the label of a Gen, the example, and whether two lists of labels are the same.
-/
namespace Go.Proofs.YtldnelimemjaiaaDoor
open Go.RowKit Go.Shelf
set_option maxRecDepth 100000

/-- The label of a Gen. -/
def oneL (g : Nat) : Lb := (g, 1, (20, 1, 0, 0, 0))
theorem wf_oneL {g : Nat} (h : g < 4294967296) : WfL (oneL g) := ⟨h, by simp [oneL], ⟨by simp [oneL], by simp [oneL]⟩, by simp [oneL], by simp [oneL], by simp [oneL], by simp [oneL]⟩
theorem may_oneL {g : Nat} (h : 1 ≤ g ∧ g ≤ 16777215) : MayL (oneL g) := ⟨h, by simp [oneL], by simp [oneL], .inr ⟨by simp [oneL], by simp [oneL]⟩⟩
theorem one_any (g : Nat) (w : World) : Calls Tryd.prog 11 #[.int .u32 (g : Int)] w fun e w' => e = .returned (lbV (oneL g)) ∧ Below w.heap.size w w' := by
  have hb : Below w.heap.size w (w.alloc (.cells #[.int .u32 (g : Int), .int .u32 1, .int .i64 20, .int .u32 1, .int .u32 0, .int .u32 0, .int .u32 0] 38)) := (Below.refl _ w).alloc (Nat.le_refl _) _
  have hk := Blk.new w 38 #[.int .u32 (g : Int), .int .u32 1, .int .i64 20, .int .u32 1, .int .u32 0, .int .u32 0, .int .u32 0]
  have HB := Lib.hid hb
  have HK := Lib.hid hk
  clear hb hk
  go_enter Tryd.func11, Tryd.ntmps11
  go_wp2_with fail
  obtain ⟨w1, hw1⟩ : ∃ x, w.alloc (.cells #[.int .u32 (g : Int), .int .u32 1, .int .i64 20, .int .u32 1, .int .u32 0, .int .u32 0, .int .u32 0] 38) = x := ⟨_, rfl⟩
  rw [hw1] at HB HK ⊢
  have c0 := HK.out.cell 0
  have c1 := HK.out.cell 1
  have c2 := HK.out.cell 2
  have c3 := HK.out.cell 3
  have c4 := HK.out.cell 4
  have c5 := HK.out.cell 5
  have c6 := HK.out.cell 6
  exact bodyPost_ret (v := lbV (oneL g)) (by simp [results, Tryd.f11, go_sem, c0, c1, c2, c3, c4, c5, c6, oneL]) rfl ⟨rfl, HB.out⟩

/-- Put's answer to a disk on which there is room. -/
theorem putO_ok {D : DkL} {l : Lb} (hm : MayD D) (hl : MayL l) (hn : D.2.length ≠ 4096) : putO D l = (withD D ((l.1 % 4 : Nat) : Int) (blockL l), 0) := by
  unfold putO
  rw [if_pos hm, if_pos hl]
  exact write_ok hm (by omega) (blockL_length l) hn
theorem labelO_nought : labelO (List.replicate 256 0) = none := by
  have e : (readL (List.replicate 256 0)).1 = 0 := by decide +kernel
  unfold labelO
  split
  · rw [if_neg (fun h => by have := h.1.1.1; omega)]
  · rfl
theorem seenL_new {q : Nat} (h : q < 256) : seenL newD q = none := by
  unfold seenL
  rw [left_still rfl, newD_get h, labelO_nought]
/-- The disk of the example. -/
def aliveD : DkL := withD newD ((1 : Nat) : Int) (blockL (oneL 5))
theorem alive_put : putO newD (oneL 5) = (aliveD, 0) := putO_ok newD_may (may_oneL (by omega)) (by decide)
theorem alive_may : MayD aliveD := with_may newD_may (by omega) (blockL_length _) (by decide)
theorem alive_find : findO aliveD = ([oneL 5], 0) := by
  have h : ∀ q, q < 4 → seenL aliveD q = if q = 1 then some (oneL 5) else none := fun q hq => by
    have := seenL_with (D := newD) (may_oneL (g := 5) (by omega)) (wf_oneL (g := 5) (by omega)) q
    rw [seenL_new (by omega)] at this
    exact this
  rw [findO, if_pos alive_may, findL]
  have e : standL (seenL aliveD) 4 = standL (fun q => if q = 1 then some (oneL 5) else none) 4 := standL_congr h
  rw [e]
  rfl
set_option maxHeartbeats 4000000 in
theorem lAlive_any (w : World) (hz : Szs w) : Calls Tryd.prog 7 #[] w fun e w' => e = .returned (.bool true) ∧ Below w.heap.size w w' := by
  have hmx : Tryd.prog.follows Departure.mixedOrders = true := by kernel_rfl
  have hwl := wf_oneL (g := 5) (by omega)
  have HP : Hid (∀ W x, Szs W → Dsk W W.heap.size x newD → Calls Tryd.prog 10 #[dval x newD, lbV (oneL 5)] W (ToldD (aliveD, 0) W)) := Lib.hid fun W x h1 h2 => by
    have := lPut_any x newD (oneL 5) W h2 hwl h1
    rwa [alive_put] at this
  have HF : Hid (∀ W x, Szs W → Dsk W W.heap.size x aliveD → Calls Tryd.prog 8 #[dval x aliveD] W (OutLs ([oneL 5], 0) W)) := Lib.hid fun W x h1 h2 => by
    have := lFind_any x aliveD W h2 h1
    rwa [alive_find] at this
  have HO : Hid (∀ W, Calls Tryd.prog 11 #[.int .u32 5] W fun e w' => e = .returned (lbV (oneL 5)) ∧ Below W.heap.size W w') := Lib.hid fun W => one_any 5 W
  obtain ⟨L, hL⟩ : ∃ L, oneL 5 = L := ⟨_, rfl⟩
  rw [hL] at HP HF HO
  obtain ⟨D1, hD1⟩ : ∃ D, aliveD = D := ⟨_, rfl⟩
  rw [hD1] at HP HF
  have hn := dNew_any w
  obtain ⟨D0, hD0⟩ : ∃ D, newD = D := ⟨_, rfl⟩
  rw [hD0] at HP hn
  simp only [dval] at HP HF
  have HZ := Lib.hid hz
  have HN := Lib.hid hn
  obtain ⟨g, e, a, b, c, d, f⟩ := L
  have heq : ∀ W, (Op.equalIn 10000 38 (lbV (g, e, a, b, c, d, f)) (lbV (g, e, a, b, c, d, f))).run Tryd.prog W = .ok true W := fun W => by rw [eqLb, (eqL_iff _ _).2 rfl]
  simp only [lbV] at heq
  clear hL hD1 hD0 hn hz hwl
  go_enter Tryd.func7, Tryd.ntmps7
  go_wp2_with (first
    | (go_at_call 9
       refine HN.out.mono ?_
       rintro ev w1 ⟨x1, rfl, l1, b1⟩
       have HD1 := Lib.hid l1.dsk
       have HB1 := Lib.hid b1
       simp only [dval]
       clear l1 b1)
    | (go_at_call 11
       refine (HO.out w1).mono ?_
       rintro ev w2 ⟨rfl, b2⟩
       have HD2 := Lib.hid (HD1.out.step b2)
       have HB2 := Lib.hid (HB1.out.trans (b2.mono HB1.out.size))
       clear b2)
    | (go_at_call 10
       refine (HP.out w2 x1 (HZ.out.step HB2.out) HD2.out).mono ?_
       rintro ev w3 ⟨x3, rfl, o3, b3⟩
       simp only [dval]
       have HD3 := Lib.hid o3.dsk
       have HB3 := Lib.hid (HB2.out.trans (b3.mono HB2.out.size))
       have ba : Below w3.heap.size w3 (w3.alloc (.cells #[.slice x3.ba D1.1.length x3.bc, .slice x3.wa D1.2.length x3.wc] 30)) := (Below.refl _ _).alloc (Nat.le_refl _) _
       have HD4 := Lib.hid (HD3.out.step ba)
       have HB4 := Lib.hid (HB3.out.trans (ba.mono HB3.out.size))
       have hfi := HF.out _ x3 (HZ.out.step HB4.out) HD4.out
       have HFI := Lib.hid hfi
       clear o3 b3 ba hfi)
    | (go_at_call 8
       refine HFI.out.mono ?_
       rintro ev w5 ⟨v5, rfl, r5, b5⟩
       have HB5 := Lib.hid (HB4.out.trans (b5.mono HB4.out.size))
       obtain ⟨a5, c5, rfl, s5⟩ := r5.lbs
       have HS5 := Lib.hid s5
       clear r5 b5 s5))
  obtain ⟨wd, hwd⟩ : ∃ wd, w5.drew = wd := ⟨_, rfl⟩
  have bd : Below w5.heap.size w5 wd := by rw [← hwd]; exact (Below.refl _ _).drew
  have HBd := Lib.hid (HB5.out.trans (bd.mono HB5.out.size))
  obtain ⟨bb, oo, rfl, hlt, _, c0, c1, c2, c3, c4, c5', c6⟩ := (HS5.out.step bd).cells 0 (by simp)
  simp only [List.getD_cons_zero, Nat.zero_mul, Nat.add_zero] at c0 c1 c2 c3 c4 c5' c6
  have C := fun X (hX : Below wd.heap.size wd X) => And.intro ((hX.cell (p := ⟨bb, oo, none⟩) hlt).trans c0) (And.intro ((hX.cell (p := ⟨bb, oo + 1, none⟩) hlt).trans c1) (And.intro ((hX.cell (p := ⟨bb, oo + 2, none⟩) hlt).trans c2) (And.intro ((hX.cell (p := ⟨bb, oo + 3, none⟩) hlt).trans c3) (And.intro ((hX.cell (p := ⟨bb, oo + 4, none⟩) hlt).trans c4) (And.intro ((hX.cell (p := ⟨bb, oo + 5, none⟩) hlt).trans c5') ((hX.cell (p := ⟨bb, oo + 6, none⟩) hlt).trans c6))))))
  have hbwd : Below wd.heap.size wd wd := Below.refl _ _
  clear c0 c1 c2 c3 c4 c5' c6 bd
  refine wpI_start (Below wd.heap.size wd) [0, 1, 2, 3, 4, 5, 6, 7, 8, 9, 10, 11, 12, 13, 14, 15, 16, 17, 18] hmx rfl hwd ?_
  clear hwd
  iterate 15 (
    refine wpI_read (v := ?_) hbwd rfl (by kernel_rfl) (by kernel_rfl) (by kernel_rfl) (fun _ _ _ h => h) (.inl ⟨by rfl, ?_⟩) ?_
    rotate_left
    · intro X hX
      obtain ⟨p0_, p1_, p2_, p3_, p4_, p5_, p6_⟩ := C X hX
      clear hX
      go_simp
      with_reducible rfl
    try simp only [Act.put, List.setIfInBounds_toArray, List.set_cons_zero, List.set_cons_succ])
  refine wpI_lone rfl (by kernel_rfl) (fun K hK => ?_)
  go_simp
  refine (HO.out wd).mono ?_
  rintro ev w6 ⟨rfl, b6⟩
  refine hK _ _ b6 ?_
  clear hK K
  try simp only [Act.put, List.setIfInBounds_toArray, List.set_cons_zero, List.set_cons_succ]
  iterate 3 (
    refine wpI_read (v := ?_) b6 rfl (by kernel_rfl) (by kernel_rfl) (by kernel_rfl) (fun _ _ _ h => h) (.inl ⟨by rfl, ?_⟩) ?_
    rotate_left
    · intro X hX
      obtain ⟨p0_, p1_, p2_, p3_, p4_, p5_, p6_⟩ := C X hX
      clear hX
      go_simp
      with_reducible rfl
    try simp only [Act.put, List.setIfInBounds_toArray, List.set_cons_zero, List.set_cons_succ])
  refine wpI_done (by kernel_rfl) ?_
  clear C
  have HB6 := Lib.hid (HBd.out.trans (b6.mono HBd.out.size))
  clear b6
  go_wp2_with fail
  go_ret
  exact ⟨rfl, HB6.out⟩
instance decLb : DecidableEq Lb := fun a b => inferInstanceAs (Decidable (a = b))
/-- The cells of a label of a list. -/
theorem lb_cells {w : World} {B len cap : Nat} {a : Option Addr} {L : List Lb} (h : Lbs w B a len cap L) (i : Nat) (hi : i < len) : ∃ b off g e x y z t u, a = some ⟨b, off, none⟩ ∧ b < B ∧ L.getD i l0 = (g, e, x, y, z, t, u) ∧ WfL (g, e, x, y, z, t, u) ∧ w.cell? ⟨b, off + i * 7, none⟩ = some (.int .u32 (g : Int)) ∧ w.cell? ⟨b, off + i * 7 + 1, none⟩ = some (.int .u32 (e : Int)) ∧ w.cell? ⟨b, off + i * 7 + 2, none⟩ = some (.int .i64 x) ∧
    w.cell? ⟨b, off + i * 7 + 3, none⟩ = some (.int .u32 (y : Int)) ∧ w.cell? ⟨b, off + i * 7 + 4, none⟩ = some (.int .u32 (z : Int)) ∧ w.cell? ⟨b, off + i * 7 + 5, none⟩ = some (.int .u32 (t : Int)) ∧ w.cell? ⟨b, off + i * 7 + 6, none⟩ = some (.int .u32 (u : Int)) := by
  obtain ⟨b, off, e1, h1, h2, h3⟩ := h.cells i hi
  exact ⟨b, off, _, _, _, _, _, _, _, e1, h1, rfl, h2, h3⟩
theorem getD_all {L M : List Lb} (hl : L.length = M.length) (h : ∀ i, i < L.length → L.getD i l0 = M.getD i l0) : L = M := by
  apply List.ext_getElem hl
  intro i h1 h2
  have := h i h1
  rw [List.getD_eq_getElem?_getD, List.getD_eq_getElem?_getD, List.getElem?_eq_getElem h1, List.getElem?_eq_getElem h2] at this
  exact this
set_option maxHeartbeats 2000000 in
theorem lSame_any (a : Option Addr) (n c : Nat) (L : List Lb) (a' : Option Addr) (n' c' : Nat) (M : List Lb) (w : World) (hL : Lbs w w.heap.size a n c L) (hM : Lbs w w.heap.size a' n' c' M) : Calls Tryd.prog 15 #[.slice a n c, .slice a' n' c'] w fun e w' => e = .returned (.bool (decide (L = M))) ∧ Below w.heap.size w w' := by
  have l1 := hL.len_le
  have l2 := hM.len_le
  have n0 : (0 : Int) ≤ n := by omega
  have n1 : (0 : Int) ≤ n' := by omega
  have HL := Lib.hid hL
  have HM := Lib.hid hM
  have HE1 := Lib.hid hL.1
  have HE2 := Lib.hid hM.1
  obtain ⟨R, hR⟩ : ∃ R, decide (L = M) = R := ⟨_, rfl⟩
  rw [hR]
  have HR := Lib.hid hR
  clear hL hM hR
  go_enter Tryd.func15, Tryd.ntmps15
  go_wp2_with fail
  go_loopw [5] (fun i wr => ∃ k : Nat, k ≤ n ∧ k ≤ n' ∧ i = .int .i64 k ∧ (∀ j, j < k → L.getD j l0 = M.getD j l0) ∧ Below w.heap.size w wr) (fun i _ => n - (intOf i).toNat)
  case atStart => exact ⟨0, Nat.zero_le _, Nat.zero_le _, rfl, fun j hj => absurd hj (Nat.not_lt_zero _), Below.refl _ _⟩
  case round =>
    obtain ⟨k, hk, hk', rfl, hall, hb⟩ := hrel
    have k0 : (0 : Int) ≤ k := by omega
    have HA := Lib.hid hall
    have HB := Lib.hid hb
    clear hall hb
    by_cases h1 : k < n
    · have i1 : (k : Int) < n := by omega
      by_cases h2 : k < n'
      · have i2 : (k : Int) < n' := by omega
        obtain ⟨b1, o1, g1, e1, x1, y1, z1, t1, u1, rfl, hlt1, v1, _, c0, c1, c2, c3, c4, c5, c6⟩ := lb_cells (HL.out.below HB.out) k h1
        obtain ⟨b2, o2, g2, e2, x2, y2, z2, t2, u2, rfl, hlt2, v2, _, d0, d1, d2, d3, d4, d5, d6⟩ := lb_cells (HM.out.below HB.out) k h2
        have heq : ∀ W, (Op.equalIn 10000 38 (lbV (g1, e1, x1, y1, z1, t1, u1)) (lbV (g2, e2, x2, y2, z2, t2, u2))).run Tryd.prog W = .ok (eqL (g1, e1, x1, y1, z1, t1, u1) (g2, e2, x2, y2, z2, t2, u2)) W := fun W => eqLb _ _ W
        simp only [lbV] at heq
        by_cases h3 : eqL (g1, e1, x1, y1, z1, t1, u1) (g2, e2, x2, y2, z2, t2, u2) = true
        · have HK := Lib.hid (show L.getD k l0 = M.getD k l0 by rw [v1, v2]; exact (eqL_iff _ _).1 h3)
          rw [h3] at heq
          clear h3 v1 v2 hlt1 hlt2
          go_wp2_with fail
          go_quiet (fail)
          go_wp2_with fail
          go_roundw
          case rel =>
            refine ⟨k + 1, by omega, by omega, by go_num, fun j hj => ?_, below_drewN HB.out _⟩
            by_cases e : j = k
            · subst e; exact HK.out
            · exact HA.out j (by omega)
          case measure => simp [intOf]; omega
        · have h3' : eqL (g1, e1, x1, y1, z1, t1, u1) (g2, e2, x2, y2, z2, t2, u2) = false := by simpa using h3
          rw [h3'] at heq
          have hR : R = false := by
            rw [← HR.out]
            refine decide_eq_false fun h => h3 ((eqL_iff _ _).2 ?_)
            rw [← v1, ← v2, h]
          subst hR
          clear h3 h3' v1 v2 hlt1 hlt2
          go_wp2_with fail
          go_quiet (fail)
          go_wp2_with fail
          go_ret
          exact ⟨rfl, below_drewN HB.out _⟩
      · have i2 : ¬ (k : Int) < n' := by omega
        have hne : ((n : Int) == n') = false := by simp; omega
        have hR : R = false := by
          rw [← HR.out]
          refine decide_eq_false fun h => ?_
          have := HE1.out
          have := HE2.out
          rw [h] at *
          omega
        subst hR
        go_wp2_with fail
        go_ret
        exact ⟨rfl, HB.out⟩
    · have i1 : ¬ (k : Int) < n := by omega
      by_cases h4 : n = n'
      · subst h4
        have hR : R = true := by
          rw [← HR.out]
          refine decide_eq_true (getD_all (by rw [HE1.out, HE2.out]) fun j hj => HA.out j (by have := HE1.out; omega))
        subst hR
        have heq : ((n : Int) == n) = true := by simp
        go_wp2_with fail
        go_ret
        exact ⟨by simp, HB.out⟩
      · have hne : ((n : Int) == n') = false := by simp; omega
        have hR : R = false := by
          rw [← HR.out]
          refine decide_eq_false fun h => ?_
          have := HE1.out
          have := HE2.out
          rw [h] at *
          omega
        subst hR
        go_wp2_with fail
        go_ret
        exact ⟨rfl, HB.out⟩
end Go.Proofs.YtldnelimemjaiaaDoor
/-
  The statements of layer 11: a box that is laid anew; what does not change the labels that stand.
-/
namespace Go.Proofs.YtldnelimemjaiaaDoor
open Go.RowKit Go.Shelf
set_option maxRecDepth 100000

section
variable {w w' : World} {L g lo : Nat} {x y : DAt} {D E : DkL}
/-- A disk's box is laid anew with a disk that a call answered. -/
theorem LawL.again (h : LawL w L g x D w') (ho : OutD w' lo y E) (hg : g < lo) : ∃ ws, (w'.setCell ⟨g, 0, none⟩ (.slice y.ba E.1.length y.bc)).setCell ⟨g, 1, none⟩ (.slice y.wa E.2.length y.wc) = ws ∧ LawL w ws.heap.size g y E ws ∧ Below g w' ws ∧ ws.heap.size = w'.heap.size := by
  have hb : Below g w' ((w'.setCell ⟨g, 0, none⟩ (.slice y.ba E.1.length y.bc)).setCell ⟨g, 1, none⟩ (.slice y.wa E.2.length y.wc)) := ((Below.refl g w').setCell (p := ⟨g, 0, none⟩) (Nat.le_refl _) _).setCell (p := ⟨g, 1, none⟩) (Nat.le_refl _) _
  have hk := (h.1.set_ 0 (.slice y.ba E.1.length y.bc)).set_ 1 (.slice y.wa E.2.length y.wc)
  have hz : ((w'.setCell ⟨g, 0, none⟩ (.slice y.ba E.1.length y.bc)).setCell ⟨g, 1, none⟩ (.slice y.wa E.2.length y.wc)).heap.size = w'.heap.size := by simp [World.setCell]
  refine ⟨_, rfl, ⟨hk, h.2.1, ?_, Nat.le_refl _, (ho.far hg _ _).dsk, h.bel.trans (hb.mono h.2.1)⟩, hb, hz⟩
  rw [hz]
  exact h.1.lt
theorem LawL.stepG (h : LawL w L g x D w') {w'' : World} {G : Nat} (hb : Below G w' w'') (hL : L ≤ G) : LawL w L g x D w'' := h.below (hb.mono hL)
end
theorem Blk.stepG {w w' : World} {g G : Nat} {t : TypeId} {cs : Array Value} (h : Blk w g t cs) (hb : Below G w w') (hg : g < G) : Blk w' g t cs := h.below hb hg
/-- The labels that stand on disks whose first blocks read alike. -/
theorem findL_same {D E : DkL} (h : ∀ p, p < 4 → seenL D p = seenL E p) : findL D = findL E := standL_congr h
theorem find_turned {D : DkL} {l m : Lb} (hl : MayL l) (hm : MayL m) (wl : WfL l) (wm : WfL m) (hne : l.1 % 4 ≠ m.1 % 4) :
    findL (withD (withD D ((l.1 % 4 : Nat) : Int) (blockL l)) ((m.1 % 4 : Nat) : Int) (blockL m)) = findL (withD (withD D ((m.1 % 4 : Nat) : Int) (blockL m)) ((l.1 % 4 : Nat) : Int) (blockL l)) := by
  refine findL_same fun p _ => ?_
  rw [seenL_with hm wm, seenL_with hl wl, seenL_with hl wl, seenL_with hm wm]
  by_cases h1 : p = m.1 % 4
  · rw [if_pos h1, if_neg (by omega), if_pos h1]
  · rw [if_neg h1]
    by_cases h2 : p = l.1 % 4
    · rw [if_pos h2, if_pos h2]
    · rw [if_neg h2, if_neg h2, if_neg h1]
theorem find_twice {D : DkL} {m : Lb} (hm : MayL m) (wm : WfL m) : findL (withD (withD D ((m.1 % 4 : Nat) : Int) (blockL m)) ((m.1 % 4 : Nat) : Int) (blockL m)) = findL (withD D ((m.1 % 4 : Nat) : Int) (blockL m)) := by
  refine findL_same fun p _ => ?_
  rw [seenL_with hm wm, seenL_with hm wm]
  by_cases h1 : p = m.1 % 4
  · rw [if_pos h1, if_pos h1]
  · rw [if_neg h1]
theorem find_far {D : DkL} {p : Nat} {s : List UInt8} (h : 4 ≤ p) : findL (withD D (p : Int) s) = findL D := findL_same fun q hq => seenL_far (by omega)
/-- Write's answer where it is one. -/
theorem writeO_cases (D : DkL) (p : Int) (s : List UInt8) : (∃ c : Int, writeO D p s = (([], []), c) ∧ c ≠ 0) ∨ (∃ q : Nat, p = q ∧ q < 256 ∧ MayD (withD D p s) ∧ writeO D p s = (withD D p s, 0)) := by
  unfold writeO
  by_cases h1 : MayD D
  · rw [if_pos h1]
    by_cases h2 : 0 ≤ p ∧ p < 256
    · rw [if_pos h2]
      by_cases h3 : s.length = 256
      · rw [if_pos h3]
        by_cases h4 : D.2.length = 4096
        · rw [if_pos h4]; exact .inl ⟨_, rfl, by decide⟩
        · rw [if_neg h4]
          obtain ⟨q, rfl⟩ := Int.eq_ofNat_of_zero_le h2.1
          exact .inr ⟨q, rfl, by omega, with_may h1 h2 h3 h4, rfl⟩
      · rw [if_neg h3]; exact .inl ⟨_, rfl, by decide⟩
    · rw [if_neg h2]; exact .inl ⟨_, rfl, by decide⟩
  · rw [if_neg h1]; exact .inl ⟨_, rfl, by decide⟩
end Go.Proofs.YtldnelimemjaiaaDoor
/-
  What a disk that came in by value is; what a slice of marks that came in is.
-/
namespace Go.Proofs.YtldnelimemjaiaaDoor
open Go.RowKit Go.Shelf Go.Joins Go.ChangeShapes Go.WideShapes Go.ChangeAt
set_option maxRecDepth 100000

theorem cellsDisk : Tryd.prog.cellsOf 30 = 2 := by kernel_rfl
theorem weights_of {H : Type} {P : Program} {e : TypeId} {d : DataW H} {n : Nat} (hn : n ∈ d.weights P e) : ∀ {l : List (DataW H)}, d ∈ l → n ∈ DataW.weightsAll P e l
  | [], h => by cases h
  | x :: l, h => by
    unfold DataW.weightsAll
    rcases List.mem_cons.1 h with rfl | h
    · exact List.mem_append_left _ hn
    · exact List.mem_append_right _ (weights_of hn h)
/-- A slice of bytes that came in, and how long it may be. -/
theorem open_piece {H : Type} {enc : TypeId × Value → H} {W : World} {fuel : Nat} {v : Value} {y : DataW H × List MemPlace} (hf : DataW.trod enc Tryd.prog W 0 (fun _ => true) true fuel 44 [v] = some y) :
    ∃ a len cap s, v = .slice a len cap ∧ Bsl W W.heap.size a len cap s ∧ ((∀ n ∈ y.1.weights Tryd.prog 44, n ≤ reachBytes) → s.length ≤ reachBytes) := by
  have hb : Tryd.prog.bytesOf 5 = 1 := by kernel_rfl
  rcases open_ints Tryd.underlying44 Tryd.underlying5 (by kernel_rfl) hf with ⟨hcs, rfl⟩ | ⟨x, l, c, zs, hcs, _, hl, hm, hz, rfl, hcell, hwz⟩
  · obtain rfl : v = .slice none 0 0 := by simpa using hcs
    exact ⟨none, 0, 0, _, rfl, bsl_of_row (.inl ⟨rfl, rfl, rfl, rfl⟩), fun _ => Nat.zero_le _⟩
  · obtain rfl : v = .slice (some x) l c := by simpa using hcs
    have hz' : zs.length = c := by simpa using hz
    refine ⟨_, l, c, _, rfl, bsl_of_row (.inr ⟨x, rfl, hl, hm, hz', hcell, hwz⟩), fun hw => ?_⟩
    have := hw ((lits (H := H) .u8 (zs.take l)).length + (lits (H := H) .u8 (zs.drop l)).length) (by
      simp only [DataW.weights, Tryd.underlying44, hb, Nat.mul_one]
      exact List.mem_cons_self ..)
    simp only [lits, List.length_map, List.length_take, List.length_drop] at this ⊢
    omega
/-- A slice of slices of bytes that came in. -/
theorem open_blocks {H : Type} {enc : TypeId × Value → H} {W : World} {fuel : Nat} {v : Value} {y : DataW H × List MemPlace} (hf : DataW.trod enc Tryd.prog W 0 (fun _ => true) true fuel 27 [v] = some y) :
    ∃ a len cap bl, v = .slice a len cap ∧ Bls W W.heap.size a len cap bl ∧ ((∀ n ∈ y.1.weights Tryd.prog 27, n ≤ reachBytes) → ∀ i, i < bl.length → (bl.getD i []).length ≤ reachBytes) := by
  rcases Go.Deep.open_slice1 Tryd.underlying27 (by kernel_rfl) hf with ⟨hcs, rfl⟩ | ⟨x, len, cap, m, n, V, D, Pl, hcs, _, hl, hm, hmm, rfl, hr⟩
  · obtain rfl : v = .slice none 0 0 := by simpa using hcs
    exact ⟨none, 0, 0, [], rfl, bls_nil _ _, fun _ i hi => absurd hi (Nat.not_lt_zero _)⟩
  · obtain rfl : v = .slice (some x) len cap := by simpa using hcs
    obtain ⟨A, L, C, s, hs⟩ : ∃ (A : Nat → Option Addr) (L C : Nat → Nat) (s : Nat → List UInt8), ∀ i, i < len → V i = .slice (A i) (L i) (C i) ∧ Bsl W W.heap.size (A i) (L i) (C i) (s i) ∧ ((∀ n ∈ (D i).weights Tryd.prog 44, n ≤ reachBytes) → (s i).length ≤ reachBytes) := by
      have : ∀ i, ∃ q : Option Addr × Nat × Nat × List UInt8, i < len → V i = .slice q.1 q.2.1 q.2.2.1 ∧ Bsl W W.heap.size q.1 q.2.1 q.2.2.1 q.2.2.2 ∧ ((∀ n ∈ (D i).weights Tryd.prog 44, n ≤ reachBytes) → q.2.2.2.length ≤ reachBytes) := fun i => by
        by_cases hi : i < len
        · obtain ⟨a, l, c, s, h1, h2, h3⟩ := open_piece (hr i (by simp only [if_true] at hmm; omega)).2
          exact ⟨(a, l, c, s), fun _ => ⟨h1, h2, h3⟩⟩
        · exact ⟨(none, 0, 0, []), fun h => absurd h hi⟩
      exact ⟨fun i => (this i).choose.1, fun i => (this i).choose.2.1, fun i => (this i).choose.2.2.1, fun i => (this i).choose.2.2.2, fun i hi => (this i).choose_spec hi⟩
    have hg : ∀ i, i < len → ((List.range len).map s).getD i [] = s i := fun i hi => by simp [List.getD_eq_getElem?_getD, hi]
    refine ⟨_, len, cap, (List.range len).map s, rfl, ⟨by simp, hl, hm, fun h0 => ?_⟩, fun hw i hi => ?_⟩
    · obtain ⟨b, off, spot⟩ := x
      have h00 := (hr 0 (by simp only [if_true] at hmm; omega)).1
      have hspot : spot = none := by simpa [Addr.add] using World.cell?_spot h00
      subst hspot
      have hadd : ∀ i, (⟨b, off, none⟩ : Addr).add i = ⟨b, off + i, none⟩ := fun i => by unfold Addr.add; split <;> simp_all
      refine ⟨b, off, rfl, ?_, fun i hi => ?_⟩
      · rw [hadd] at h00
        exact World.block_lt_of_cell? W _ h00
      · have h1 := (hr i (by simp only [if_true] at hmm; omega)).1
        obtain ⟨e1, e2, _⟩ := hs i hi
        rw [hadd, e1] at h1
        rw [hg i hi, e2.1]
        exact ⟨A i, C i, h1, e2⟩
    · have hi' : i < len := by simpa using hi
      rw [hg i hi']
      refine (hs i hi').2.2 fun n hn => hw n ?_
      simp only [DataW.weights, Tryd.underlying27]
      exact List.mem_cons_of_mem _ (List.mem_append_left _ (weights_of hn (List.mem_map.2 ⟨i, List.mem_range.2 hi', rfl⟩)))
/-- A slice of writes that came in. -/
theorem open_writes {H : Type} {enc : TypeId × Value → H} {W : World} {fuel : Nat} {v : Value} {y : DataW H × List MemPlace} (hf : DataW.trod enc Tryd.prog W 0 (fun _ => true) true fuel 28 [v] = some y) :
    ∃ a len cap ws, v = .slice a len cap ∧ Wts W W.heap.size a len cap ws ∧ ((∀ n ∈ y.1.weights Tryd.prog 28, n ≤ reachBytes) → ∀ i, i < ws.length → (wr_ ws i).2.length ≤ reachBytes) := by
  rcases Go.Deep.open_slice_pairs Tryd.underlying28 Tryd.underlying64 (by kernel_rfl) rfl rfl (by kernel_rfl) (by kernel_rfl) hf with ⟨hcs, rfl⟩ | ⟨x, len, cap, m, n, V0, V1, D0, D1, P0, P1, hcs, _, hl, hm, hmm, rfl, hr⟩
  · obtain rfl : v = .slice none 0 0 := by simpa using hcs
    exact ⟨none, 0, 0, [], rfl, wts_nil _ _, fun _ i hi => absurd hi (Nat.not_lt_zero _)⟩
  · obtain rfl : v = .slice (some x) len cap := by simpa using hcs
    obtain ⟨A, L, C, s, p, hs⟩ : ∃ (A : Nat → Option Addr) (L C : Nat → Nat) (s : Nat → List UInt8) (p : Nat → Int), ∀ i, i < len → V1 i = .slice (A i) (L i) (C i) ∧ Bsl W W.heap.size (A i) (L i) (C i) (s i) ∧ ((∀ n ∈ (D1 i).weights Tryd.prog 44, n ≤ reachBytes) → (s i).length ≤ reachBytes) ∧ V0 i = .int .i64 (p i) ∧ (Lit.int .i64 (p i)).wf = true := by
      have : ∀ i, ∃ q : Option Addr × Nat × Nat × List UInt8 × Int, i < len → V1 i = .slice q.1 q.2.1 q.2.2.1 ∧ Bsl W W.heap.size q.1 q.2.1 q.2.2.1 q.2.2.2.1 ∧ ((∀ n ∈ (D1 i).weights Tryd.prog 44, n ≤ reachBytes) → q.2.2.2.1.length ≤ reachBytes) ∧ V0 i = .int .i64 q.2.2.2.2 ∧ (Lit.int .i64 q.2.2.2.2).wf = true := fun i => by
        by_cases hi : i < len
        · obtain ⟨_, _, h3, h4⟩ := hr i (by simp only [if_true] at hmm; omega)
          obtain ⟨a, l, c, s, h5, h6, h7⟩ := open_piece h4
          obtain ⟨p, e1, _, wn⟩ := DataW.trod_int Tryd.underlying3 h3
          exact ⟨(a, l, c, s, p), fun _ => ⟨h5, h6, h7, by simpa using e1, wn⟩⟩
        · exact ⟨(none, 0, 0, [], 0), fun h => absurd h hi⟩
      exact ⟨fun i => (this i).choose.1, fun i => (this i).choose.2.1, fun i => (this i).choose.2.2.1, fun i => (this i).choose.2.2.2.1, fun i => (this i).choose.2.2.2.2, fun i hi => (this i).choose_spec hi⟩
    have hg : ∀ i, i < len → wr_ ((List.range len).map fun i => (p i, s i)) i = (p i, s i) := fun i hi => by simp [wr_, List.getD_eq_getElem?_getD, hi]
    refine ⟨_, len, cap, (List.range len).map fun i => (p i, s i), rfl, ⟨by simp, hl, hm, fun h0 => ?_⟩, fun hw i hi => ?_⟩
    · obtain ⟨b, off, spot⟩ := x
      have h00 := (hr 0 (by simp only [if_true] at hmm; omega)).1
      have hspot : spot = none := by simpa [Addr.add] using World.cell?_spot h00
      subst hspot
      have hadd : ∀ i, (⟨b, off, none⟩ : Addr).add i = ⟨b, off + i, none⟩ := fun i => by unfold Addr.add; split <;> simp_all
      refine ⟨b, off, rfl, ?_, fun i hi => ?_⟩
      · rw [hadd] at h00
        exact World.block_lt_of_cell? W _ h00
      · obtain ⟨h1, h2, _⟩ := hr i (by simp only [if_true] at hmm; omega)
        obtain ⟨e1, e2, _, e3, e4⟩ := hs i hi
        rw [hadd, e3] at h1
        rw [hadd, e1, ← Nat.add_assoc] at h2
        rw [hg i hi]
        refine ⟨e4, h1, A i, C i, ?_, ?_⟩
        · show _ = some (Value.slice (A i) (s i).length (C i))
          rw [e2.1]
          exact h2
        · show Bsl _ _ _ (s i).length _ _
          rw [e2.1]
          exact e2
    · have hi' : i < len := by simpa using hi
      rw [hg i hi']
      refine (hs i hi').2.2.1 fun n hn => hw n ?_
      simp only [DataW.weights, Tryd.underlying28]
      refine List.mem_cons_of_mem _ (List.mem_append_left _ (weights_of (d := .agg [D0 i, D1 i]) ?_ (List.mem_map.2 ⟨i, List.mem_range.2 hi', rfl⟩)))
      simp only [DataW.weights, Tryd.underlying64]
      simp only [DataW.weightsEach, List.map_cons, List.map_nil]
      exact List.mem_append_right _ (List.mem_append_left _ hn)
/-- A disk that came in by value. -/
theorem open_disk {H : Type} {enc : TypeId × Value → H} {W : World} {r : Go.Reach} {b0 : Nat} {v : Value} {d : DataW H} {p : List MemPlace} (hv : Value.okWide Tryd.prog W r b0 30 v) (h : DataW.Trod enc Tryd.prog W 0 (fun _ => true) true 30 v d p)
    (hw : ∀ n ∈ d.weights Tryd.prog 30, n ≤ reachBytes) : ∃ x D, v = dval x D ∧ Dsk W W.heap.size x D ∧ Near D := by
  obtain ⟨v0, v1, y0, y1, m, rfl, rfl, rfl, h0, h1⟩ := open_agg2 Tryd.underlying30 (by kernel_rfl) cellsDisk hv h
  obtain ⟨ba, bn, bc, bl, rfl, hb, hb2⟩ := open_blocks h0
  obtain ⟨wa, wn, wc, ws, rfl, hs, hs2⟩ := open_writes h1
  have hwt : ∀ n, n ∈ y0.1.weights Tryd.prog 27 ∨ n ∈ y1.1.weights Tryd.prog 28 → n ≤ reachBytes := fun n hn => hw n (by
    simp only [DataW.weights, Tryd.underlying30]
    simp only [DataW.weightsEach, List.map_cons, List.map_nil]
    rcases hn with hn | hn
    · exact List.mem_append_left _ hn
    · exact List.mem_append_right _ (List.mem_append_left _ hn))
  obtain rfl := hb.1
  obtain rfl := hs.1
  exact ⟨⟨ba, bc, wa, wc⟩, (bl, ws), rfl, ⟨hb, hs⟩, hb2 fun n hn => hwt n (.inl hn), hs2 fun n hn => hwt n (.inr hn)⟩
/-- A slice of marks that came in. -/
theorem open_marks {H : Type} {enc : TypeId × Value → H} {W : World} {a : Option Addr} {len cap : Nat} {d : DataW H} {p : List MemPlace} (h : DataW.Trod enc Tryd.prog W 0 (fun _ => true) true 49 (.slice a len cap) d p) : ∃ ks, Mks W W.heap.size a len cap ks := by
  obtain ⟨fuel, hf⟩ := h
  rcases Go.Deep.open_slice1 Tryd.underlying49 (by kernel_rfl) hf with ⟨hcs, _⟩ | ⟨x, l, c, m, n, V, D, Pl, hcs, _, hl, hm, hmm, _, hr⟩
  · simp [Value.cells] at hcs
    obtain ⟨rfl, rfl, rfl⟩ := hcs
    exact ⟨[], rfl, Nat.le_refl _, Nat.zero_le _, fun h => absurd h (Nat.lt_irrefl _)⟩
  · simp [Value.cells] at hcs
    obtain ⟨rfl, rfl, rfl⟩ := hcs
    obtain ⟨B, hB⟩ : ∃ B : Nat → Bool, ∀ i, i < len → V i = .bool (B i) := by
      have : ∀ i, ∃ b : Bool, i < len → V i = .bool b := fun i => by
        by_cases hi : i < len
        · obtain ⟨b, h1, _⟩ := DataW.trod_bool Tryd.underlying4 (hr i (by simp only [if_true] at hmm; omega)).2
          exact ⟨b, fun _ => by simpa using h1⟩
        · exact ⟨false, fun h => absurd h hi⟩
      exact ⟨fun i => (this i).choose, fun i hi => (this i).choose_spec hi⟩
    refine ⟨(List.range len).map B, by simp, hl, hm, fun h0 => ?_⟩
    obtain ⟨b, off, spot⟩ := x
    have h00 := (hr 0 (by simp only [if_true] at hmm; omega)).1
    have hspot : spot = none := by simpa [Addr.add] using World.cell?_spot h00
    subst hspot
    have hadd : ∀ i, (⟨b, off, none⟩ : Addr).add i = ⟨b, off + i, none⟩ := fun i => by unfold Addr.add; split <;> simp_all
    refine ⟨b, off, rfl, ?_, fun i hi => ?_⟩
    · rw [hadd] at h00
      exact World.block_lt_of_cell? W _ h00
    · have h1 := (hr i (by simp only [if_true] at hmm; omega)).1
      rw [hadd, hB i hi] at h1
      rw [h1]
      simp [List.getD_eq_getElem?_getD, hi]
/-- A byte that came in. -/
theorem u8_of {b : Int} (h : (Lit.int .u8 b).wf = true) : ∃ v : UInt8, b = (v.toNat : Int) := by
  simp [Lit.wf, IntKind.min, IntKind.max, IntKind.signed, IntKind.bits] at h
  refine ⟨UInt8.ofNat b.toNat, ?_⟩
  rw [UInt8.toNat_ofNat']
  omega
end Go.Proofs.YtldnelimemjaiaaDoor
/-
  What a label that came in by value is.
-/
namespace Go.Proofs.YtldnelimemjaiaaDoor
open Go.RowKit Go.Shelf Go.Joins Go.ChangeShapes Go.WideShapes Go.ChangeAt
set_option maxRecDepth 100000

/-- Seven cells that read as a label are one. -/
theorem lb_of_trod {H : Type} {enc : TypeId × Value → H} {W : World} {fuel : Nat} {cs : List Value} {x : DataW H × List MemPlace} (h : DataW.trod enc Tryd.prog W 0 (fun _ => true) true fuel 38 cs = some x) : ∃ l, WfL l ∧ cs = lbC l := by
  obtain ⟨f0, f1, f2, hu, t0, t1, t2, o0, o1, o2⟩ : ∃ f0 f1 f2 : Field, Tryd.prog.underlying 38 = some (.struct #[f0, f1, f2]) ∧ f0.type = 34 ∧ f1.type = 34 ∧ f2.type = 36 ∧ f0.offset = 0 ∧ f1.offset = 1 ∧ f2.offset = 2 :=
    ⟨_, _, _, Tryd.underlying38, rfl, rfl, rfl, rfl, rfl, rfl⟩
  have cU : Tryd.prog.cellsOf 34 = 1 := by kernel_rfl
  have cP : Tryd.prog.cellsOf 36 = 5 := by kernel_rfl
  have cL : Tryd.prog.cellsOf 38 = 7 := by kernel_rfl
  obtain ⟨xs, k, hk, hxy, hcl, hxl, hf⟩ := DataW.trod_struct hu h
  rw [cL] at hcl
  match xs, hxl, cs, hcl with
  | [y0, y1, y2], _, [v0, v1, v2, v3, v4, v5, v6], _ =>
    have g0 := hf 0 f0 rfl
    have g1 := hf 1 f1 rfl
    have g2 := hf 2 f2 rfl
    simp [t0, t1, t2, o0, o1, o2, cU, cP] at g0 g1 g2
    obtain ⟨n0, e0, _, w0⟩ := DataW.trod_int Tryd.underlying34 g0
    obtain ⟨n1, e1, _, w1⟩ := DataW.trod_int Tryd.underlying34 g1
    obtain ⟨p, hp, e2⟩ := pt_of_trod g2
    obtain ⟨m0, rfl, l0⟩ := u32_wf w0
    obtain ⟨m1, rfl, l1⟩ := u32_wf w1
    refine ⟨(m0, m1, p), ⟨l0, l1, hp⟩, ?_⟩
    simp at e0 e1
    simp only [ptC, List.cons.injEq, and_true] at e2
    obtain ⟨z0, z1, z2, z3, z4⟩ := e2
    rw [e0, e1, z0, z1, z2, z3, z4]
    rfl
/-- A label that came in by value. -/
theorem open_label {H : Type} {enc : TypeId × Value → H} {W : World} {r : Go.Reach} {b0 : Nat} {v : Value} {d : DataW H} {p : List MemPlace} (hv : Value.okWide Tryd.prog W r b0 38 v) (h : DataW.Trod enc Tryd.prog W 0 (fun _ => true) true 38 v d p) :
    ∃ q, v = lbV q ∧ WfL q := by
  obtain ⟨cs, rfl, hsz⟩ := okWide_struct Tryd.underlying38 hv
  obtain ⟨fuel, hf⟩ := h
  obtain ⟨q, hw, hq⟩ := lb_of_trod hf
  refine ⟨q, ?_, hw⟩
  have : cs = (lbC q).toArray := by
    rw [← hq]
    simp [Value.cells]
  rw [this]
  rfl
end Go.Proofs.YtldnelimemjaiaaDoor
/-
  The statements of layer 11: what stands behind a label that is put, as plain lists.
-/
namespace Go.Proofs.YtldnelimemjaiaaDoor
open Go.RowKit Go.Shelf
set_option maxRecDepth 100000

/-- Seven cells of a row. -/
def Sev (w : World) (b o : Nat) (v0 v1 v2 v3 v4 v5 v6 : Value) : Prop := w.cell? ⟨b, o, none⟩ = some v0 ∧ w.cell? ⟨b, o + 1, none⟩ = some v1 ∧ w.cell? ⟨b, o + 2, none⟩ = some v2 ∧ w.cell? ⟨b, o + 3, none⟩ = some v3 ∧ w.cell? ⟨b, o + 4, none⟩ = some v4 ∧ w.cell? ⟨b, o + 5, none⟩ = some v5 ∧ w.cell? ⟨b, o + 6, none⟩ = some v6
theorem Sev.below {w w' : World} {b o B : Nat} {v0 v1 v2 v3 v4 v5 v6 : Value} (h : Sev w b o v0 v1 v2 v3 v4 v5 v6) (hb : Below B w w') (hl : b < B) : Sev w' b o v0 v1 v2 v3 v4 v5 v6 := by
  obtain ⟨h0, h1, h2, h3, h4, h5, h6⟩ := h
  exact ⟨(hb.cell (p := ⟨b, o, none⟩) hl).trans h0, (hb.cell (p := ⟨b, o + 1, none⟩) hl).trans h1, (hb.cell (p := ⟨b, o + 2, none⟩) hl).trans h2, (hb.cell (p := ⟨b, o + 3, none⟩) hl).trans h3, (hb.cell (p := ⟨b, o + 4, none⟩) hl).trans h4, (hb.cell (p := ⟨b, o + 5, none⟩) hl).trans h5, (hb.cell (p := ⟨b, o + 6, none⟩) hl).trans h6⟩
/-- Whether each of the first k labels has a smaller Gen. -/
def gB (L : List Lb) (g : Nat) : Nat → Bool
  | 0 => true
  | k + 1 => gB L g k && decide ((L.getD k l0).1 < g)
/-- How many of the first k labels stand in other slots. -/
def keptN (L : List Lb) (s : Nat) : Nat → Nat
  | 0 => 0
  | k + 1 => if (L.getD k l0).1 % 4 = s then keptN L s k else keptN L s k + 1
/-- Whether a label is one of the first k. -/
def inB (L : List Lb) (m : Lb) : Nat → Bool
  | 0 => false
  | k + 1 => inB L m k || decide (L.getD k l0 = m)
theorem gB_all {L : List Lb} {g : Nat} : ∀ {k : Nat}, gB L g k = true → ∀ i, i < k → (L.getD i l0).1 < g
  | 0, _, i, hi => absurd hi (Nat.not_lt_zero _)
  | k + 1, h, i, hi => by
    simp only [gB, Bool.and_eq_true, decide_eq_true_eq] at h
    by_cases e : i = k
    · subst e; exact h.2
    · exact gB_all h.1 i (by omega)
theorem keptN_le (L : List Lb) (s : Nat) : ∀ k, keptN L s k ≤ k
  | 0 => Nat.le_refl _
  | k + 1 => by
    have := keptN_le L s k
    unfold keptN
    split <;> omega
theorem getD_lt {L : List Lb} {k : Nat} (h : k < L.length) : L.getD k l0 = L[k] := by
  rw [List.getD_eq_getElem?_getD, List.getElem?_eq_getElem h]
  rfl
theorem keptN_take (L : List Lb) (s : Nat) : ∀ k, k ≤ L.length → keptN L s k = ((L.take k).filter (fun m => decide (m.1 % 4 ≠ s))).length
  | 0, _ => rfl
  | k + 1, h => by
    have hk : k < L.length := by omega
    rw [List.take_succ_eq_append_getElem hk, List.filter_append, List.length_append, ← keptN_take L s k (by omega), keptN, getD_lt hk]
    by_cases e : L[k].1 % 4 = s
    · rw [if_pos e]; simp [e]
    · rw [if_neg e]; simp [e]
theorem keptN_all (L : List Lb) (s : Nat) : keptN L s L.length = (L.filter (fun m => decide (m.1 % 4 ≠ s))).length := by
  rw [keptN_take L s _ (Nat.le_refl _), List.take_length]
theorem inB_iff {L : List Lb} {m : Lb} : ∀ {k : Nat}, k ≤ L.length → (inB L m k = true ↔ ∃ i, i < k ∧ L.getD i l0 = m)
  | 0, _ => by simp [inB]
  | k + 1, h => by
    simp only [inB, Bool.or_eq_true, decide_eq_true_eq]
    rw [inB_iff (by omega)]
    constructor
    · rintro (⟨i, h1, h2⟩ | h1)
      · exact ⟨i, by omega, h2⟩
      · exact ⟨k, by omega, h1⟩
    · rintro ⟨i, h1, h2⟩
      by_cases e : i = k
      · subst e; exact .inr h2
      · exact .inl ⟨i, by omega, h2⟩
theorem inB_mem {L : List Lb} {m : Lb} (h : m ∈ L) : inB L m L.length = true := by
  obtain ⟨i, hi, e⟩ := List.getElem_of_mem h
  exact (inB_iff (Nat.le_refl _)).2 ⟨i, hi, by rw [getD_lt hi, e]⟩
/-- The labels behind one that is put. -/
theorem slots_put {f g : Nat → Option Lb} {l : Lb} {s : Nat} (hf : Slotted f) (hg : ∀ q, g q = if q = s then some l else f q) : ∀ k, (slotsL g k).length = ((slotsL f k).filter (fun m => decide (m.1 % 4 ≠ s))).length + (if s < k then 1 else 0)
  | 0 => by simp [slotsL]
  | k + 1 => by
    have ih := slots_put hf hg k
    have hgk := hg k
    by_cases e : k = s
    · subst e
      rw [if_pos rfl] at hgk
      rw [if_neg (Nat.lt_irrefl _)] at ih
      rw [slotsL, hgk, if_pos (Nat.lt_succ_self _)]
      simp only [List.length_append, List.length_singleton]
      rw [slotsL]
      cases hfk : f k with
      | none => simp only; omega
      | some m =>
        have := hf k m hfk
        simp only [List.filter_append, List.length_append]
        have e2 : ([m].filter (fun m => decide (m.1 % 4 ≠ k))).length = 0 := by simp [this]
        omega
    · rw [if_neg e] at hgk
      rw [slotsL, hgk]
      conv => rhs; rw [slotsL]
      have e1 : (if s < k + 1 then 1 else 0) = (if s < k then 1 else 0) := by
        by_cases h : s < k
        · rw [if_pos h, if_pos (by omega)]
        · rw [if_neg h, if_neg (by omega)]
      rw [e1]
      cases hfk : f k with
      | none => simp only; omega
      | some m =>
        have := hf k m hfk
        simp only [List.filter_append, List.length_append, List.length_singleton]
        have e2 : ([m].filter (fun m => decide (m.1 % 4 ≠ s))).length = 1 := by
          have : m.1 % 4 ≠ s := by omega
          simp [this]
        omega
section
variable {D : DkL} {l : Lb}
theorem stands_seen (hl : MayL l) (wl : WfL l) (q : Nat) : seenL (withD D ((l.1 % 4 : Nat) : Int) (blockL l)) q = if q = l.1 % 4 then some l else seenL D q := seenL_with hl wl q
theorem stands_in (hl : MayL l) (wl : WfL l) : l ∈ findL (withD D ((l.1 % 4 : Nat) : Int) (blockL l)) := standL_mem.2 ⟨l.1 % 4, by omega, by rw [stands_seen hl wl, if_pos rfl]⟩
theorem stands_there (hl : MayL l) (wl : WfL l) {m : Lb} (hm : m ∈ findL D) (hne : m.1 % 4 ≠ l.1 % 4) : m ∈ findL (withD D ((l.1 % 4 : Nat) : Int) (blockL l)) := by
  obtain ⟨q, hq, e⟩ := standL_mem.1 hm
  have hs := seenL_slotted D q m e
  exact standL_mem.2 ⟨q, hq, by rw [stands_seen hl wl, if_neg (by omega), e]⟩
theorem stands_length (hl : MayL l) (wl : WfL l) : (findL (withD D ((l.1 % 4 : Nat) : Int) (blockL l))).length = keptN (findL D) (l.1 % 4) (findL D).length + 1 := by
  rw [keptN_all]
  have h1 := slots_put (f := seenL D) (l := l) (s := l.1 % 4) (seenL_slotted D) (fun q => stands_seen hl wl q) 4
  rw [if_pos (by omega)] at h1
  have h2 : (findL (withD D ((l.1 % 4 : Nat) : Int) (blockL l))).length = (slotsL (seenL (withD D ((l.1 % 4 : Nat) : Int) (blockL l))) 4).length := (standL_perm _ 4).length_eq
  have h3 : ((findL D).filter (fun m => decide (m.1 % 4 ≠ l.1 % 4))).length = ((slotsL (seenL D) 4).filter (fun m => decide (m.1 % 4 ≠ l.1 % 4))).length := ((standL_perm _ 4).filter _).length_eq
  rw [h2, h3, h1]
theorem stands_first (hl : MayL l) (wl : WfL l) (hg : gB (findL D) l.1 (findL D).length = true) : (findL (withD D ((l.1 % 4 : Nat) : Int) (blockL l))).getD 0 l0 = l := by
  have hin := stands_in (D := D) hl wl
  have hf := standL_falls (seenL (withD D ((l.1 % 4 : Nat) : Int) (blockL l))) 4
  have hall : ∀ m, m ∈ findL (withD D ((l.1 % 4 : Nat) : Int) (blockL l)) → m = l ∨ m.1 < l.1 := fun m hm => by
    obtain ⟨q, hq, e⟩ := standL_mem.1 hm
    rw [stands_seen hl wl] at e
    by_cases h : q = l.1 % 4
    · rw [if_pos h] at e
      exact .inl (Option.some.inj e).symm
    · rw [if_neg h] at e
      right
      have hmem : m ∈ findL D := standL_mem.2 ⟨q, hq, e⟩
      obtain ⟨i, hi, e2⟩ := List.getElem_of_mem hmem
      have := gB_all hg i hi
      rw [getD_lt hi, e2] at this
      exact this
  change Falls (findL (withD D ((l.1 % 4 : Nat) : Int) (blockL l))) at hf
  obtain ⟨N, hN⟩ : ∃ N, findL (withD D ((l.1 % 4 : Nat) : Int) (blockL l)) = N := ⟨_, rfl⟩
  rw [hN] at hin hall hf ⊢
  cases N with
  | nil => cases hin
  | cons x r =>
    show x = l
    rcases hall x (List.mem_cons_self ..) with h | h
    · exact h
    · rcases List.mem_cons.1 hin with h2 | h2
      · exact h2.symm
      · have := (List.pairwise_cons.1 hf).1 l h2
        omega
theorem find_strict (i : Nat) (hi : i + 1 < (findL D).length) : ((findL D).getD (i + 1) l0).1 < ((findL D).getD i l0).1 := by
  have h : (findL D).Pairwise (fun (l m : Lb) => m.1 < l.1) := standL_strict (seenL_slotted D) 4
  rw [getD_lt hi, getD_lt (by omega)]
  exact List.pairwise_iff_getElem.1 h i (i + 1) (by omega) hi (Nat.lt_succ_self _)
theorem find_may (i : Nat) (hi : i < (findL D).length) : MayL ((findL D).getD i l0) ∧ WfL ((findL D).getD i l0) := by
  rw [getD_lt hi]
  obtain ⟨q, _, e⟩ := standL_mem.1 (List.getElem_mem hi)
  exact ⟨(seenL_may e).1, (seenL_may e).2.1⟩
end
end Go.Proofs.YtldnelimemjaiaaDoor
