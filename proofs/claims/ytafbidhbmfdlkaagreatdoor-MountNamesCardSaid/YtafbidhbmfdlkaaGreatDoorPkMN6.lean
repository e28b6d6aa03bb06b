/-
  Texts of one seat, one behind the other.
-/
import Derived.Shelf.Sort.Plain
import Derived.Ground.Names2Prog
import Derived.Sort.OwnSortedInts
import Derived.Shelf.SlSortCmp.SmallK
import Derived.Shelf.SlSortCmp.NoneTotal
import Derived.Shelf.SlLaysF0
import Derived.Shelf.SlGeneric
import Derived.Ground.SlsfProg
import Derived.Test.YtafbidhbmfdlkaaGreatDoorRows
import Derived.Test.YtafbidhbmfdlkaaGreatDoorTie
import Derived.Test.YtafbidhbmfdlkaaGreatDoorCards
import Derived.Lib.SmallJoins
import Derived.Deep.Matrix
import Derived.Deep.SlicePairs
import Derived.ProofKit
import Derived.LaidMore
import Derived.OpenShut
import Derived.Stop.Joined
import Derived.SevenTiedAt
import Derived.Test.YtafbidhbmfdlkaaGreatDoorPkMN5
/-
  txg's work, read back: readMeta, where the root's block tells of no lines.
-/
namespace Go.Proofs.YtafbidhbmfdlkaaGreatDoor
open Go Go.RowKit Go.Shelf
set_option maxRecDepth 100000

/-- What a step of a pool that is read back leaves below N. -/
theorem Ld.belN {N B bt g n : Nat} {k : Wk} {own : List Nat} {w w' : World} (h : Ld N B bt g k n own w) (fz : Fz w.heap.size (Ldx bt g k) w w') : Below N w w' :=
  fz.below (Nat.le_trans h.big.1 h.big.2.1) (fun i hx => by
    rcases hx with rfl | rfl | e
    · exact h.big.2.2
    · exact Nat.le_trans h.big.1 h.btlt.1
    · exact Nat.le_trans h.big.1 (h.row.lt i e).1)
theorem Ld.bigN {N B bt g n : Nat} {k : Wk} {own : List Nat} {w : World} (h : Ld N B bt g k n own w) : N ≤ w.heap.size := Nat.le_trans h.big.1 h.big.2.1
theorem Ld.put {N B bt g n : Nat} {k k' : Wk} {own : List Nat} {w w' : World} (h : Ld N B bt g k n own w) (hg : w.grownBy w' (some g)) (hb : Box w' g k') (hx : k'.x = k.x) (hS : k'.S = k.S) (ho : k'.own = k.own) (he : k'.e = k.e) : Ld N B bt g k' n own w' := by
  have hbel : Below N w w' := below_only (Below.refl N w) h.big.2.2 hg h.bigN
  refine ⟨hb, by rw [he]; exact h.e, ?_, by rw [hx]; exact h.at_, by rw [hS]; exact h.len, ?_, ?_, h.big.1, Nat.le_trans h.big.2.1 hg.size, h.big.2.2⟩
  · rw [hx, hS]
    exact ⟨h.dsk.1.below hbel, h.dsk.2.below hbel⟩
  · rw [hx, hS]
    exact own_other h.tab hg (own_ty h.tab h.box (by decide))
  · rw [ho]
    exact own_other h.row hg (own_ty h.row h.box (by decide))
theorem Ld.onlyN {N B bt g n : Nat} {k : Wk} {own : List Nat} {w w' : World} {b : Nat} (h : Ld N B bt g k n own w) (hg : w.grownBy w' (some b)) (hbl : ∀ i, i = b → B ≤ i) (hne : b ≠ g) (hnt : b ≠ bt) (hno : k.own.ownBlock ≠ some b) : Ld N B bt g k n own w' := by
  have hbel : Below N w w' := below_only (Below.refl N w) (Nat.le_trans h.big.1 (hbl b rfl)) hg h.bigN
  refine ⟨Blk.grown h.box hg (fun e => hne (Option.some.inj e).symm), h.e, ⟨h.dsk.1.below hbel, h.dsk.2.below hbel⟩, h.at_, h.len, own_row_other h.tab hg (fun i hi e => ?_), own_row_other h.row hg (fun i hi e => hno (hi.trans e.symm)), h.big.1, Nat.le_trans h.big.2.1 hg.size, h.big.2.2⟩
  have h1 := h.at_
  rw [h1] at hi
  have h2 : bt = i := by simpa [Value.ownBlock] using hi
  exact hnt ((Option.some.inj e).trans h2.symm)
theorem makeB1 (W : World) : (Instr.makeSlice 22 (.int .i64 1) (.int .i64 1)).run Tryz.prog W = .ok (.slice (some ⟨W.heap.size, 0, none⟩) 1 1) (W.alloc (.cells #[.slice none 0 0] 26)) := by kernel_rfl
theorem wpList_store_pt {ops : Array Oper} {rest : List Oper} {o : Oper} {a : Act} {w : World} {Q : Exit → Act → World → Prop} (hgd : o.guard = none) (x y : Operand) (ho : o.op = .store 31 x y) (g : Nat) (p : Pt) (hx : a.eval x = .pointer (some ⟨g, 0, none⟩)) (hy : a.eval y = ptV p) (old : Array Value) (hb : Blk w g 31 old) (hold : old.size = 5)
    (h : ∀ w', Blk w' g 31 (ptC p).toArray → w.grownBy w' (some g) → wpList Tryz.prog ops Q rest (a.put o.dst undef) w') : wpList Tryz.prog ops Q (o :: rest) a w :=
  wpList_store_row hgd 31 x y ho g (ptC p).toArray hx hy 31 old hb (by kernel_rfl) (by rw [hold]; rfl) (by simp [ptC, Value.oneCell']) (h _ hb.setRow (setRow_only w _))
theorem run_app_none0 (w : World) : (Builtin.append_ #[113, 113] 113 #[.slice none 0 0, .slice none 0 0]).run Tryz.prog w = .ok (.slice none 0 0) w := by kernel_rfl
/-- Blocks of other types stay. -/
def KT (w W : World) : Prop := w.heap.size ≤ W.heap.size ∧ ∀ i t cs, Blk w i t cs → t ≠ 62 → t ≠ 3 → t ≠ 5 → Blk W i t cs
/-- What stays while a pool is read back. -/
def BK (N : Nat) (w W : World) : Prop := Below N w W ∧ KT w W
theorem BK.refl (N : Nat) (w : World) : BK N w w := ⟨Below.refl N w, Nat.le_refl _, fun _ _ _ h _ _ _ => h⟩
theorem BK.look {N B bt g n : Nat} {k : Wk} {own : List Nat} {w W W' : World} (h : BK N w W) (hl : Ld N B bt g k n own W) (fz : Fz W.heap.size (Ldx bt g k) W W') : BK N w W' :=
  ⟨h.1.trans (hl.belN fz), Nat.le_trans h.2.1 fz.size, fun i t cs hb h1 h2 h3 => hl.blk fz (h.2.2 i t cs hb h1 h2 h3) h1 h2 h3⟩
theorem BK.news {N : Nat} {w W W' : World} (h : BK N w W) (hb : Below W.heap.size W W') (hN : N ≤ W.heap.size) : BK N w W' :=
  ⟨h.1.trans (hb.mono hN), Nat.le_trans h.2.1 hb.size, fun i t cs hx h1 h2 h3 => (h.2.2 i t cs hx h1 h2 h3).below hb (h.2.2 i t cs hx h1 h2 h3).lt⟩
theorem BK.boxg {N g : Nat} {k : Wk} {w W W' : World} (h : BK N w W) (hb : Below N W W') (hg : W.grownBy W' (some g)) (hx : Box W g k) : BK N w W' :=
  ⟨h.1.trans hb, Nat.le_trans h.2.1 hg.size, fun i t cs hi h1 h2 h3 => (h.2.2 i t cs hi h1 h2 h3).grown hg (fun e => blk_ne (h.2.2 i t cs hi h1 h2 h3) hx h1 (Option.some.inj e))⟩
theorem BK.newb {N b : Nat} {w W W' : World} (h : BK N w W) (hb : Below N W W') (hg : W.grownBy W' (some b)) (hn : w.heap.size ≤ b) : BK N w W' :=
  ⟨h.1.trans hb, Nat.le_trans h.2.1 hg.size, fun i t cs hi h1 h2 h3 => (h.2.2 i t cs hi h1 h2 h3).grown hg (fun e => by have := hi.lt; have := Option.some.inj e; omega)⟩
/-- What readMeta leaves. -/
def OutRm (N B bt g : Nat) (k : Wk) (tab : List UInt8) (id guid : Nat) (ats : List Nat) (keys : List (List UInt8)) (w : World) (r : Ending) (w' : World) : Prop :=
  r = .returned (.slice none 0 0) ∧ ∃ v vk, Ld N B bt g { k with S := (k.S.1, tab, k.S.2.2), own := v, nextId := (id : Int), nextGuid := guid, keys := vk } 3 ats w' ∧ BRowC w' 0 w.heap.size vk keys ∧ BK N w w'
set_option maxHeartbeats 8000000 in
theorem txReadMeta_ok (N B bt g : Nat) (k : Wk) (id guid a0 a1 a2 : Nat) (q1 q2 : Pt) (keys : List (List UInt8)) (w : World) (h : Ld N B bt g k 0 [] w) (hz : Szs w) (hN0 : 0 < N)
    (hmt : MayTr ⟨id, guid, 0, [q1], q2⟩) (hwr : WfP k.root) (hw1 : WfP q1) (hw2 : WfP q2) (hr0 : k.root.1 = (a0 : Int)) (hr1 : q1.1 = (a1 : Int)) (hr2 : q2.1 = (a2 : Int)) (ha0 : a0 < 256) (ha1 : a1 < 256) (ha2 : a2 < 256)
    (h0 : lookO k.S k.root = (trunkB ⟨id, guid, 0, [q1], q2⟩, 0)) (h1 : lookO (k.S.1, usedN k.S.2.1 [a0] 1, k.S.2.2) q1 = (linesB [], 0)) (h2 : lookO (k.S.1, usedN (usedN k.S.2.1 [a0] 1) [a1] 1, k.S.2.2) q2 = (keysB keys, 0))
    (hky : keysTo (keysB keys) 8 = keys) (hkl : (keysB keys).length = 256) :
    Calls Tryz.prog 89 #[.pointer (some ⟨g, 0, none⟩)] w (OutRm N B bt g k (usedN (usedN (usedN k.S.2.1 [a0] 1) [a1] 1) [a2] 1) id guid [a0, a1, a2] keys w) := by
  have hmx : Tryz.prog.follows Departure.mixedOrders = true := by kernel_rfl
  have htl := trunkB_length hmt
  have HL := Lib.hid h
  have HZ := Lib.hid hz
  have HMT := Lib.hid hmt
  have HW := Lib.hid (And.intro hw1 hw2)
  have HR := Lib.hid (And.intro hr1 hr2)
  have HA := Lib.hid (And.intro ha1 ha2)
  have H1 := Lib.hid h1
  have H2 := Lib.hid h2
  have HKY := Lib.hid hky
  have HKL := Lib.hid hkl
  have HN0 := Lib.hid hN0
  have HBTW := Lib.hid h.btlt.2.1
  have HB := Lib.hid (BK.refl N w)
  have HS0 := Lib.hid (Nat.le_refl w.heap.size)
  have HLK := Lib.hid (txLook_ok N B bt g k 0 [] k.root a0 _ w h hwr hr0 ha0 h0 (by omega) htl)
  have c6 := h.box.c6
  have c7 := h.box.c7
  have c8 := h.box.c8
  have c9 := h.box.c9
  have c10 := h.box.c10
  clear h hz hmt hwr hw1 hw2 hr0 hr1 hr2 ha0 ha1 ha2 h0 h1 h2 hky hkl htl hN0
  go_enter Tryz.func89, Tryz.ntmps89
  go_wp2_with fail
  refine HLK.out.mono ?_
  rintro e w1 ⟨vb, v1, rfl, hvb, hl, hfz⟩
  clear c6 c7 c8 c9 c10
  obtain ⟨ba, bc, rfl⟩ := own_slice hvb
  have HB1 := Lib.hid (HB.out.look HL.out hfz)
  have HZ1 := Lib.hid (HZ.out.below (HL.out.belN hfz) HN0.out)
  have HSZ := Lib.hid (Nat.le_trans HS0.out hfz.size)
  have HL1 := Lib.hid hl
  have HVB := Lib.hid hvb
  have c24 : w1.cell? ⟨g, 24, none⟩ = some (.int .i64 0) := by
    have h1 := hl.box.c24
    have h2 := hl.e
    simp only at h2
    rw [h1]
    simp only [h2]
    rfl
  clear HLK hvb hl hfz
  have HTR := Lib.hid (txTrunkOf_ok ba bc _ w1 HMT.out (own_bsl HVB.out) HZ1.out)
  go_wp2_with fail
  refine HTR.out.mono ?_
  rintro e w2 ⟨pb, lc, cs, rfl, hpt, hpb, hge, bq⟩
  obtain ⟨w3, g4, hw3, hg4, b3, qt⟩ := new_blk w2 trZ 118
  simp only [trZ] at hw3
  have b23 := bq.trans (b3.mono bq.size)
  have B23 := Lib.hid b23
  have HB3 := Lib.hid (HB1.out.news b23 HL1.out.bigN)
  have HZ3 := Lib.hid (HZ1.out.step b23)
  have HS3 := Lib.hid (Nat.le_trans HSZ.out b23.size)
  have HT3 := Lib.hid qt
  have HPB := Lib.hid (hpb.below b3 hpb.lt)
  have HPT := Lib.hid (hpt.step b3)
  have HG4 := Lib.hid (show w2.heap.size ≤ g4 by omega)
  have HBS := Lib.hid bq.size
  have HW3 := Lib.hid b3.size
  clear hpt hpb bq b3 qt b23 HTR HZ1 c24
  go_wp2_with (with_reducible refine tx_at_store ?_
               try rw [hw3]
               try rw [hg4]
               refine wpList_store_tr rfl (.tmp 4) (.tmp 30) rfl g4 (some ⟨pb, 5, none⟩) lc _ rfl rfl trZ HT3.out rfl ?_
               intro w4 hrr_ hgz_
               have HTT := Lib.hid hrr_
               have HGZ := Lib.hid hgz_
               clear hrr_ hgz_)
  have hb34 := below_only (Below.refl w1.heap.size w3) (by have := HBS.out; have := HG4.out; omega) HGZ.out (by have := HBS.out; have := HW3.out; omega)
  have hb14 := B23.out.trans hb34
  have HL4 := Lib.hid (HL1.out.bel hb14)
  have HB4 := Lib.hid (HB1.out.news hb14 HL1.out.bigN)
  have HZ4 := Lib.hid (HZ3.out.below hb34 (by have := HL1.out.bigN; have := HN0.out; omega))
  have HS4 := Lib.hid (Nat.le_trans HSZ.out hb14.size)
  have hpb4 := HPB.out.grown HGZ.out (fun e => blk_ne HPB.out HT3.out (by decide) (Option.some.inj e))
  have HPT4 := Lib.hid (pts_blk_step HPT.out HPB.out hpb4)
  have HPB4 := Lib.hid hpb4
  have HT4 := Lib.hid HTT.out
  have HRF := Lib.hid (txRefuse_0 g _ w4 HL4.out.box HL4.out.e)
  clear hw3 hg4 hb34 hb14 hpb4 HPT HPB HT3 HTT HGZ HB3 HZ3 HS3 HL1 HB1 B23 HW3
  go_wp2_with fail
  refine HRF.out.mono ?_
  rintro e w5 ⟨rfl, rfl⟩
  clear HRF
  go_wp2_with fail
  obtain ⟨wd, hwd⟩ : ∃ wd, w4.drew = wd := ⟨_, rfl⟩
  have bq : Below w4.heap.size w4 wd := by rw [← hwd]; exact (Below.refl _ w4).drew
  have HL5 := Lib.hid (HL4.out.bel bq)
  have HB5 := Lib.hid (HB4.out.news bq HL4.out.bigN)
  have HZ5 := Lib.hid (HZ4.out.step bq)
  have HS5 := Lib.hid (Nat.le_trans HS4.out bq.size)
  have HPB5 := Lib.hid (HPB4.out.below bq HPB4.out.lt)
  have HPT5 := Lib.hid (HPT4.out.step bq)
  have HT5 := Lib.hid (HT4.out.below bq HT4.out.lt)
  have hS := HT5.out
  clear bq HL4 HB4 HZ4 HS4 HPB4 HPT4 HT4
  refine wpJ_start (fun X => Blk X g4 118 (trC (some ⟨pb, 5, none⟩) lc ⟨id, guid, 0, [q1], q2⟩)) [0, 1, 2, 3, 4, 5, 6, 7, 8, 9, 10, 11, 12, 13] hmx rfl hwd ?_
  clear hwd
  iterate 9 (
    refine wpJ_read (v := ?_) hS rfl (by kernel_rfl) (by kernel_rfl) (by kernel_rfl) (fun _ _ _ h => h) (.inl ⟨by rfl, ?_⟩) ?_
    rotate_left
    · intro X hX
      have j0 : X.cell? ⟨g4, 0, none⟩ = some (.int .i64 (id : Int)) := hX.cell 0
      have j1 : X.cell? ⟨g4, 1, none⟩ = some (.int .u32 (guid : Int)) := hX.cell 1
      clear hX
      go_simp
      with_reducible rfl
    try simp only [Act.put, List.setIfInBounds_toArray, List.set_cons_zero, List.set_cons_succ])
  clear hS
  refine wpJ_lone rfl (by kernel_rfl) (fun K hK => ?_)
  have c17 := HL5.out.box.c17
  have f17 := HL5.out.box.frozen 17
  go_simp
  have hg6 := Wk.stay (g := g) wd 17 (.int .i64 (id : Int))
  have hx6 : Blk (wd.setCell ⟨g, 17, none⟩ (.int .i64 (id : Int))) g 62 _ := Blk.set_ HL5.out.box 17 (.int .i64 (id : Int))
  have ht6 := HT5.out.grown hg6 (fun e => blk_ne HT5.out HL5.out.box (by decide) (Option.some.inj e))
  obtain ⟨w6, hw6⟩ : ∃ X, wd.setCell ⟨g, 17, none⟩ (.int .i64 (id : Int)) = X := ⟨_, rfl⟩
  rw [hw6] at hg6 hx6 ht6 ⊢
  clear hw6 c17 f17
  have HG6 := Lib.hid hg6
  have HX6 := Lib.hid hx6
  have HT6 := Lib.hid ht6
  have hS := ht6
  refine hK _ _ hS ?_
  clear hK K hg6 hx6 ht6
  try simp only [Act.put, List.setIfInBounds_toArray, List.set_cons_zero, List.set_cons_succ]
  iterate 3 (
    refine wpJ_read (v := ?_) hS rfl (by kernel_rfl) (by kernel_rfl) (by kernel_rfl) (fun _ _ _ h => h) (.inl ⟨by rfl, ?_⟩) ?_
    rotate_left
    · intro X hX
      clear hX
      go_simp
      with_reducible rfl
    try simp only [Act.put, List.setIfInBounds_toArray, List.set_cons_zero, List.set_cons_succ])
  clear hS
  refine wpJ_lone rfl (by kernel_rfl) (fun K hK => ?_)
  have c18 : w6.cell? ⟨g, 18, none⟩ = some (.int .u32 (k.nextGuid : Int)) := HX6.out.cell 18
  have f18 : w6.frozen? ⟨g, 18, none⟩ = false := HX6.out.frozen 18
  go_simp
  have hg7 := Wk.stay (g := g) w6 18 (.int .u32 (guid : Int))
  have hx7 : Blk (w6.setCell ⟨g, 18, none⟩ (.int .u32 (guid : Int))) g 62 _ := Blk.set_ HX6.out 18 (.int .u32 (guid : Int))
  have ht7 := HT6.out.grown hg7 (fun e => blk_ne HT6.out HX6.out (by decide) (Option.some.inj e))
  obtain ⟨w7, hw7⟩ : ∃ X, w6.setCell ⟨g, 18, none⟩ (.int .u32 (guid : Int)) = X := ⟨_, rfl⟩
  rw [hw7] at hg7 hx7 ht7 ⊢
  clear hw7 c18 f18
  have hg57 := only_trans HG6.out hg7
  have HL7 := Lib.hid (HL5.out.put (k' := { k with S := (k.S.1, usedN k.S.2.1 [a0] 1, k.S.2.2), own := v1, nextId := (id : Int), nextGuid := guid }) hg57 hx7 rfl rfl rfl rfl)
  have hb57 : Below N wd w7 := below_only (Below.refl N wd) HL5.out.big.2.2 hg57 HL5.out.bigN
  have HB7 := Lib.hid (HB5.out.boxg hb57 hg57 HL5.out.box)
  have HZ7 := Lib.hid (HZ5.out.below hb57 HN0.out)
  have HS7 := Lib.hid (Nat.le_trans HS5.out hg57.size)
  have hpb7 := HPB5.out.grown hg57 (fun e => blk_ne HPB5.out HL5.out.box (by decide) (Option.some.inj e))
  have HPT7 := Lib.hid (pts_blk_step HPT5.out HPB5.out hpb7)
  have HPB7 := Lib.hid hpb7
  have HT7 := Lib.hid ht7
  refine hK _ _ ht7 ?_
  clear hK K hg7 hx7 ht7 hg57 hb57 hpb7 HG6 HX6 HT6 HL5 HB5 HZ5 HS5 HPB5 HPT5 HT5
  try simp only [Act.put]
  refine wpJ_done (by kernel_rfl) ?_
  obtain ⟨w8, gB, hw8, hgB, b8, qB⟩ := new_blk w7 #[.slice none 0 0] 26
  have hmk := makeB1 w7
  rw [hw8, hgB] at hmk
  have HL8 := Lib.hid (HL7.out.bel b8)
  have HB8 := Lib.hid (HB7.out.news b8 HL7.out.bigN)
  have HZ8 := Lib.hid (HZ7.out.step b8)
  have HS8 := Lib.hid (Nat.le_trans HS7.out b8.size)
  have HPB8 := Lib.hid (HPB7.out.below b8 HPB7.out.lt)
  have HPT8 := Lib.hid (HPT7.out.step b8)
  have HT8 := Lib.hid (HT7.out.below b8 HT7.out.lt)
  have HBB := Lib.hid qB
  have HGB := Lib.hid (show w.heap.size ≤ gB by have := HS7.out; omega)
  have HGBB := Lib.hid (show B ≤ gB by have := HL7.out.big.2.1; omega)
  have t3 : w7.cell? ⟨g4, 3, none⟩ = some (.slice (some ⟨pb, 5, none⟩) 1 lc) := HT7.out.cell 3
  have t3' : w8.cell? ⟨g4, 3, none⟩ = some (.slice (some ⟨pb, 5, none⟩) 1 lc) := HT8.out.cell 3
  clear hgB b8 qB HL7 HB7 HZ7 HS7 HPB7 HPT7 HT7
  go_wp2_with fail
  clear hw8 hmk t3 t3'
  go_loopw [54] (fun i wr => ∃ j : Nat, j ≤ 1 ∧ i = .int .i64 (j : Int) ∧ (j = 0 → w8 = wr) ∧ (j = 1 → ∃ v3 bb bc2, Ld N B bt g { k with S := (k.S.1, usedN (usedN k.S.2.1 [a0] 1) [a1] 1, k.S.2.2), own := v3, nextId := (id : Int), nextGuid := guid } 2 [a0, a1] wr ∧
      wr.ownsRow w.heap.size 5 1 (.slice bb 256 bc2) 256 (vals (linesB [])) ∧ Blk wr gB 26 #[.slice bb 256 bc2] ∧ Blk wr g4 118 (trC (some ⟨pb, 5, none⟩) lc ⟨id, guid, 0, [q1], q2⟩) ∧ BK N w wr ∧ Szs wr ∧ w.heap.size ≤ wr.heap.size)) (fun i _ => 1 - (intOf i).toNat)
  case atStart => exact ⟨0, Nat.zero_le _, rfl, fun _ => rfl, fun h => by omega⟩
  case round =>
    obtain ⟨j, hj, rfl, hr0, hr1⟩ := hrel
    rcases Nat.lt_or_ge j 1 with hlt | hge1
    · obtain rfl : j = 0 := by omega
      obtain rfl := hr0 rfl
      clear hr0 hr1 hj hlt
      obtain ⟨p_, o_, ea_, _, _, m0, m1, m2, m3, m4⟩ := HPT8.out.cells 0 (show 0 < 1 by omega)
      cases ea_
      simp only [List.getD_cons_zero] at m0 m1 m2 m3 m4
      obtain ⟨w9, g8, hw9, hg8, b9, q9⟩ := new_blk w8 #[.int .i64 0, .int .u32 0, .int .u32 0, .int .u32 0, .int .u32 0] 31
      have HL9 := Lib.hid (HL8.out.bel b9)
      have HB9 := Lib.hid (HB8.out.news b9 HL8.out.bigN)
      have HZ9 := Lib.hid (HZ8.out.step b9)
      have HS9 := Lib.hid (Nat.le_trans HS8.out b9.size)
      have HT9 := Lib.hid (HT8.out.below b9 HT8.out.lt)
      have HBB9 := Lib.hid (HBB.out.below b9 HBB.out.lt)
      have HQ9 := Lib.hid q9
      have B98 := Lib.hid b9
      have HB98 := Lib.hid b9.size
      have HG8 := Lib.hid (show w8.heap.size ≤ g8 by omega)
      clear b9 q9
      go_wp2_with (with_reducible refine tx_at_store ?_
                   try rw [hw9]
                   try rw [hg8]
                   refine wpList_store_pt rfl (.tmp 8) (.tmp 58) rfl g8 q1 rfl rfl _ HQ9.out rfl ?_
                   intro wa hrr_ hgz_
                   have HQA := Lib.hid hrr_
                   have HGZ := Lib.hid hgz_
                   have n0 : wa.cell? ⟨g8, 0, none⟩ = some (.int .i64 q1.1) := hrr_.cell 0
                   have n1 : wa.cell? ⟨g8, 1, none⟩ = some (.int .u32 (q1.2.1 : Int)) := hrr_.cell 1
                   have n2 : wa.cell? ⟨g8, 2, none⟩ = some (.int .u32 (q1.2.2.1 : Int)) := hrr_.cell 2
                   have n3 : wa.cell? ⟨g8, 3, none⟩ = some (.int .u32 (q1.2.2.2.1 : Int)) := hrr_.cell 3
                   have n4 : wa.cell? ⟨g8, 4, none⟩ = some (.int .u32 (q1.2.2.2.2 : Int)) := hrr_.cell 4
                   clear hrr_ hgz_)
      clear hw9 hg8 m0 m1 m2 m3 m4 n0 n1 n2 n3 n4
      have hb8a := below_only (Below.refl w8.heap.size w9) (by have := HG8.out; omega) HGZ.out HB98.out
      have hb8a := B98.out.trans hb8a
      have HLA := Lib.hid (HL8.out.bel hb8a)
      have HBA := Lib.hid (HB8.out.news hb8a HL8.out.bigN)
      have HZA := Lib.hid (HZ8.out.step hb8a)
      have HSA := Lib.hid (Nat.le_trans HS8.out hb8a.size)
      have HTA := Lib.hid (HT8.out.below hb8a HT8.out.lt)
      have HBBA := Lib.hid (HBB.out.below hb8a HBB.out.lt)
      have HLK := Lib.hid (txLook_ok N B bt g _ _ _ q1 a1 (linesB []) wa HLA.out HW.out.1 HR.out.1 HA.out.1 H1.out (by omega) (linesB_length (by simp)))
      clear hb8a HGZ HQA HL9 HB9 HZ9 HS9 HT9 HBB9 HQ9 HG8 B98 HB98
      refine HLK.out.mono ?_
      rintro e wb ⟨vb, v3, rfl, hvb, hl, hfz⟩
      obtain ⟨bb, bc2, rfl⟩ := own_slice hvb
      have HLB := Lib.hid hl
      have HVB := Lib.hid (own_mono hvb HSA.out)
      have hbN := HLA.out.belN hfz
      have HBC := Lib.hid (HBA.out.look HLA.out hfz)
      have HZC := Lib.hid (HZA.out.below hbN HN0.out)
      have HSC := Lib.hid (Nat.le_trans HSA.out hfz.size)
      have HTC := Lib.hid (HLA.out.blk hfz HTA.out (by decide) (by decide) (by decide))
      have HBBC := Lib.hid (HLA.out.blk hfz HBBA.out (by decide) (by decide) (by decide))
      clear hvb hl hfz hbN HLK HLA HBA HZA HSA HTA HBBA
      have cB : wb.cell? ⟨gB, 0, none⟩ = some (.slice none 0 0) := HBBC.out.cell 0
      have fB : wb.frozen? ⟨gB, 0, none⟩ = false := HBBC.out.frozen 0
      go_wp2_with fail
      have hgc := Wk.stay (g := gB) wb 0 (.slice bb 256 bc2)
      have HBBD := Lib.hid (HBBC.out.set_ 0 (.slice bb 256 bc2))
      have hbc2 := Wk.stay (g := gB) wb 0 (.slice bb 256 bc2)
      obtain ⟨wc, hwc⟩ : ∃ X, wb.setCell ⟨gB, 0, none⟩ (.slice bb 256 bc2) = X := ⟨_, rfl⟩
      rw [hwc] at hgc HBBD ⊢
      clear hwc cB fB hbc2
      go_roundw
      case rel =>
        refine ⟨1, Nat.le_refl _, by go_num, fun h => by omega, fun _ => ⟨v3, bb, bc2, ?_⟩⟩
        have hbN : Below N wb wc := below_only (Below.refl N wb) (Nat.le_trans HLB.out.big.1 HGBB.out) hgc HLB.out.bigN
        refine ⟨HLB.out.onlyN hgc (fun i e => by rw [e]; exact HGBB.out) (blk_ne HBBC.out HLB.out.box (by decide)) (by
          obtain ⟨_, _, cs0, hb0⟩ := HLB.out.btlt
          exact blk_ne HBBC.out hb0 (by decide)) (fun e => own_ty HLB.out.row HBBC.out (by decide) gB e rfl), own_other HVB.out hgc (own_ty HVB.out HBBC.out (by decide)), HBBD.out, HTC.out.grown hgc (fun e => blk_ne HTC.out HBBC.out (by decide) (Option.some.inj e)), HBC.out.newb hbN hgc HGB.out, HZC.out.below hbN HN0.out, Nat.le_trans HSC.out hgc.size⟩
      case measure => simp [intOf]
    · obtain rfl : j = 1 := by omega
      obtain ⟨v3, bb, bc2, hl, hvb, hbb, ht, hbe, hzz, hsz⟩ := hr1 rfl
      clear hr0 hr1 hj hge1 HL8 HB8 HZ8 HS8 HPB8 HPT8 HT8 HBB
      have HL1 := Lib.hid hl
      have HVB := Lib.hid hvb
      have HBB := Lib.hid hbb
      have HT1 := Lib.hid ht
      have HB1 := Lib.hid hbe
      have HZ1 := Lib.hid hzz
      have HS1 := Lib.hid hsz
      have HLK := Lib.hid (txLook_ok N B bt g _ _ _ q2 a2 (keysB keys) wr hl HW.out.2 HR.out.2 HA.out.2 H2.out (by omega) HKL.out)
      have m4 : wr.cell? ⟨g4, 4, none⟩ = some (.int .i64 q2.1) := ht.cell 4
      have m5 : wr.cell? ⟨g4, 5, none⟩ = some (.int .u32 (q2.2.1 : Int)) := ht.cell 5
      have m6 : wr.cell? ⟨g4, 6, none⟩ = some (.int .u32 (q2.2.2.1 : Int)) := ht.cell 6
      have m7 : wr.cell? ⟨g4, 7, none⟩ = some (.int .u32 (q2.2.2.2.1 : Int)) := ht.cell 7
      have m8 : wr.cell? ⟨g4, 8, none⟩ = some (.int .u32 (q2.2.2.2.2 : Int)) := ht.cell 8
      clear hl hvb hbb ht hbe hzz hsz
      go_wp2_with fail
      refine HLK.out.mono ?_
      rintro e wb ⟨vk, v4, rfl, hvk, hl, hfz⟩
      obtain ⟨kb, kc2, rfl⟩ := own_slice hvk
      have HL2 := Lib.hid hl
      have HVK := Lib.hid (own_mono hvk HS1.out)
      have hbN := HL1.out.belN hfz
      have HB2 := Lib.hid (HB1.out.look HL1.out hfz)
      have HZ2 := Lib.hid (HZ1.out.below hbN HN0.out)
      have HS2 := Lib.hid (Nat.le_trans HS1.out hfz.size)
      have HT2 := Lib.hid (HL1.out.blk hfz HT1.out (by decide) (by decide) (by decide))
      have HBB2 := Lib.hid (HL1.out.blk hfz HBB.out (by decide) (by decide) (by decide))
      have HVB2 := Lib.hid (HL1.out.bytes hfz HVB.out HBTW.out)
      clear m4 m5 m6 m7 m8 hvk hl hfz hbN HLK HL1 HB1 HZ1 HS1 HT1 HBB HVB
      have c24 : wb.cell? ⟨g, 24, none⟩ = some (.int .i64 0) := by
        have h1 := HL2.out.box.c24
        have h2 := HL2.out.e
        simp only at h2
        rw [h1]
        simp only [h2]
        rfl
      go_wp2_with fail
      clear c24
      go_loopw [10, 77] (fun v i wz => ∃ j : Nat, j ≤ 1 ∧ v = .slice none 0 0 ∧ i = .int .i64 (j : Int) ∧ Below wb.heap.size wb wz) (fun _ i _ => 1 - (intOf i).toNat)
      case atStart => exact ⟨0, Nat.zero_le _, rfl, rfl, Below.refl _ _⟩
      case round =>
        obtain ⟨j, hj, rfl, rfl, hbz⟩ := hrel
        rcases Nat.lt_or_ge j 1 with hlt | hge1
        · obtain rfl : j = 0 := by omega
          have HBZ := Lib.hid hbz
          have b0 : wr.cell? ⟨gB, 0, none⟩ = some (.slice bb 256 bc2) := (HBB2.out.below hbz HBB2.out.lt).cell 0
          have t2 : wr.cell? ⟨g4, 2, none⟩ = some (.int .i64 0) := (HT2.out.below hbz HT2.out.lt).cell 2
          have HLO := Lib.hid (txLinesOf_ok bb bc2 wr (own_bsl (own_below HVB2.out hbz)))
          have hap := run_app_none0
          clear hbz hj hlt
          go_wp2_with fail
          refine HLO.out.mono ?_
          rintro e wy ⟨rfl, bY⟩
          have HBY := Lib.hid (HBZ.out.trans (bY.mono HBZ.out.size))
          have HLY := Lib.hid (HL2.out.bel HBY.out)
          have HRF := Lib.hid (txRefuse_0 g _ wy HLY.out.box HLY.out.e)
          clear bY HLO b0 t2
          go_wp2_with fail
          refine HRF.out.mono ?_
          rintro e wx ⟨rfl, rfl⟩
          clear HRF
          go_wp2_with fail
          go_roundw
          case rel => exact ⟨1, Nat.le_refl _, rfl, by go_num, HBY.out⟩
          case measure => simp [intOf]
        · obtain rfl : j = 1 := by omega
          have HLZ := Lib.hid (HL2.out.bel hbz)
          have HBZ := Lib.hid (HB2.out.news hbz HL2.out.bigN)
          have HSZ2 := Lib.hid (Nat.le_trans HS2.out hbz.size)
          have HKO := Lib.hid (txKeysOf_ok kb kc2 (keysB keys) wr (own_bsl (own_below HVK.out hbz)) (by rw [HKY.out]))
          clear hbz hj hge1 HL2 HB2 HZ2 HS2 HT2 HBB2 HVB2 HVK
          go_wp2_with fail
          refine HKO.out.mono ?_
          rintro e wy ⟨vk, rfl, hbr, bY⟩
          rw [HKY.out] at hbr
          obtain ⟨ka, kc, rfl, _⟩ := hbr.bls
          obtain ⟨kn, hkn⟩ : ∃ n, keys.length = n := ⟨_, rfl⟩
          rw [hkn]
          have HLY := Lib.hid (HLZ.out.bel bY)
          have HBY := Lib.hid (HBZ.out.news bY HLZ.out.bigN)
          have HBR := Lib.hid (show BRowC wy 0 w.heap.size (.slice ka kn kc) keys by rw [← hkn]; exact brow_lo hbr HSZ2.out)
          have c13 := HLY.out.box.c13
          have f13 := HLY.out.box.frozen 13
          clear hbr bY HKO HLZ HBZ
          go_wp2_with fail
          have hg3 := Wk.stay (g := g) wy 13 (.slice ka kn kc)
          have hx3 : Blk (wy.setCell ⟨g, 13, none⟩ (.slice ka kn kc)) g 62 _ := Blk.set_ HLY.out.box 13 (.slice ka kn kc)
          have hbr3 := HBR.out.row hg3 (Nat.zero_le _) HLY.out.box (by decide) (by decide)
          obtain ⟨wx, hwx⟩ : ∃ X, wy.setCell ⟨g, 13, none⟩ (.slice ka kn kc) = X := ⟨_, rfl⟩
          rw [hwx] at hg3 hx3 hbr3 ⊢
          have HLX := Lib.hid (HLY.out.put (k' := { k with S := (k.S.1, usedN (usedN (usedN k.S.2.1 [a0] 1) [a1] 1) [a2] 1, k.S.2.2), own := v4, nextId := (id : Int), nextGuid := guid, keys := .slice ka kn kc }) hg3 hx3 rfl rfl rfl rfl)
          have HBX := Lib.hid (HBY.out.boxg (below_only (Below.refl N wy) HLY.out.big.2.2 hg3 HLY.out.bigN) hg3 HLY.out.box)
          have HBRX := Lib.hid hbr3
          have HRF := Lib.hid (txRefuse_0 g _ wx HLX.out.box HLX.out.e)
          clear hwx c13 f13 hg3 hx3 hbr3 HLY HBY HBR
          refine HRF.out.mono ?_
          rintro e wv ⟨rfl, rfl⟩
          clear HRF
          go_wp2_with fail
          go_ret
          exact ⟨rfl, v4, _, HLX.out, HBRX.out, HBX.out⟩
end Go.Proofs.YtafbidhbmfdlkaaGreatDoor
/-
  slices.Sort over numbers, as txg's loaded calls it.
-/
namespace Go.Proofs
open Go.Shelf
def txSort189_ren : Go.Shelf.Ren := ⟨fun | 189 => 91 | 125 => 85 | 257 => 158 | 128 => 148 | 129 => 149 | 294 => 221 | 295 => 222 | 296 => 223 | 297 => 224 | 298 => 225 | 299 => 226 | 216 => 227 | 300 => 228 | 301 => 229 | 328 => 270 | 329 => 204 | 330 => 205 | 331 => 271 | 332 => 272 | 215 => 232 | 343 => 287 | n => n, fun | 28 => 32 | 3 => 3 | 46 => 54 | 0 => 0 | 51 => 27 | 53 => 75 | 4 => 4 | 183 => 191 | 182 => 190 | 131 => 182 | 5 => 5 | 9 => 9 | 218 => 259 | 222 => 263 | 228 => 314 | 229 => 315 | n => n, fun | n => n⟩
theorem txSort189 : Go.Proofs.Lays.n189 Tryz.prog txSort189_ren := {
  mixed := by kernel_rfl
  f125 := Tryz.func85.trans (congrArg some (by kernel_rfl))
  f128 := Tryz.func148.trans (congrArg some (by kernel_rfl))
  f129 := Tryz.func149.trans (congrArg some (by kernel_rfl))
  f189 := Tryz.func91.trans (congrArg some (by kernel_rfl))
  f215 := Tryz.func232.trans (congrArg some (by kernel_rfl))
  f216 := Tryz.func227.trans (congrArg some (by kernel_rfl))
  f257 := Tryz.func158.trans (congrArg some (by kernel_rfl))
  f294 := Tryz.func221.trans (congrArg some (by kernel_rfl))
  f295 := Tryz.func222.trans (congrArg some (by kernel_rfl))
  f296 := Tryz.func223.trans (congrArg some (by kernel_rfl))
  f297 := Tryz.func224.trans (congrArg some (by kernel_rfl))
  f298 := Tryz.func225.trans (congrArg some (by kernel_rfl))
  f299 := Tryz.func226.trans (congrArg some (by kernel_rfl))
  f300 := Tryz.func228.trans (congrArg some (by kernel_rfl))
  f301 := Tryz.func229.trans (congrArg some (by kernel_rfl))
  f328 := Tryz.func270.trans (congrArg some (by kernel_rfl))
  f329 := Tryz.func204.trans (congrArg some (by kernel_rfl))
  f330 := Tryz.func205.trans (congrArg some (by kernel_rfl))
  f331 := Tryz.func271.trans (congrArg some (by kernel_rfl))
  f332 := Tryz.func272.trans (congrArg some (by kernel_rfl))
  f343 := Tryz.func287.trans (congrArg some (by kernel_rfl))
  t0 := Tryz.underlying0
  a0 := Tryz.isAgg0
  z0 := Tryz.sizeOf0
  v0 := Tryz.zeroValue0
  t3 := Tryz.underlying3
  a3 := Tryz.isAgg3
  z3 := Tryz.sizeOf3
  v3 := Tryz.zeroValue3
  t4 := Tryz.underlying4
  a4 := Tryz.isAgg4
  z4 := Tryz.sizeOf4
  v4 := Tryz.zeroValue4
  t5 := Tryz.underlying5
  a5 := Tryz.isAgg5
  z5 := Tryz.sizeOf5
  v5 := Tryz.zeroValue5
  t9 := Tryz.underlying9
  a9 := Tryz.isAgg9
  z9 := Tryz.sizeOf9
  v9 := Tryz.zeroValue9
  t28 := Tryz.underlying32
  a28 := Tryz.isAgg32
  z28 := Tryz.sizeOf32
  v28 := Tryz.zeroValue32
  t46 := Tryz.underlying54
  a46 := Tryz.isAgg54
  z46 := Tryz.sizeOf54
  v46 := Tryz.zeroValue54
  t51 := Tryz.underlying27
  a51 := Tryz.isAgg27
  z51 := Tryz.sizeOf27
  v51 := Tryz.zeroValue27
  t53 := Tryz.underlying75
  a53 := Tryz.isAgg75
  z53 := Tryz.sizeOf75
  v53 := Tryz.zeroValue75
  t131 := Tryz.underlying182
  a131 := Tryz.isAgg182
  z131 := Tryz.sizeOf182
  v131 := Tryz.zeroValue182
  t182 := Tryz.underlying190
  a182 := Tryz.isAgg190
  z182 := Tryz.sizeOf190
  v182 := Tryz.zeroValue190
  t183 := Tryz.underlying191
  a183 := Tryz.isAgg191
  z183 := Tryz.sizeOf191
  v183 := Tryz.zeroValue191
  t218 := Tryz.underlying259
  a218 := Tryz.isAgg259
  z218 := Tryz.sizeOf259
  v218 := Tryz.zeroValue259
  t222 := Tryz.underlying263
  a222 := Tryz.isAgg263
  z222 := Tryz.sizeOf263
  v222 := Tryz.zeroValue263
  t228 := Tryz.underlying314
  a228 := Tryz.isAgg314
  z228 := Tryz.sizeOf314
  v228 := Tryz.zeroValue314
  t229 := Tryz.underlying315
  a229 := Tryz.isAgg315
  z229 := Tryz.sizeOf315
  v229 := Tryz.zeroValue315 }
end Go.Proofs
namespace Go.Proofs.YtafbidhbmfdlkaaGreatDoor
open Go Go.RowKit Go.Shelf
set_option maxRecDepth 100000

theorem ms_nat {own ts : List Nat} (hp : ts.Perm own) (hs : ts.Pairwise (· ≤ ·)) : (own.map fun x : Nat => (x : Int)).mergeSort (fun x y => decide (x ≤ y)) = ts.map fun x : Nat => (x : Int) := by
  have h1 : (own.map fun x : Nat => (x : Int)).Perm (ts.map fun x : Nat => (x : Int)) := (hp.symm).map _
  have h2 := List.mergeSort_perm (own.map fun x : Nat => (x : Int)) (fun x y => decide (x ≤ y))
  have h3 : ((own.map fun x : Nat => (x : Int)).mergeSort (fun x y => decide (x ≤ y))).Pairwise (fun x y : Int => (decide (x ≤ y)) = true) := List.pairwise_mergeSort (by intro a b c h k; simp at *; omega) (by intro a b; simp; omega) _
  refine List.Perm.eq_of_pairwise (le := fun x y : Int => (decide (x ≤ y)) = true) ?_ h3 ?_ (h2.trans h1)
  · intro a b _ _ h k
    simp at h k
    omega
  · rw [List.pairwise_map]
    refine hs.imp ?_
    intro a b h
    simp
    exact h
theorem txSort_any (B n : Nat) (own ts : List Nat) (v : Value) (w : World) (h : w.ownsRow B 3 1 v n (valsN own)) (hn : 0 < n) (h9 : n ≤ 1000) (hp : ts.Perm own) (hs : ts.Pairwise (· ≤ ·)) :
    Calls Tryz.prog 91 #[v] w fun e w' => e = .returned (.tuple #[]) ∧ w'.ownsRow B 3 1 v n (valsN ts) ∧ w.grownBy w' v.ownBlock := by
  obtain ⟨hl, ⟨rfl, h0⟩ | ⟨g, cap, cur, rfl, hbase, hb, h1, h2, h3, h4⟩⟩ := id h
  · omega
  have hon : own.length = n := by simpa [valsN] using hl
  have hzs : (own.map fun x : Nat => (x : Int)).map (Value.int .i64) = valsN own := by simp [valsN]
  have hzt : (ts.map fun x : Nat => (x : Int)).map (Value.int .i64) = valsN ts := by simp [valsN]
  have hzl : (own.map fun x : Nat => (x : Int)).length = n := by rw [List.length_map, hon]
  have htl : (ts.map fun x : Nat => (x : Int)).length = (own.map fun x : Nat => (x : Int)).length := by rw [List.length_map, List.length_map, hp.length_eq]
  have hH := holds_of_blockI (ss := own.map fun x : Nat => (x : Int)) hb (by rw [hzl, hzs, ← h4, Nat.mul_one])
  have hc := Any.slices_Sort_int txSort189 g 0 cap (own.map fun x : Nat => (x : Int)) w hH (Array.getElem?_eq_some_iff.1 hb).1 (by rw [hzl]; omega)
  rw [hzl, ms_nat hp hs] at hc
  refine hc.mono ?_
  rintro e w' ⟨rfl, nn, os, rfl⟩
  have ho := ownsRow_sortedI (n := nn) (os := os) (base := B) (ss := own.map fun x : Nat => (x : Int)) (ts := ts.map fun x : Nat => (x : Int)) htl hbase hb (by rw [hzl]; exact h1) h2 h3
  rw [hzl, hzt] at ho
  exact ⟨rfl, ho, grownBy_sortedI _⟩
end Go.Proofs.YtafbidhbmfdlkaaGreatDoor
/-
  txg's own mayLabel, of a label that may be.
-/
namespace Go.Proofs.YtafbidhbmfdlkaaGreatDoor
open Go Go.RowKit Go.Shelf
set_option maxRecDepth 100000

/-- A label's cells. -/
@[reducible] def lbA (l : Lb) : Array Value := #[.int .u32 (l.1 : Int), .int .u32 (l.2.1 : Int), .int .i64 l.2.2.1, .int .u32 (l.2.2.2.1 : Int), .int .u32 (l.2.2.2.2.1 : Int), .int .u32 (l.2.2.2.2.2.1 : Int), .int .u32 (l.2.2.2.2.2.2 : Int)]
theorem txMayLabel_yes (l : Lb) (w : World) (hm : MayL l) : Calls Tryz.prog 87 #[lbV l] w fun e w' => e = .returned (.bool true) ∧ Below w.heap.size w w' := by
  obtain ⟨w0, g, hw0, hg, b0, hb⟩ := new_blk w (lbA l) 67
  have HX := Lib.hid hb
  have HB := Lib.hid b0
  simp only [lbA] at hw0
  have c0 : w0.cell? ⟨g, 0, none⟩ = some (.int .u32 (l.1 : Int)) := hb.cell 0
  have c1 : w0.cell? ⟨g, 1, none⟩ = some (.int .u32 (l.2.1 : Int)) := hb.cell 1
  have c2 : w0.cell? ⟨g, 2, none⟩ = some (.int .i64 l.2.2.1) := hb.cell 2
  have c3 : w0.cell? ⟨g, 3, none⟩ = some (.int .u32 (l.2.2.2.1 : Int)) := hb.cell 3
  have c4 : w0.cell? ⟨g, 4, none⟩ = some (.int .u32 (l.2.2.2.2.1 : Int)) := hb.cell 4
  have c5 : w0.cell? ⟨g, 5, none⟩ = some (.int .u32 (l.2.2.2.2.2.1 : Int)) := hb.cell 5
  have c6 : w0.cell? ⟨g, 6, none⟩ = some (.int .u32 (l.2.2.2.2.2.2 : Int)) := hb.cell 6
  have n1 : (1 : Int) ≤ (l.1 : Int) := by have := hm.1.1; omega
  have n2 : (l.1 : Int) ≤ 16777215 := by have := hm.1.2; omega
  have n3 : (1 : Int) ≤ (l.2.1 : Int) := by have := hm.2.1.1; omega
  have n4 : (l.2.1 : Int) ≤ 65535 := by have := hm.2.1.2; omega
  have HTH := Lib.hid (txThere_any l.2.2 w0 true ⟨fun _ => hm.2.2.1, fun _ => rfl⟩)
  have HPC : Hid (∀ W : World, Calls Tryz.prog 100 #[ptV l.2.2] W fun e w' => e = .returned (.int .i64 0) ∧ Below W.heap.size W w') := Lib.hid (fun W => by
    have := Check_any l.2.2 W
    rw [show pcheckO l.2.2 = 0 by unfold pcheckO; rw [if_pos hm.2.2.2]] at this
    exact this)
  clear hb b0 hm
  go_enter Tryz.func87, Tryz.ntmps87
  go_wp2_with fail
  try rw [hw0]
  try rw [hg]
  clear hw0
  refine HTH.out.mono ?_
  rintro e w1 ⟨rfl, b1⟩
  have hx1 := HX.out.below b1 HX.out.lt
  have HB1 := Lib.hid (HB.out.trans (b1.mono HB.out.size))
  clear c0 c1 c2 c3 c4 c5 c6 b1 HTH
  have c2 : w1.cell? ⟨g, 2, none⟩ = some (.int .i64 l.2.2.1) := hx1.cell 2
  have c3 : w1.cell? ⟨g, 3, none⟩ = some (.int .u32 (l.2.2.2.1 : Int)) := hx1.cell 3
  have c4 : w1.cell? ⟨g, 4, none⟩ = some (.int .u32 (l.2.2.2.2.1 : Int)) := hx1.cell 4
  have c5 : w1.cell? ⟨g, 5, none⟩ = some (.int .u32 (l.2.2.2.2.2.1 : Int)) := hx1.cell 5
  have c6 : w1.cell? ⟨g, 6, none⟩ = some (.int .u32 (l.2.2.2.2.2.2 : Int)) := hx1.cell 6
  clear hx1
  go_wp2_with fail
  refine (HPC.out w1).mono ?_
  rintro e w2 ⟨rfl, b2⟩
  have HB2 := Lib.hid (HB1.out.trans (b2.mono HB1.out.size))
  clear b2 HPC c2 c3 c4 c5 c6
  go_wp2_with fail
  go_ret
  exact ⟨rfl, by first | exact HB2.out | (rw [← hg]; exact HB2.out)⟩
end Go.Proofs.YtafbidhbmfdlkaaGreatDoor
/-
  txg's own loaded, where the root's block tells of no lines.
-/
namespace Go.Proofs.YtafbidhbmfdlkaaGreatDoor
open Go Go.RowKit Go.Shelf
set_option maxRecDepth 100000

/-- The types of a disk's blocks. -/
def isDk (t : TypeId) : Prop := t = 5 ∨ t = 26 ∨ t = 53
theorem laid_move {V W : World} {lo : Nat} {y : DAt} {D : DkL} (h : Laid V lo y D) (hk : ∀ i t cs, Blk V i t cs → isDk t → W.heap[i]? = V.heap[i]?) (hs : V.heap.size ≤ W.heap.size) : Dsk W V.heap.size y D := by
  obtain ⟨V2, hV2⟩ : ∃ X : World, X = { W with heap := W.heap.extract 0 V.heap.size } := ⟨_, rfl⟩
  have hz : V2.heap.size = V.heap.size := by rw [hV2]; simp; omega
  have hg : ∀ i, i < V.heap.size → V2.heap[i]? = W.heap[i]? := fun i hi => by rw [hV2]; rw [Array.getElem?_extract]; simp; omega
  have hb : ∀ {i t cs}, Blk V i t cs → isDk t → Blk V2 i t cs := fun {i t cs} hB ht => by
    show V2.heap[i]? = _
    rw [hg i hB.lt, hk i t cs hB ht]
    exact hB
  obtain ⟨g, hb_, hw_, rfl, a1, a2, a3, a4, a5, a6, a7, a8, ⟨cb, a9, a10, a11⟩, cw, a12, a13, a14⟩ := h
  have hL : Laid V2 lo _ D := ⟨g, hb_, hw_, rfl, a1, a2, a3, a4, a5, a6, a7, hb a8 (.inl rfl), ⟨cb, hb a9 (.inr (.inl rfl)), a10, a11⟩, cw, hb a12 (.inr (.inr rfl)), a13, a14⟩
  have hd := hL.dsk
  rw [hz] at hd
  have hB : Below V.heap.size V2 W := by
    refine ⟨by rw [hV2], by rw [hV2], by rw [hV2], by rw [hz]; exact hs, fun k hk2 => (hg k hk2).symm⟩
  exact ⟨hd.1.below hB, hd.2.below hB⟩
/-- A disk of the call's own that lies below N. -/
def LaidN (D : DkL) (y : DAt) (N : Nat) (W : World) : Prop := N ≤ W.heap.size ∧ ∃ V lo, V.heap.size = N ∧ Laid V lo y D ∧ ∀ i t cs, Blk V i t cs → isDk t → W.heap[i]? = V.heap[i]?
theorem LaidN.step {D : DkL} {y : DAt} {N : Nat} {W W' : World} (h : LaidN D y N W) (hb : Below W.heap.size W W') : LaidN D y N W' := by
  obtain ⟨h1, V, lo, h2, h3, h4⟩ := h
  exact ⟨Nat.le_trans h1 hb.size, V, lo, h2, h3, fun i t cs hB ht => (hb.block i (by have := hB.lt; omega)).trans (h4 i t cs hB ht)⟩
theorem LaidN.box {D : DkL} {y : DAt} {N g : Nat} {W W' : World} {u : TypeId} {cu : Array Value} (h : LaidN D y N W) (hg : W.grownBy W' (some g)) (hx : Blk W g u cu) (hu : ¬ isDk u) : LaidN D y N W' := by
  obtain ⟨h1, V, lo, h2, h3, h4⟩ := h
  refine ⟨Nat.le_trans h1 hg.size, V, lo, h2, h3, fun i t cs hB ht => ?_⟩
  have h5 := h4 i t cs hB ht
  refine (hg.block i (by have := hB.lt; omega) (fun e => ?_)).trans h5
  have e := Option.some.inj e
  subst e
  have h6 : Blk W i t cs := h5.trans hB
  have h7 : t = u := Classical.byContradiction fun hn => blk_ne h6 hx hn rfl
  exact hu (h7 ▸ ht)
theorem LaidN.belN {D : DkL} {y : DAt} {N : Nat} {W W' : World} (h : LaidN D y N W) (hb : Below N W W') : LaidN D y N W' := by
  obtain ⟨h1, V, lo, h2, h3, h4⟩ := h
  exact ⟨Nat.le_trans h1 hb.size, V, lo, h2, h3, fun i t cs hB ht => (hb.block i (by have := hB.lt; omega)).trans (h4 i t cs hB ht)⟩
theorem LaidN.lasts {D : DkL} {y : DAt} {N : Nat} {W : World} (h : LaidN D y N W) : Lasts 0 W fun W' => Dsk W' W'.heap.size y D := fun W' k => by
  obtain ⟨h1, V, lo, h2, h3, h4⟩ := h
  subst h2
  have hs := Nat.le_trans h1 k.size
  have hd := laid_move (W := W') h3 (fun i t cs hB ht => by
    have h5 : Blk W i t cs := (h4 i t cs hB ht).trans hB
    have h6 : rowT3 t = true := by rcases ht with rfl | rfl | rfl <;> decide
    exact (k.row i t cs h5 h6).trans hB.symm) hs
  exact ⟨hd.1.more hs, hd.2.more hs⟩
theorem LaidN.dsk {D : DkL} {y : DAt} {N : Nat} {W : World} (h : LaidN D y N W) : Dsk W N y D := by
  obtain ⟨h1, V, lo, h2, h3, h4⟩ := h
  subst h2
  exact laid_move h3 h4 h1
/-- What is read back of a label's pool without lines. -/
structure Reads (D : DkL) (l : Lb) (id guid a0 a1 a2 : Nat) (q1 q2 : Pt) (keys : List (List UInt8)) : Prop where
  mt : MayTr ⟨id, guid, 0, [q1], q2⟩
  wr : WfP l.2.2
  w1 : WfP q1
  w2 : WfP q2
  r0 : l.2.2.1 = (a0 : Int)
  r1 : q1.1 = (a1 : Int)
  r2 : q2.1 = (a2 : Int)
  l0 : a0 < 256
  l1 : a1 < 256
  l2 : a2 < 256
  h0 : lookO (D, newTo 12, l.2.1, 0) l.2.2 = (trunkB ⟨id, guid, 0, [q1], q2⟩, 0)
  h1 : lookO (D, usedN (newTo 12) [a0] 1, l.2.1, 0) q1 = (linesB [], 0)
  h2 : lookO (D, usedN (usedN (newTo 12) [a0] 1) [a1] 1, l.2.1, 0) q2 = (keysB keys, 0)
  ky : keysTo (keysB keys) 8 = keys
  kl : (keysB keys).length = 256
/-- What loaded answers: its box holds the pool. -/
def OutLod (q : PoN) (w : World) (e : Ending) (w' : World) : Prop :=
  ∃ g k Y, e = .returned (.pointer (some ⟨g, 0, none⟩)) ∧ Box w' g k ∧ k.e = 0 ∧ (k.cs.toList.take 19).toArray = poC Y q ∧ PoNew w.heap.size w' Y q ∧ w.heap.size ≤ g ∧ Below w.heap.size w w'
/-- A table of the call's own. -/
def RowN (N : Nat) (v : Value) (s : List UInt8) (W : World) : Prop := W.ownsRow N 5 1 v 256 (vals s)
theorem RowN.step {N : Nat} {v : Value} {s : List UInt8} {W W' : World} (h : RowN N v s W) (hb : Below W.heap.size W W') : RowN N v s W' := own_below h hb
theorem row_bytes {w : World} {B n : Nat} {v : Value} {s : List UInt8} (h : w.ownsRow B 5 1 v n (vals s)) (hn : 0 < n) : ∃ g c, v = .slice (some ⟨g, 0, none⟩) n c ∧ B ≤ g := by
  obtain ⟨_, ⟨_, h0⟩ | ⟨g, cap, cur, e, h3, _⟩⟩ := h
  · omega
  · exact ⟨g, cap, e, h3⟩
theorem int_row {w : World} {B n : Nat} {v : Value} {xs : List Value} (h : w.ownsRow B 3 1 v n xs) (hn : 0 < n) : ∃ g c, v = .slice (some ⟨g, 0, none⟩) n c ∧ B ≤ g ∧ ∃ cs, Blk w g 3 cs := by
  obtain ⟨_, ⟨_, h0⟩ | ⟨g, cap, cur, e, h3, h4, _⟩⟩ := h
  · omega
  · exact ⟨g, cap, e, h3, cur, h4⟩
theorem infoSt5 : (Tryz.prog.info? 29).map (·.size) = some 5 := by kernel_rfl
set_option maxHeartbeats 8000000 in
theorem txLoaded_ok (x : DAt) (D : DkL) (l : Lb) (w : World) (h : Dsk w w.heap.size x D) (hf : Fits D) (hmd : MayD D) (hml : MayL l) (hz : Szs w) (id guid a0 a1 a2 : Nat) (q1 q2 : Pt) (keys : List (List UInt8)) (hy : Reads D l id guid a0 a1 a2 q1 q2 keys) (b0 b1 b2 : Nat) (hts : [b0, b1, b2].Perm [a0, a1, a2] ∧ [b0, b1, b2].Pairwise (· ≤ ·)) (hmay : MayN ⟨(D, usedN (usedN (usedN (newTo 12) [a0] 1) [a1] 1) [a2] 1, l.2.1, 0), l.1, l.2.2, [b0, b1, b2], keys, List.replicate 8 [], 0, (id : Int), guid⟩) :
    Calls Tryz.prog 45 #[dval x D, lbV l] w (OutLod ⟨(D, usedN (usedN (usedN (newTo 12) [a0] 1) [a1] 1) [a2] 1, l.2.1, 0), l.1, l.2.2, [b0, b1, b2], keys, List.replicate 8 [], 0, (id : Int), guid⟩ w) := by
  have hmx : Tryz.prog.follows Departure.mixedOrders = true := by kernel_rfl
  obtain ⟨w1, hw1, bb0, z0, qa, qb⟩ := two_al w #[.slice x.ba D.1.length x.bc, .slice x.wa D.2.length x.wc] (lbA l) 25 67
  obtain ⟨g2, hg2⟩ : ∃ g, w.heap.size = g := ⟨_, rfl⟩
  obtain ⟨g3, hg3⟩ : ∃ g, g2 + 1 = g := ⟨_, rfl⟩
  rw [hg2] at qa qb
  rw [hg3] at qb
  simp only [lbA] at hw1
  have hd1 := h.step bb0
  have HDK := Lib.hid hd1
  have H2 := Lib.hid qa
  have H3 := Lib.hid qb
  have HB := Lib.hid bb0
  have HCK := Lib.hid (dCheck_any x D w1 hd1)
  rw [show checkO D = 0 by unfold checkO; rw [if_pos hmd]] at HCK
  have c0 : w1.cell? ⟨g2, 0, none⟩ = some (.slice x.ba D.1.length x.bc) := H2.out.cell 0
  have c1 : w1.cell? ⟨g2, 1, none⟩ = some (.slice x.wa D.2.length x.wc) := H2.out.cell 1
  have HML := Lib.hid hml
  have HF := Lib.hid hf
  have HZ := Lib.hid hz
  have HHY := Lib.hid hy
  have HTS := Lib.hid hts
  have HMY := Lib.hid hmay
  have HG := Lib.hid (show w.heap.size ≤ g2 ∧ w.heap.size ≤ g3 by omega)
  clear h bb0 z0 qa qb hd1 hf hmd hml hz hy hts hmay
  unfold dval
  go_enter Tryz.func45, Tryz.ntmps45
  go_wp2_with fail
  try rw [hw1]
  try rw [hg2]
  try rw [hg3]
  clear hw1 hg2 hg3
  refine HCK.out.mono ?_
  rintro e w2 ⟨rfl, bq⟩
  replace HDK := Lib.hid (HDK.out.step bq)
  replace H2 := Lib.hid (H2.out.below bq H2.out.lt)
  replace H3 := Lib.hid (H3.out.below bq H3.out.lt)
  replace HB := Lib.hid (HB.out.trans (bq.mono HB.out.size))
  clear bq HCK c0 c1
  have m0 : w2.cell? ⟨g3, 0, none⟩ = some (.int .u32 (l.1 : Int)) := H3.out.cell 0
  have m1 : w2.cell? ⟨g3, 1, none⟩ = some (.int .u32 (l.2.1 : Int)) := H3.out.cell 1
  have m2 : w2.cell? ⟨g3, 2, none⟩ = some (.int .i64 l.2.2.1) := H3.out.cell 2
  have m3 : w2.cell? ⟨g3, 3, none⟩ = some (.int .u32 (l.2.2.2.1 : Int)) := H3.out.cell 3
  have m4 : w2.cell? ⟨g3, 4, none⟩ = some (.int .u32 (l.2.2.2.2.1 : Int)) := H3.out.cell 4
  have m5 : w2.cell? ⟨g3, 5, none⟩ = some (.int .u32 (l.2.2.2.2.2.1 : Int)) := H3.out.cell 5
  have m6 : w2.cell? ⟨g3, 6, none⟩ = some (.int .u32 (l.2.2.2.2.2.2 : Int)) := H3.out.cell 6
  have HLA := Lib.hid (txMayLabel_yes l w2 HML.out)
  go_wp2_with fail
  refine HLA.out.mono ?_
  rintro e w3 ⟨rfl, bq⟩
  replace HDK := Lib.hid (HDK.out.step bq)
  replace H2 := Lib.hid (H2.out.below bq H2.out.lt)
  replace H3 := Lib.hid (H3.out.below bq H3.out.lt)
  replace HB := Lib.hid (HB.out.trans (bq.mono HB.out.size))
  clear bq HLA m0 m1 m2 m3 m4 m5 m6
  go_wp2_with fail
  obtain ⟨wd, hwd⟩ : ∃ wd, w3.drew = wd := ⟨_, rfl⟩
  have bq : Below w3.heap.size w3 wd := by rw [← hwd]; exact (Below.refl _ w3).drew
  replace H2 := Lib.hid (H2.out.below bq H2.out.lt)
  replace H3 := Lib.hid (H3.out.below bq H3.out.lt)
  replace HB := Lib.hid (HB.out.trans (bq.mono HB.out.size))
  replace HDK := Lib.hid (HDK.out.step bq)
  refine wpI_start (fun X => Blk X g2 25 #[.slice x.ba D.1.length x.bc, .slice x.wa D.2.length x.wc] ∧ Blk X g3 67 (lbA l)) [0, 3, 4, 1, 2, 5, 6, 7] hmx rfl hwd ?_
  clear hwd bq
  iterate 3 (
    refine wpI_read (v := ?_) ⟨H2.out, H3.out⟩ rfl (by kernel_rfl) (by kernel_rfl) (by kernel_rfl) (fun _ _ _ h => h) (.inl ⟨by rfl, ?_⟩) ?_
    rotate_left
    · intro X hX
      have j0 : X.cell? ⟨g2, 0, none⟩ = some (.slice x.ba D.1.length x.bc) := hX.1.cell 0
      have j1 : X.cell? ⟨g2, 1, none⟩ = some (.slice x.wa D.2.length x.wc) := hX.1.cell 1
      have j2 : X.cell? ⟨g3, 1, none⟩ = some (.int .u32 (l.2.1 : Int)) := hX.2.cell 1
      clear hX
      go_simp
      with_reducible rfl
    try simp only [Act.put, List.setIfInBounds_toArray, List.set_cons_zero, List.set_cons_succ])
  refine wpI_turn [1, 6, 2, 5, 7] rfl ?_
  refine wpI_fork rfl rfl (by kernel_rfl) (fun K hK => ?_) (fun K hK => ?_)
  go_simp
  have HC := Lib.hid (dTwin_any x D wd HDK.out HF.out)
  refine HC.out.mono ?_
  rintro ev v1 ⟨y, rfl, hy, b9⟩
  obtain ⟨N, hN⟩ : ∃ N, v1.heap.size = N := ⟨_, rfl⟩
  have HSZN := Lib.hid (show w.heap.size ≤ N from hN ▸ Nat.le_trans HB.out.size b9.size)
  have hyd : LaidN D y N v1 := ⟨Nat.le_of_eq hN.symm, _, _, hN, hy, fun _ _ _ _ _ => rfl⟩
  replace H2 := Lib.hid (H2.out.below b9 H2.out.lt)
  replace H3 := Lib.hid (H3.out.below b9 H3.out.lt)
  replace HB := Lib.hid (HB.out.trans (b9.mono HB.out.size))
  replace HDK := Lib.hid (HDK.out.step b9)
  have HT := Lib.hid hyd
  refine hK _ _ ⟨H2.out, H3.out⟩ ?_
  clear hK K b9 HC hy hyd hN
  try simp only [Act.put, List.setIfInBounds_toArray, List.set_cons_zero, List.set_cons_succ]
  refine wpI_turn [2, 6, 5, 7] rfl ?_
  refine wpI_fork rfl rfl (by kernel_rfl) (fun K hK => ?_) (fun K hK => ?_)
  go_simp
  have HC := Lib.hid (spNew_any v1)
  refine HC.out.mono ?_
  rintro ev v2 ⟨vt, rfl, ho, b9⟩
  obtain ⟨bt, tc, rfl, _⟩ := row_bytes ho (by decide)
  have hro : RowN N (.slice (some ⟨bt, 0, none⟩) 256 tc) (newTo 12) v2 := own_mono ho HT.out.1
  replace H2 := Lib.hid (H2.out.below b9 H2.out.lt)
  replace H3 := Lib.hid (H3.out.below b9 H3.out.lt)
  replace HB := Lib.hid (HB.out.trans (b9.mono HB.out.size))
  replace HDK := Lib.hid (HDK.out.step b9)
  replace HT := Lib.hid (HT.out.step b9)
  have HO := Lib.hid hro
  refine hK _ _ ⟨H2.out, H3.out⟩ ?_
  clear hK K b9 HC ho hro
  try simp only [Act.put, List.setIfInBounds_toArray, List.set_cons_zero, List.set_cons_succ]
  refine wpI_turn [5, 6, 7] rfl ?_
  refine wpI_read (v := stV { d := y, a := some ⟨bt, 0, none⟩, c := tc } (D, newTo 12, l.2.1, 0)) ⟨H2.out, H3.out⟩ rfl (by kernel_rfl) (by kernel_rfl) (by kernel_rfl) (fun _ _ _ h => h) (.inl ⟨by rfl, ?_⟩) ?_
  · intro X hX
    clear hX
    unfold dval
    go_simp
    rfl
  try simp only [Act.put, List.setIfInBounds_toArray, List.set_cons_zero, List.set_cons_succ]
  refine wpI_turn [6, 7] rfl ?_
  refine wpI_lone rfl (by kernel_rfl) (fun K hK => ?_)
  go_simp
  obtain ⟨v3, g5, hn, hg_, bq, xq⟩ := new_blk v2 #[.slice none 0 0, .slice none 0 0, .slice none 0 0, .int .u32 0, .int .u32 0] 29
  have HL5 := Lib.hid (show w.heap.size ≤ g5 from hg_ ▸ HB.out.size)
  try rw [hn]
  try rw [hg_]
  replace H2 := Lib.hid (H2.out.below bq H2.out.lt)
  replace H3 := Lib.hid (H3.out.below bq H3.out.lt)
  replace HB := Lib.hid (HB.out.trans (bq.mono HB.out.size))
  replace HDK := Lib.hid (HDK.out.step bq)
  replace HT := Lib.hid (HT.out.step bq)
  replace HO := Lib.hid (HO.out.step bq)
  have H5 := Lib.hid xq
  refine hK _ _ ⟨H2.out, H3.out⟩ ?_
  clear hK K hn hg_ xq bq
  try simp only [Act.put, List.setIfInBounds_toArray, List.set_cons_zero, List.set_cons_succ]
  rotate_left
  go_simp
  obtain ⟨v2, g5, hn, hg_, bq, xq⟩ := new_blk v1 #[.slice none 0 0, .slice none 0 0, .slice none 0 0, .int .u32 0, .int .u32 0] 29
  have HL5 := Lib.hid (show w.heap.size ≤ g5 from hg_ ▸ HB.out.size)
  try rw [hn]
  try rw [hg_]
  replace H2 := Lib.hid (H2.out.below bq H2.out.lt)
  replace H3 := Lib.hid (H3.out.below bq H3.out.lt)
  replace HB := Lib.hid (HB.out.trans (bq.mono HB.out.size))
  replace HDK := Lib.hid (HDK.out.step bq)
  replace HT := Lib.hid (HT.out.step bq)
  have H5 := Lib.hid xq
  refine hK _ _ ⟨H2.out, H3.out⟩ ?_
  clear hK K hn hg_ xq bq
  try simp only [Act.put, List.setIfInBounds_toArray, List.set_cons_zero, List.set_cons_succ]
  refine wpI_turn [2, 5, 7] rfl ?_
  refine wpI_lone rfl (by kernel_rfl) (fun K hK => ?_)
  go_simp
  have HC := Lib.hid (spNew_any v2)
  refine HC.out.mono ?_
  rintro ev v3 ⟨vt, rfl, ho, b9⟩
  obtain ⟨bt, tc, rfl, _⟩ := row_bytes ho (by decide)
  have hro : RowN N (.slice (some ⟨bt, 0, none⟩) 256 tc) (newTo 12) v3 := own_mono ho HT.out.1
  replace H2 := Lib.hid (H2.out.below b9 H2.out.lt)
  replace H3 := Lib.hid (H3.out.below b9 H3.out.lt)
  replace HB := Lib.hid (HB.out.trans (b9.mono HB.out.size))
  replace H5 := Lib.hid (H5.out.below b9 H5.out.lt)
  replace HDK := Lib.hid (HDK.out.step b9)
  replace HT := Lib.hid (HT.out.step b9)
  have HO := Lib.hid hro
  refine hK _ _ ⟨H2.out, H3.out⟩ ?_
  clear hK K b9 HC ho hro
  try simp only [Act.put, List.setIfInBounds_toArray, List.set_cons_zero, List.set_cons_succ]
  refine wpI_turn [5, 7] rfl ?_
  refine wpI_read (v := stV { d := y, a := some ⟨bt, 0, none⟩, c := tc } (D, newTo 12, l.2.1, 0)) ⟨H2.out, H3.out⟩ rfl (by kernel_rfl) (by kernel_rfl) (by kernel_rfl) (fun _ _ _ h => h) (.inl ⟨by rfl, ?_⟩) ?_
  · intro X hX
    clear hX
    unfold dval
    go_simp
    rfl
  try simp only [Act.put, List.setIfInBounds_toArray, List.set_cons_zero, List.set_cons_succ]
  rotate_left
  go_simp
  obtain ⟨v1, g5, hn, hg_, bq, xq⟩ := new_blk wd #[.slice none 0 0, .slice none 0 0, .slice none 0 0, .int .u32 0, .int .u32 0] 29
  have HL5 := Lib.hid (show w.heap.size ≤ g5 from hg_ ▸ HB.out.size)
  try rw [hn]
  try rw [hg_]
  replace H2 := Lib.hid (H2.out.below bq H2.out.lt)
  replace H3 := Lib.hid (H3.out.below bq H3.out.lt)
  replace HB := Lib.hid (HB.out.trans (bq.mono HB.out.size))
  replace HDK := Lib.hid (HDK.out.step bq)
  have H5 := Lib.hid xq
  refine hK _ _ ⟨H2.out, H3.out⟩ ?_
  clear hK K hn hg_ xq bq
  try simp only [Act.put, List.setIfInBounds_toArray, List.set_cons_zero, List.set_cons_succ]
  refine wpI_turn [1, 2, 5, 7] rfl ?_
  refine wpI_lone rfl (by kernel_rfl) (fun K hK => ?_)
  go_simp
  have HC := Lib.hid (dTwin_any x D v1 HDK.out HF.out)
  refine HC.out.mono ?_
  rintro ev v2 ⟨y, rfl, hy, b9⟩
  obtain ⟨N, hN⟩ : ∃ N, v2.heap.size = N := ⟨_, rfl⟩
  have HSZN := Lib.hid (show w.heap.size ≤ N from hN ▸ Nat.le_trans HB.out.size b9.size)
  have hyd : LaidN D y N v2 := ⟨Nat.le_of_eq hN.symm, _, _, hN, hy, fun _ _ _ _ _ => rfl⟩
  replace H2 := Lib.hid (H2.out.below b9 H2.out.lt)
  replace H3 := Lib.hid (H3.out.below b9 H3.out.lt)
  replace HB := Lib.hid (HB.out.trans (b9.mono HB.out.size))
  replace H5 := Lib.hid (H5.out.below b9 H5.out.lt)
  replace HDK := Lib.hid (HDK.out.step b9)
  have HT := Lib.hid hyd
  refine hK _ _ ⟨H2.out, H3.out⟩ ?_
  clear hK K b9 HC hy hyd hN
  try simp only [Act.put, List.setIfInBounds_toArray, List.set_cons_zero, List.set_cons_succ]
  refine wpI_turn [2, 5, 7] rfl ?_
  refine wpI_lone rfl (by kernel_rfl) (fun K hK => ?_)
  go_simp
  have HC := Lib.hid (spNew_any v2)
  refine HC.out.mono ?_
  rintro ev v3 ⟨vt, rfl, ho, b9⟩
  obtain ⟨bt, tc, rfl, _⟩ := row_bytes ho (by decide)
  have hro : RowN N (.slice (some ⟨bt, 0, none⟩) 256 tc) (newTo 12) v3 := own_mono ho HT.out.1
  replace H2 := Lib.hid (H2.out.below b9 H2.out.lt)
  replace H3 := Lib.hid (H3.out.below b9 H3.out.lt)
  replace HB := Lib.hid (HB.out.trans (b9.mono HB.out.size))
  replace H5 := Lib.hid (H5.out.below b9 H5.out.lt)
  replace HDK := Lib.hid (HDK.out.step b9)
  replace HT := Lib.hid (HT.out.step b9)
  have HO := Lib.hid hro
  refine hK _ _ ⟨H2.out, H3.out⟩ ?_
  clear hK K b9 HC ho hro
  try simp only [Act.put, List.setIfInBounds_toArray, List.set_cons_zero, List.set_cons_succ]
  refine wpI_turn [5, 7] rfl ?_
  refine wpI_read (v := stV { d := y, a := some ⟨bt, 0, none⟩, c := tc } (D, newTo 12, l.2.1, 0)) ⟨H2.out, H3.out⟩ rfl (by kernel_rfl) (by kernel_rfl) (by kernel_rfl) (fun _ _ _ h => h) (.inl ⟨by rfl, ?_⟩) ?_
  · intro X hX
    clear hX
    unfold dval
    go_simp
    rfl
  try simp only [Act.put, List.setIfInBounds_toArray, List.set_cons_zero, List.set_cons_succ]
  rotate_left
  all_goals (
    refine wpI_lone rfl (by kernel_rfl) (fun K hK => ?_)
    rw [if_pos (by simp [Region.wanted])]
    refine wp_store_row 29 (.tmp 5) (.tmp 25) rfl g5 (stC { d := y, a := some ⟨bt, 0, none⟩, c := tc } (D, newTo 12, l.2.1, 0)) rfl rfl 29 #[.slice none 0 0, .slice none 0 0, .slice none 0 0, .int .u32 0, .int .u32 0] H5.out infoSt5 rfl (by simp [stC, Value.oneCell']) ?_
    have hgz := setRow_only (g := g5) v3 (stC { d := y, a := some ⟨bt, 0, none⟩, c := tc } (D, newTo 12, l.2.1, 0))
    have hrr := Blk.setRow (cs := stC { d := y, a := some ⟨bt, 0, none⟩, c := tc } (D, newTo 12, l.2.1, 0)) H5.out
    obtain ⟨wz, hwz⟩ : ∃ X, v3.setRow g5 (stC { d := y, a := some ⟨bt, 0, none⟩, c := tc } (D, newTo 12, l.2.1, 0)) = X := ⟨_, rfl⟩
    rw [hwz] at hgz hrr ⊢
    have HTZ := Lib.hid (HT.out.box hgz H5.out (by unfold isDk; decide))
    have HOZ := Lib.hid (show RowN N (.slice (some ⟨bt, 0, none⟩) 256 tc) (newTo 12) wz from own_other HO.out hgz (own_ty HO.out H5.out (by decide)))
    have HBZ := Lib.hid (below_only HB.out HL5.out hgz HB.out.size)
    have H2Z := Lib.hid (H2.out.grown hgz (fun e => blk_ne H2.out H5.out (by decide) (Option.some.inj e)))
    have H3Z := Lib.hid (H3.out.grown hgz (fun e => blk_ne H3.out H5.out (by decide) (Option.some.inj e)))
    have H5Z := Lib.hid hrr
    refine hK _ _ ⟨H2Z.out, H3Z.out⟩ ?_
    clear hK K hgz hrr hwz HT HO HB H2 H3 H5 HDK
    try simp only [Act.put]
    refine wpI_done (by kernel_rfl) ?_
    go_wp2_with fail
    obtain ⟨ve, hve⟩ : ∃ X, wz.drew = X := ⟨_, rfl⟩
    have bq : Below wz.heap.size wz ve := by rw [← hve]; exact (Below.refl _ wz).drew
    replace HTZ := Lib.hid (HTZ.out.step bq)
    replace HOZ := Lib.hid (HOZ.out.step bq)
    replace HBZ := Lib.hid (HBZ.out.trans (bq.mono HBZ.out.size))
    replace H3Z := Lib.hid (H3Z.out.below bq H3Z.out.lt)
    replace H5Z := Lib.hid (H5Z.out.below bq H5Z.out.lt)
    have hS : Blk ve g3 67 (lbA l) ∧ Blk ve g5 29 (stC { d := y, a := some ⟨bt, 0, none⟩, c := tc } (D, newTo 12, l.2.1, 0)) := ⟨H3Z.out, H5Z.out⟩
    clear bq H2Z
    refine wpI_start (fun X => Blk X g3 67 (lbA l) ∧ Blk X g5 29 (stC { d := y, a := some ⟨bt, 0, none⟩, c := tc } (D, newTo 12, l.2.1, 0))) [0, 1, 2, 3, 4, 5, 6, 7, 8, 9] hmx rfl hve ?_
    clear hve
    iterate 5 (
      refine wpI_read (v := ?_) hS rfl (by kernel_rfl) (by kernel_rfl) (by kernel_rfl) (fun _ _ _ h => h) (.inl ⟨by rfl, ?_⟩) ?_
      rotate_left
      · intro X hX
        have j0 : X.cell? ⟨g3, 0, none⟩ = some (.int .u32 (l.1 : Int)) := hX.1.cell 0
        have j2 : X.cell? ⟨g3, 2, none⟩ = some (.int .i64 l.2.2.1) := hX.1.cell 2
        have j3 : X.cell? ⟨g3, 3, none⟩ = some (.int .u32 (l.2.2.2.1 : Int)) := hX.1.cell 3
        have j4 : X.cell? ⟨g3, 4, none⟩ = some (.int .u32 (l.2.2.2.2.1 : Int)) := hX.1.cell 4
        have j5 : X.cell? ⟨g3, 5, none⟩ = some (.int .u32 (l.2.2.2.2.2.1 : Int)) := hX.1.cell 5
        have j6 : X.cell? ⟨g3, 6, none⟩ = some (.int .u32 (l.2.2.2.2.2.2 : Int)) := hX.1.cell 6
        have s0 : X.cell? ⟨g5, 0, none⟩ = some (.slice y.ba D.1.length y.bc) := hX.2.cell 0
        have s1 : X.cell? ⟨g5, 1, none⟩ = some (.slice y.wa D.2.length y.wc) := hX.2.cell 1
        have s2 : X.cell? ⟨g5, 2, none⟩ = some (.slice (some ⟨bt, 0, none⟩) 256 tc) := hX.2.cell 2
        have s3 : X.cell? ⟨g5, 3, none⟩ = some (.int .u32 (l.2.1 : Int)) := hX.2.cell 3
        have s4 : X.cell? ⟨g5, 4, none⟩ = some (.int .u32 0) := hX.2.cell 4
        clear hX
        go_simp
        with_reducible rfl
      try simp only [Act.put, List.setIfInBounds_toArray, List.set_cons_zero, List.set_cons_succ])
    clear hS
    refine wpI_lone rfl (by kernel_rfl) (fun K hK => ?_)
    have hm8 := make8 ve
    go_simp
    obtain ⟨vf, gE, hn, hg_, bq, xq⟩ := new_blk ve #[.slice none 0 0, .slice none 0 0, .slice none 0 0, .slice none 0 0, .slice none 0 0, .slice none 0 0, .slice none 0 0, .slice none 0 0] 26
    have HLE := Lib.hid (show N ≤ gE from hg_ ▸ HTZ.out.1)
    try rw [hn]
    try rw [hg_]
    replace HTZ := Lib.hid (HTZ.out.step bq)
    replace HOZ := Lib.hid (HOZ.out.step bq)
    replace HBZ := Lib.hid (HBZ.out.trans (bq.mono HBZ.out.size))
    replace H3Z := Lib.hid (H3Z.out.below bq H3Z.out.lt)
    replace H5Z := Lib.hid (H5Z.out.below bq H5Z.out.lt)
    have HE := Lib.hid xq
    have hS : Blk vf g3 67 (lbA l) ∧ Blk vf g5 29 (stC { d := y, a := some ⟨bt, 0, none⟩, c := tc } (D, newTo 12, l.2.1, 0)) := ⟨H3Z.out, H5Z.out⟩
    refine hK _ _ hS ?_
    clear hK K hn hg_ bq xq hm8
    try simp only [Act.put, List.setIfInBounds_toArray, List.set_cons_zero, List.set_cons_succ]
    refine wpI_read (v := poV { x := { d := y, a := some ⟨bt, 0, none⟩, c := tc }, ma := none, mc := 0, la := none, lc := 0, ka := none, kc := 0, da := some ⟨gE, 0, none⟩, dc := 8, ca := none, cc := 0 } ⟨(D, newTo 12, l.2.1, 0), l.1, l.2.2, [], [], List.replicate 8 [], 0, 0, 0⟩) hS rfl (by kernel_rfl) (by kernel_rfl) (by kernel_rfl) (fun _ _ _ h => h) (.inl ⟨by rfl, ?_⟩) ?_
    · intro X hX
      clear hX
      go_simp
      repeat' (first | rfl | refine ⟨rfl, ?_⟩)
    try simp only [Act.put, List.setIfInBounds_toArray, List.set_cons_zero, List.set_cons_succ]
    refine wpI_read (v := .agg (Wk.cs { x := { d := y, a := some ⟨bt, 0, none⟩, c := tc }, S := (D, newTo 12, l.2.1, 0), gen := l.1, root := l.2.2, own := .slice none 0 0, lines := .slice none 0 0, keys := .slice none 0 0, loaded := .slice (some ⟨gE, 0, none⟩) 8 8, changes := .slice none 0 0, logged := 0, nextId := 0, nextGuid := 0, birth := 0, h0 := .slice none 0 0, h1 := .slice none 0 0, h2 := .slice none 0 0, h3 := .slice none 0 0, e := 0 })) hS rfl (by kernel_rfl) (by kernel_rfl) (by kernel_rfl) (fun _ _ _ h => h) (.inl ⟨by rfl, ?_⟩) ?_
    · intro X hX
      clear hX
      go_simp
      repeat' (first | rfl | refine ⟨rfl, ?_⟩)
    try simp only [Act.put, List.setIfInBounds_toArray, List.set_cons_zero, List.set_cons_succ]
    refine wpI_lone rfl (by kernel_rfl) (fun K hK => ?_)
    go_simp
    obtain ⟨vg, g, hn, hg_, bq, xq⟩ := new_blk vf (Wk.cs { x := { d := y, a := some ⟨bt, 0, none⟩, c := tc }, S := (D, newTo 12, l.2.1, 0), gen := l.1, root := l.2.2, own := .slice none 0 0, lines := .slice none 0 0, keys := .slice none 0 0, loaded := .slice (some ⟨gE, 0, none⟩) 8 8, changes := .slice none 0 0, logged := 0, nextId := 0, nextGuid := 0, birth := 0, h0 := .slice none 0 0, h1 := .slice none 0 0, h2 := .slice none 0 0, h3 := .slice none 0 0, e := 0 }) 62
    rw [hn, hg_]
    have HLG := Lib.hid (show N ≤ g from hg_ ▸ HTZ.out.1)
    replace HTZ := Lib.hid (HTZ.out.step bq)
    replace HOZ := Lib.hid (HOZ.out.step bq)
    replace HBZ := Lib.hid (HBZ.out.trans (bq.mono HBZ.out.size))
    replace HE := Lib.hid (HE.out.below bq HE.out.lt)
    have hS : Blk vg g3 67 (lbA l) ∧ Blk vg g5 29 (stC { d := y, a := some ⟨bt, 0, none⟩, c := tc } (D, newTo 12, l.2.1, 0)) := ⟨H3Z.out.below bq H3Z.out.lt, H5Z.out.below bq H5Z.out.lt⟩
    have hwk : Box vg g { x := { d := y, a := some ⟨bt, 0, none⟩, c := tc }, S := (D, newTo 12, l.2.1, 0), gen := l.1, root := l.2.2, own := .slice none 0 0, lines := .slice none 0 0, keys := .slice none 0 0, loaded := .slice (some ⟨gE, 0, none⟩) 8 8, changes := .slice none 0 0, logged := 0, nextId := 0, nextGuid := 0, birth := 0, h0 := .slice none 0 0, h1 := .slice none 0 0, h2 := .slice none 0 0, h3 := .slice none 0 0, e := 0 } := xq
    have HL := Lib.hid (show Ld N N bt g { x := { d := y, a := some ⟨bt, 0, none⟩, c := tc }, S := (D, newTo 12, l.2.1, 0), gen := l.1, root := l.2.2, own := .slice none 0 0, lines := .slice none 0 0, keys := .slice none 0 0, loaded := .slice (some ⟨gE, 0, none⟩) 8 8, changes := .slice none 0 0, logged := 0, nextId := 0, nextGuid := 0, birth := 0, h0 := .slice none 0 0, h1 := .slice none 0 0, h2 := .slice none 0 0, h3 := .slice none 0 0, e := 0 } 0 [] vg from ⟨hwk, rfl, HTZ.out.dsk, rfl, by simp [newTo], HOZ.out, World.ownsRow_nil _ _ _ _, Nat.le_refl _, HTZ.out.1, HLG.out⟩)
    refine hK _ _ hS ?_
    clear hK K hn hg_ bq xq hwk HOZ H3Z H5Z
    try simp only [Act.put, List.setIfInBounds_toArray, List.set_cons_zero, List.set_cons_succ]
    iterate 1 (
      refine wpI_read (v := ?_) hS rfl (by kernel_rfl) (by kernel_rfl) (by kernel_rfl) (fun _ _ _ h => h) (.inl ⟨by rfl, ?_⟩) ?_
      rotate_left
      · intro X hX
        clear hX
        go_simp
        with_reducible rfl
      try simp only [Act.put, List.setIfInBounds_toArray, List.set_cons_zero, List.set_cons_succ])
    clear hS
    refine wpI_done (by kernel_rfl) ?_
    have HRM := Lib.hid (txReadMeta_ok N N bt g { x := { d := y, a := some ⟨bt, 0, none⟩, c := tc }, S := (D, newTo 12, l.2.1, 0), gen := l.1, root := l.2.2, own := .slice none 0 0, lines := .slice none 0 0, keys := .slice none 0 0, loaded := .slice (some ⟨gE, 0, none⟩) 8 8, changes := .slice none 0 0, logged := 0, nextId := 0, nextGuid := 0, birth := 0, h0 := .slice none 0 0, h1 := .slice none 0 0, h2 := .slice none 0 0, h3 := .slice none 0 0, e := 0 } id guid a0 a1 a2 q1 q2 keys vg HL.out (HZ.out.below HBZ.out HZ.out.1) (by have := HZ.out.1; have := HSZN.out; omega) HHY.out.mt HHY.out.wr HHY.out.w1 HHY.out.w2 HHY.out.r0 HHY.out.r1 HHY.out.r2 HHY.out.l0 HHY.out.l1 HHY.out.l2 HHY.out.h0 HHY.out.h1 HHY.out.h2 HHY.out.ky HHY.out.kl)
    go_wp2_with fail
    refine HRM.out.mono ?_
    rintro e vh ⟨rfl, vo, vk, hl, hbr, hbk⟩
    obtain ⟨gi, mc, rfl, hgi, cu, hbi⟩ := int_row hl.row (by decide)
    obtain ⟨ka, kc, rfl, _⟩ := hbr.bls
    have hbr2 := brow_lo hbr HTZ.out.1
    have HT2 := Lib.hid (HTZ.out.belN hbk.1)
    have HE2 := Lib.hid (hbk.2.2 gE _ _ HE.out (by decide) (by decide) (by decide))
    have HB2 := Lib.hid (HBZ.out.trans (hbk.1.mono HSZN.out))
    have HL2 := Lib.hid hl
    have HBR2 := Lib.hid hbr2
    have HGI := Lib.hid hgi
    have HBI := Lib.hid hbi
    clear hl hbr hbr2 hbk hgi hbi HRM HL HTZ HE HBZ
    go_wp2_with fail
    go_loopw [39] (fun i wr => i = .int .i64 0 ∧ vh = wr) (fun _ _ => 0)
    case atStart => exact ⟨rfl, rfl⟩
    case round =>
      obtain ⟨rfl, rfl⟩ := hrel
      have c24 : vh.cell? ⟨g, 24, none⟩ = some (.int .i64 0) := HL2.out.box.c24
      have c11 : vh.cell? ⟨g, 11, none⟩ = some (.slice (some ⟨gi, 0, none⟩) 3 mc) := HL2.out.box.c11
      have HSO := Lib.hid (txSort_any N 3 [a0, a1, a2] [b0, b1, b2] _ vh HL2.out.row (by decide) (by decide) HTS.out.1 HTS.out.2)
      go_wp2_with fail
      refine HSO.out.mono ?_
      rintro e vi ⟨rfl, hrow, hgr⟩
      have hgr : vh.grownBy vi (some gi) := hgr
      have hbN : Below N vh vi := below_only (Below.refl N vh) HGI.out hgr HL2.out.bigN
      obtain ⟨k1, hbx, hke, hcq⟩ : ∃ k, Box vi g k ∧ k.e = 0 ∧ (k.cs.toList.take 19).toArray = poC { x := { d := y, a := some ⟨bt, 0, none⟩, c := tc }, ma := some ⟨gi, 0, none⟩, mc := mc, la := none, lc := 0, ka := ka, kc := kc, da := some ⟨gE, 0, none⟩, dc := 8, ca := none, cc := 0 } ⟨(D, usedN (usedN (usedN (newTo 12) [a0] 1) [a1] 1) [a2] 1, l.2.1, 0), l.1, l.2.2, [b0, b1, b2], keys, List.replicate 8 [], 0, (id : Int), guid⟩ := ⟨_, Blk.grown HL2.out.box hgr (fun e => blk_ne HL2.out.box HBI.out (by decide) (Option.some.inj e)), rfl, rfl⟩
      have HBX := Lib.hid hbx
      have HCQ := Lib.hid hcq
      have HKE := Lib.hid hke
      clear hbx hcq hke
      have HT3 := Lib.hid (HT2.out.belN hbN)
      have htb := own_other HL2.out.tab hgr (own_ty HL2.out.tab HBI.out (by decide))
      have HPN := Lib.hid (show PoNew N vi { x := { d := y, a := some ⟨bt, 0, none⟩, c := tc }, ma := some ⟨gi, 0, none⟩, mc := mc, la := none, lc := 0, ka := ka, kc := kc, da := some ⟨gE, 0, none⟩, dc := 8, ca := none, cc := 0 } ⟨(D, usedN (usedN (usedN (newTo 12) [a0] 1) [a1] 1) [a2] 1, l.2.1, 0), l.1, l.2.2, [b0, b1, b2], keys, List.replicate 8 [], 0, (id : Int), guid⟩ from
        ⟨HT3.out.lasts.and (by rw [show (usedN (usedN (usedN (newTo 12) [a0] 1) [a1] 1) [a2] 1).length = 256 from HL2.out.len]; exact own_lasts htb), hrow, HBR2.out.row hgr (Nat.zero_le _) HBI.out (by decide) (by decide), nil8_brow (HE2.out.grown hgr (fun e => blk_ne HE2.out HBI.out (by decide) (Option.some.inj e))) HLE.out, rfl, rfl, rfl, rfl⟩)
      have HB3 := Lib.hid (HB2.out.trans (hbN.mono HSZN.out))
      have HCC := Lib.hid (txCheck_yes N _ _ vi HPN.out.ok (Nat.le_trans HL2.out.bigN hgr.size) HMY.out)
      clear hrow hgr hbN htb c24 c11 HSO
      go_wp2_with (with_reducible refine tx_at_load ?_
                   refine wpList_load_wk rfl (.tmp 61) rfl g k1 _ _ rfl HBX.out HCQ.out ?_)
      refine HCC.out.mono ?_
      rintro e vj ⟨rfl, bq⟩
      have HBY := Lib.hid (HBX.out.bel bq)
      have HPM := Lib.hid ((HPN.out.bel bq).lower HSZN.out)
      have HB4 := Lib.hid (HB3.out.trans (bq.mono HB3.out.size))
      have HRF := Lib.hid (txRefuse_0 g k1 vj HBY.out HKE.out)
      clear bq HCC
      go_wp2_with fail
      refine HRF.out.mono ?_
      rintro e vk2 ⟨rfl, rfl⟩
      clear HRF
      go_wp2_with fail
      go_ret
      exact ⟨g, k1, _, rfl, HBY.out, HKE.out, HCQ.out, HPM.out, Nat.le_trans HSZN.out HLG.out, by first | exact HB4.out | (rw [← hg2]; exact HB4.out)⟩)
end Go.Proofs.YtafbidhbmfdlkaaGreatDoor
/-
  txg's work, read back: look, where the block is not the one asked for.
-/
namespace Go.Proofs.YtafbidhbmfdlkaaGreatDoor
open Go Go.RowKit Go.Shelf
set_option maxRecDepth 100000

theorem Ld.fail {N B bt g n c z : Nat} {k : Wk} {own : List Nat} {w w' : World} (h : Ld N B bt g k n own w c) (hg : w.grownBy w' (some g)) (hb : Box w' g { k with e := z }) : Ld N B bt g { k with e := z } n own w' z := by
  have hN : N ≤ w.heap.size := Nat.le_trans h.big.1 h.big.2.1
  have hbel : Below N w w' := below_only (Below.refl N w) h.big.2.2 hg hN
  exact ⟨hb, rfl, ⟨h.dsk.1.below hbel, h.dsk.2.below hbel⟩, h.at_, h.len, own_other h.tab hg (own_ty h.tab h.box (by decide)), own_other h.row hg (own_ty h.row h.box (by decide)), h.big.1, Nat.le_trans h.big.2.1 hg.size, h.big.2.2⟩
end Go.Proofs.YtafbidhbmfdlkaaGreatDoor
/-
  txg's own Load, where the root's block tells of no lines.
-/
namespace Go.Proofs.YtafbidhbmfdlkaaGreatDoor
open Go Go.RowKit Go.Shelf
set_option maxRecDepth 100000

/-- The pool that is read back. -/
@[reducible] def loadN (D : DkL) (l : Lb) (id guid a0 a1 a2 b0 b1 b2 : Nat) (keys : List (List UInt8)) : PoN := ⟨(D, usedN (usedN (usedN (newTo 12) [a0] 1) [a1] 1) [a2] 1, l.2.1, 0), l.1, l.2.2, [b0, b1, b2], keys, List.replicate 8 [], 0, (id : Int), guid⟩
theorem three_al3 (w : World) (a b c : Array Value) (s t u : TypeId) : ∃ w0, ((w.alloc (.cells a s)).alloc (.cells b t)).alloc (.cells c u) = w0 ∧ Below w.heap.size w w0 ∧ Blk w0 w.heap.size s a ∧ Blk w0 (w.heap.size + 1) t b ∧ Blk w0 (w.heap.size + 1 + 1) u c := by
  obtain ⟨w1, h1, b1, z1, x1, y1⟩ := two_al w a b s t
  obtain ⟨w2, g, h2, hg, b2, x2⟩ := new_blk w1 c u
  refine ⟨w2, by rw [h1, h2], b1.trans (b2.mono b1.size), x1.below b2 x1.lt, y1.below b2 y1.lt, ?_⟩
  rw [show w.heap.size + 1 + 1 = g by omega]
  exact x2
set_option maxHeartbeats 4000000 in
theorem txLoad_ok (x : DAt) (D : DkL) (l : Lb) (w : World) (h : Dsk w w.heap.size x D) (hf : Fits D) (hmd : MayD D) (hml : MayL l) (hz : Szs w) (id guid a0 a1 a2 : Nat) (q1 q2 : Pt) (keys : List (List UInt8)) (hy : Reads D l id guid a0 a1 a2 q1 q2 keys) (b0 b1 b2 : Nat)
    (hts : [b0, b1, b2].Perm [a0, a1, a2] ∧ [b0, b1, b2].Pairwise (· ≤ ·)) (hmay : MayN (loadN D l id guid a0 a1 a2 b0 b1 b2 keys)) :
    Calls Tryz.prog 22 #[dval x D, lbV l] w (NewPE (loadN D l id guid a0 a1 a2 b0 b1 b2 keys) 0 w) := by
  obtain ⟨w1, hw1, bb0, qa, qb, qc⟩ := three_al3 w #[.slice x.ba D.1.length x.bc, .slice x.wa D.2.length x.wc] (lbA l) poZ 25 67 36
  obtain ⟨g2, hg2⟩ : ∃ g, w.heap.size = g := ⟨_, rfl⟩
  obtain ⟨g3, hg3⟩ : ∃ g, g2 + 1 = g := ⟨_, rfl⟩
  obtain ⟨gr, hgr⟩ : ∃ g, g3 + 1 = g := ⟨_, rfl⟩
  rw [hg2] at qa qb qc
  rw [hg3] at qb qc
  rw [hgr] at qc
  simp only [lbA, poZ] at hw1
  have c0 : w1.cell? ⟨g2, 0, none⟩ = some (.slice x.ba D.1.length x.bc) := qa.cell 0
  have c1 : w1.cell? ⟨g2, 1, none⟩ = some (.slice x.wa D.2.length x.wc) := qa.cell 1
  have m0 : w1.cell? ⟨g3, 0, none⟩ = some (.int .u32 (l.1 : Int)) := qb.cell 0
  have m1 : w1.cell? ⟨g3, 1, none⟩ = some (.int .u32 (l.2.1 : Int)) := qb.cell 1
  have m2 : w1.cell? ⟨g3, 2, none⟩ = some (.int .i64 l.2.2.1) := qb.cell 2
  have m3 : w1.cell? ⟨g3, 3, none⟩ = some (.int .u32 (l.2.2.2.1 : Int)) := qb.cell 3
  have m4 : w1.cell? ⟨g3, 4, none⟩ = some (.int .u32 (l.2.2.2.2.1 : Int)) := qb.cell 4
  have m5 : w1.cell? ⟨g3, 5, none⟩ = some (.int .u32 (l.2.2.2.2.2.1 : Int)) := qb.cell 5
  have m6 : w1.cell? ⟨g3, 6, none⟩ = some (.int .u32 (l.2.2.2.2.2.2 : Int)) := qb.cell 6
  have HR := Lib.hid qc
  have HB := Lib.hid bb0
  have HGR := Lib.hid (show w.heap.size ≤ gr by omega)
  have HLD := Lib.hid (txLoaded_ok x D l w1 (h.step bb0) hf hmd hml (hz.step bb0) id guid a0 a1 a2 q1 q2 keys hy b0 b1 b2 hts hmay)
  obtain ⟨Q, hQ⟩ : ∃ Q, loadN D l id guid a0 a1 a2 b0 b1 b2 keys = Q := ⟨_, rfl⟩
  have HLD := Lib.hid (show Calls _ _ _ _ (OutLod (loadN D l id guid a0 a1 a2 b0 b1 b2 keys) w1) from HLD.out)
  rw [hQ] at HLD ⊢
  clear h hf hmd hml hz hy hts hmay bb0 qa qb qc hQ
  unfold dval
  go_enter Tryz.func22, Tryz.ntmps22
  go_wp2_with fail
  try rw [hw1]
  try rw [hg2]
  try rw [hg3]
  try rw [hgr]
  refine HLD.out.mono ?_
  rintro e w2 ⟨g, k, y, rfl, hk, hke, hkc, hpn, hge, b1⟩
  replace HR := Lib.hid (HR.out.below b1 HR.out.lt)
  have c24 : w2.cell? ⟨g, 24, none⟩ = some (.int .i64 0) := by
    rw [hk.c24, hke]
    rfl
  have HK := Lib.hid hk
  have HKC := Lib.hid hkc
  have HPN := Lib.hid (hpn.lower HB.out.size)
  replace HB := Lib.hid (HB.out.trans (b1.mono HB.out.size))
  clear hk hkc hke hpn hge b1 HLD hw1 hg3 hgr c0 c1 m0 m1 m2 m3 m4 m5 m6
  go_wp2_with (first
    | (with_reducible refine tx_at_load ?_
       refine wpList_load_wk rfl (.tmp 22) rfl g k y Q rfl HK.out HKC.out ?_)
    | (with_reducible refine tx_at_store ?_
       refine wpList_store_pool rfl (.tmp 4) (.tmp 23) rfl gr y Q rfl rfl poZ HR.out rfl ?_
       intro wz hrr_ hgz_
       have HRR := Lib.hid hrr_
       have HGZ := Lib.hid hgz_
       clear hrr_ hgz_))
  have hkp : Keeps 0 w2 wz := Keeps.of_box HGZ.out HR.out (by decide) (Nat.zero_le _)
  refine bodyPost_ret (v := .tuple #[poV y Q, .int .i64 0]) (by simp [results, Tryz.f22, asAddr, loadPool_run wz gr y Q HRR.out]) rfl ?_
  exact ⟨y, rfl, ⟨Lasts.step HPN.out.st hkp, own_other HPN.out.own HGZ.out (own_ty HPN.out.own HR.out (by decide)), brow_keeps HPN.out.keys hkp.to3, brow_keeps HPN.out.loaded hkp.to3, HPN.out.nil⟩, below_only HB.out HGR.out HGZ.out HB.out.size⟩
end Go.Proofs.YtafbidhbmfdlkaaGreatDoor
/-
  What the first two syncs of a new pool lay, reckoned by the kernel: their blocks' numbers and sums.
-/
namespace Go.Proofs.YtafbidhbmfdlkaaGreatDoor
open Go Go.RowKit Go.Shelf
set_option maxRecDepth 100000

/-- The roots' blocks of the first sync and of the second one. -/
def tz1 : TrL := ⟨1, 1, 0, [(12, 1, 0, 0, 1679629062)], (13, 1, 0, 0, 1679629062)⟩
def tz2 : TrL := ⟨1, 1, 0, [(15, 2, 0, 0, 1679629062)], (16, 2, 0, 0, 1679629062)⟩
theorem linesB_nought : linesB [] = List.replicate 256 0 := by decide +kernel
theorem keysB_nought : keysB (List.replicate 8 []) = List.replicate 256 0 := by decide +kernel
theorem sum_nought : sumOf (List.replicate 256 (0 : UInt8)) = 1679629062 := by decide +kernel
theorem sum_tz1 : sumOf (trunkB tz1) = 3980906072 := by decide +kernel
theorem sum_tz2 : sumOf (trunkB tz2) = 700181853 := by decide +kernel
theorem head_cons {l : List Nat} {k : Nat} (h : l.head? = some k) : ∃ r, l = k :: r := by
  cases l with
  | nil => cases h
  | cons a r => exact ⟨r, by cases h; rfl⟩
/-- The tables ahead of each block that is laid. -/
theorem free_12 : ∃ r, freeTo (newTo 12) 256 = 12 :: r := head_cons (by decide +kernel)
theorem free_13 : ∃ r, freeTo ((newTo 12).set 12 1) 256 = 13 :: r := head_cons (by decide +kernel)
theorem free_14 : ∃ r, freeTo (((newTo 12).set 12 1).set 13 1) 256 = 14 :: r := head_cons (by decide +kernel)
/-- The table behind the first sync. -/
def tab1 : List UInt8 := (((newTo 12).set 12 1).set 13 1).set 14 1
theorem settle_tab1 : settleL tab1 = tab1 := by decide +kernel
/-- The table in the second sync, its first three blocks given up. -/
def tab2 : List UInt8 := giveN tab1 [12, 13, 14] 3
theorem free_15 : ∃ r, freeTo tab2 256 = 15 :: r := head_cons (by decide +kernel)
theorem free_16 : ∃ r, freeTo (tab2.set 15 1) 256 = 16 :: r := head_cons (by decide +kernel)
theorem free_17 : ∃ r, freeTo ((tab2.set 15 1).set 16 1) 256 = 17 :: r := head_cons (by decide +kernel)
end Go.Proofs.YtafbidhbmfdlkaaGreatDoor
/-
  The first sync of a new pool, as plain lists.
-/
namespace Go.Proofs.YtafbidhbmfdlkaaGreatDoor
open Go Go.RowKit Go.Shelf
set_option maxRecDepth 100000

theorem waits_with (D : DkL) (p : Int) (s : List UInt8) : (withD D p s).2.length = D.2.length + 1 := by simp [withD]
/-- A sync's three blocks behind a store. -/
def run1 (S : StL) (k : Nat) : StL := putAt S k (List.replicate 256 0)
def run2 (S : StL) (k : Nat) : StL := putAt (run1 S k) (k + 1) (List.replicate 256 0)
def run3 (S : StL) (k : Nat) (t : TrL) : StL := putAt (run2 S k) (k + 2) (trunkB t)
theorem run_may {S : StL} {k : Nat} {t : TrL} (h : MayS S) (hk : 12 ≤ k ∧ k + 2 < 256) (ht : MayTr t) (hw : S.1.2.length < 4000) : MayS (run1 S k) ∧ MayS (run2 S k) ∧ MayS (run3 S k t) ∧ (run3 S k t).1.2.length = S.1.2.length + 3 := by
  have h1 : MayS (run1 S k) := putAt_may h (by omega) (by simp) (by omega)
  have l1 : (run1 S k).1.2.length = S.1.2.length + 1 := waits_with _ _ _
  have h2 : MayS (run2 S k) := putAt_may h1 (by omega) (by simp) (by omega)
  have l2 : (run2 S k).1.2.length = S.1.2.length + 2 := (waits_with _ _ _).trans (by rw [l1])
  have h3 : MayS (run3 S k t) := putAt_may h2 (by omega) (trunkB_length ht) (by omega)
  exact ⟨h1, h2, h3, (waits_with _ _ _).trans (by rw [l2])⟩
theorem ptRun_may {k b s : Nat} (hk : 12 ≤ k ∧ k < 256) (hb : 1 ≤ b ∧ b ≤ 16777215) (hs : s < 4294967296) : MayP ((k : Int), b, 0, 0, s) ∧ WfP ((k : Int), b, 0, 0, s) ∧ ((k : Int), b, 0, 0, s) ≠ p0 := by
  refine ⟨?_, ?_, fun e => ?_⟩
  · unfold MayP
    refine .inr ?_
    simp only
    omega
  · unfold WfP
    simp only
    omega
  · have := congrArg Prod.fst e
    simp only at this
    omega
theorem tz1_may : MayTr tz1 := by
  have h := ptRun_may (k := 12) (b := 1) (s := 1679629062) (by decide) (by decide) (by decide)
  have h' := ptRun_may (k := 13) (b := 1) (s := 1679629062) (by decide) (by decide) (by decide)
  exact ⟨by decide, by decide, by decide, by decide, fun q hq => by rw [List.mem_singleton.1 hq]; exact h, h'⟩
theorem tz2_may : MayTr tz2 := by
  have h := ptRun_may (k := 15) (b := 2) (s := 1679629062) (by decide) (by decide) (by decide)
  have h' := ptRun_may (k := 16) (b := 2) (s := 1679629062) (by decide) (by decide) (by decide)
  exact ⟨by decide, by decide, by decide, by decide, fun q hq => by rw [List.mem_singleton.1 hq]; exact h, h'⟩
theorem rawO_run {S : StL} {birth k : Nat} {b : List UInt8} (hm : MayS S) (hb : 1 ≤ birth ∧ birth ≤ 16777215) (hl : b.length = 256) (hf : ∃ r, freeTo S.2.1 256 = k :: r) (hw : S.1.2.length < 4096) : rawO S birth 0 0 b = (putAt S k b, ((k : Int), birth, 0, 0, sumOf b), 0) := by
  obtain ⟨r, hr⟩ := hf
  unfold rawO
  rw [if_pos hm, if_pos hb, if_pos hl]
  unfold putS
  rw [hr]
  simp only []
  rw [if_neg (by omega)]
  rfl
/-- What a sync writes behind a store: its label, between two flushes. -/
def dk1 (S : StL) (k : Nat) (t : TrL) : DkL := keptD (run3 S k t).1 (fun _ => true)
def lb1 (S : StL) (birth k s : Nat) : Lb := (birth, S.2.2.1, ((k + 2 : Nat) : Int), birth, 0, 0, s)
def dk2 (S : StL) (birth k s : Nat) (t : TrL) : DkL := withD (dk1 S k t) ((birth % 4 : Nat) : Int) (blockL (lb1 S birth k s))
def dk3 (S : StL) (birth k s : Nat) (t : TrL) : DkL := keptD (dk2 S birth k s t) (fun _ => true)
/-- The steps of a sync of a pool without lines whose keys are empty. -/
def stepsN (p : PoN) (S : StL) (k s : Nat) (t : TrL) : Steps p :=
  { S1 := run1 S k, S2 := run2 S k, S3 := run3 S k t, q1 := ((k : Int), p.gen + 1, 0, 0, 1679629062), q2 := (((k + 1 : Nat) : Int), p.gen + 1, 0, 0, 1679629062), q3 := (((k + 2 : Nat) : Int), p.gen + 1, 0, 0, s), E1 := dk1 S k t, E2 := dk2 S (p.gen + 1) k s t, E3 := dk3 S (p.gen + 1) k s t, id := t.nextId }
theorem goesN (p : PoN) (k s : Nat) (t : TrL) (S : StL) (hS : S = (p.S.1, giveN p.S.2.1 p.own p.own.length, p.S.2.2)) (hm : MayS S) (hg : p.gen < 16777215) (hk : 12 ≤ k ∧ k + 2 < 256) (hw : S.1.2.length < 4000) (hkeys : p.keys = List.replicate 8 []) (hid_ : p.nextId = (t.nextId : Int))
    (ht : t = ⟨t.nextId, p.nextGuid, 0, [((k : Int), p.gen + 1, 0, 0, 1679629062)], (((k + 1 : Nat) : Int), p.gen + 1, 0, 0, 1679629062)⟩) (hmt : MayTr t) (hs : sumOf (trunkB t) = s) (hs9 : s < 4294967296) (hep : 1 ≤ S.2.2.1 ∧ S.2.2.1 ≤ 65535)
    (f1 : ∃ r, freeTo S.2.1 256 = k :: r) (f2 : ∃ r, freeTo (S.2.1.set k 1) 256 = (k + 1) :: r) (f3 : ∃ r, freeTo ((S.2.1.set k 1).set (k + 1) 1) 256 = (k + 2) :: r) : Goes p (stepsN p S k s t) := by
  obtain ⟨m1, m2, m3, hl3⟩ := run_may (k := k) (t := t) hm hk hmt hw
  have l1 : (run1 S k).1.2.length = S.1.2.length + 1 := waits_with _ _ _
  have l2 : (run2 S k).1.2.length = S.1.2.length + 2 := (waits_with _ _ _).trans (by rw [l1])
  have hb : 1 ≤ p.gen + 1 ∧ p.gen + 1 ≤ 16777215 := by omega
  have hq3 := ptRun_may (k := k + 2) (b := p.gen + 1) (s := s) (by omega) hb hs9
  have hd1 : MayD (dk1 S k t) := keptD_may m3.1 _
  have hlb : MayL (lb1 S (p.gen + 1) k s) := ⟨hb, hep, hq3.2.2, hq3.1⟩
  refine ⟨hid_, ?_, ?_, ?_, ?_, ⟨by rw [← hS]; exact hm.ok, m1.ok, m2.ok⟩, ?_, ?_, ⟨by show p.gen + 1 < 4294967296; omega, by show S.2.2.1 < 4294967296; omega, hq3.2.1⟩, ?_, m3.2.1⟩
  · rw [← hS, linesB_nought, rawO_run hm hb (by simp) f1 (by omega), sum_nought]
    rfl
  · rw [hkeys, keysB_nought]
    show rawO (run1 S k) _ 0 0 _ = _
    rw [rawO_run m1 hb (by simp) f2 (by omega), sum_nought]
    rfl
  · show rawO (run2 S k) _ 0 0 (trunkB ⟨t.nextId, p.nextGuid, 0, [((k : Int), p.gen + 1, 0, 0, 1679629062)], (((k + 1 : Nat) : Int), p.gen + 1, 0, 0, 1679629062)⟩) = _
    rw [← ht, rawO_run m2 hb (trunkB_length hmt) f3 (by omega), hs]
    rfl
  · show MayTr ⟨t.nextId, p.nextGuid, 0, [((k : Int), p.gen + 1, 0, 0, 1679629062)], (((k + 1 : Nat) : Int), p.gen + 1, 0, 0, 1679629062)⟩
    rw [← ht]
    exact hmt
  · show flushO (run3 S k t).1 = (dk1 S k t, 0)
    unfold flushO
    rw [if_pos m3.1]
    rfl
  · show putO (dk1 S k t) (lb1 S (p.gen + 1) k s) = (dk2 S (p.gen + 1) k s t, 0)
    unfold putO
    rw [if_pos hd1, if_pos hlb]
    show writeO (dk1 S k t) (((p.gen + 1) % 4 : Nat) : Int) (blockL (lb1 S (p.gen + 1) k s)) = _
    rw [writeO, if_pos hd1, if_pos (by omega), if_pos (blockL_length _), if_neg (by simp [dk1, keptD])]
    rfl
  · show flushO (dk2 S (p.gen + 1) k s t) = (dk3 S (p.gen + 1) k s t, 0)
    unfold flushO
    rw [if_pos (show MayD (dk2 S (p.gen + 1) k s t) from with_may (p := (((p.gen + 1) % 4 : Nat) : Int)) hd1 (by omega) (blockL_length _) (by simp [dk1, keptD]))]
    rfl
end Go.Proofs.YtafbidhbmfdlkaaGreatDoor
/-
  The first two syncs of a new pool, as plain lists.
-/
namespace Go.Proofs.YtafbidhbmfdlkaaGreatDoor
open Go Go.RowKit Go.Shelf
set_option maxRecDepth 100000

theorem waits_new : newS.1.2.length < 4000 := by show (0 : Nat) < 4000; decide
@[reducible] def st1 : Steps newN := stepsN newN newS 12 3980906072 tz1
theorem goes1 : Goes newN st1 :=
  goesN newN 12 3980906072 tz1 newS rfl newS_may (by decide) (by decide) waits_new rfl rfl rfl tz1_may sum_tz1 (by decide) newS_may.2.2.1 free_12 free_13 free_14
/-- The pool behind the first sync. -/
@[reducible] def pn1 : PoN := st1.out
theorem tab_pn1 : pn1.S.2.1 = tab1 := settle_tab1
/-- The store that the second sync starts from. -/
def sg1 : StL := (pn1.S.1, giveN pn1.S.2.1 pn1.own pn1.own.length, pn1.S.2.2)
theorem sg1_tab : sg1.2.1 = tab2 := by
  show giveN pn1.S.2.1 [12, 13, 14] 3 = tab2
  rw [tab_pn1]
  rfl
theorem may_dk3 {S : StL} {birth k s : Nat} {t : TrL} (h : MayD (run3 S k t).1) : MayD (dk3 S birth k s t) ∧ (dk3 S birth k s t).2.length = 0 :=
  ⟨keptD_may (with_may (p := ((birth % 4 : Nat) : Int)) (keptD_may h _) (by omega) (blockL_length _) (by simp [keptD])) _, by simp [dk3, keptD]⟩
theorem sg1_may : MayS sg1 ∧ sg1.1.2.length < 4000 := by
  have h := run_may (k := 12) (t := tz1) newS_may (by decide) tz1_may waits_new
  have hd := may_dk3 (birth := 1) (s := 3980906072) h.2.2.1.1
  refine ⟨⟨hd.1, ?_, h.2.2.1.2.2⟩, by rw [show sg1.1.2.length = 0 from hd.2]; decide⟩
  rw [sg1_tab]
  have h1 : MayT tab1 := h.2.2.1.2.1
  exact set_may (set_may (set_may h1 (by decide) (by decide) 2 (by decide)) (by decide) (by decide) 2 (by decide)) (by decide) (by decide) 2 (by decide)
end Go.Proofs.YtafbidhbmfdlkaaGreatDoor
/-
  The pools behind the first two syncs of a new pool may be; the second one is that of its label.
-/
namespace Go.Proofs.YtafbidhbmfdlkaaGreatDoor
open Go Go.RowKit Go.Shelf
set_option maxRecDepth 100000

theorem own_tab1 : MayOwn tab1 [12, 13, 14] := ⟨fun k hk => by
  simp only [List.mem_cons, List.not_mem_nil, or_false] at hk
  rcases hk with rfl | rfl | rfl
  · exact ⟨by decide, by decide, by decide +kernel⟩
  · exact ⟨by decide, by decide, by decide +kernel⟩
  · exact ⟨by decide, by decide, by decide +kernel⟩, by decide⟩
theorem pn1_may : MayN pn1 := by
  have h := run_may (k := 12) (t := tz1) newS_may (by decide) tz1_may waits_new
  have hd := may_dk3 (birth := 1) (s := 3980906072) h.2.2.1.1
  have h1 : MayT tab1 := h.2.2.1.2.1
  refine ⟨⟨hd.1, by rw [tab_pn1]; exact h1, h.2.2.1.2.2⟩, by decide, ⟨by decide, by decide⟩, ⟨by rw [tab_pn1]; exact own_tab1, by decide⟩, ⟨rfl, by decide⟩, ⟨rfl, by decide⟩, by decide, by decide⟩
theorem pn1_fit : FitN pn1 := newN_fit.1 |> fun _ => ⟨by decide, by decide, trivial, by decide, by decide, by decide, fun s hs => by rw [(List.mem_replicate.1 hs).2]; decide, fun s hs => by rw [(List.mem_replicate.1 hs).2]; decide⟩
end Go.Proofs.YtafbidhbmfdlkaaGreatDoor
/-
  What is read back of the second sync's label.
-/
namespace Go.Proofs.YtafbidhbmfdlkaaGreatDoor
open Go Go.RowKit Go.Shelf
set_option maxRecDepth 100000

theorem left_still_ (D : DkL) (h : D.2 = []) (mk : Nat → Bool) (p : Nat) : leftD D mk p = D.1.getD p [] := by
  unfold leftD
  rw [h]
  rfl
theorem left_flushed {D : DkL} {p : Nat} (h : p < 256) : leftD (keptD D (fun _ => true)) (fun _ => true) p = leftD D (fun _ => true) p := by
  rw [left_still_ _ rfl, keptD_get _ _ _ h]
/-- The blocks of a sync's disk: those that it laid, and what was there. -/
theorem left_dk3 (S : StL) (birth k s q : Nat) (t : TrL) (hq : q < 256) (hq4 : 4 ≤ q) : leftD (dk3 S birth k s t) (fun _ => true) q = if q = k + 2 then trunkB t else if q = k + 1 then List.replicate 256 0 else if q = k then List.replicate 256 0 else leftD S.1 (fun _ => true) q := by
  unfold dk3
  rw [left_flushed hq]
  unfold dk2
  rw [left_with, if_neg (by omega)]
  unfold dk1
  rw [left_flushed hq]
  show seenS (run3 S k t) q = _
  unfold run3
  rw [seenS_put]
  congr 1
  unfold run2
  rw [seenS_put]
  congr 1
  unfold run1
  rw [seenS_put]
  rfl
theorem look_at {D : DkL} {T : List UInt8} {e : Nat} {p : Pt} {b : List UInt8} {k : Nat} (hd : MayD D) (hT : MayT T) (he : 1 ≤ e ∧ e ≤ 65535) (hp : MayP p) (h0 : p ≠ p0) (hk : p.1 = (k : Int)) (hl : leftD D (fun _ => true) k = b) (hs : sumOf b = p.2.2.2.2) : lookO (D, T, e, 0) p = (b, 0) := by
  rw [lookO_may ⟨hd, hT, he, Nat.zero_le _⟩ hp]
  unfold seenO
  rw [if_neg h0]
  have e1 : seenS (D, T, e, 0) p.1.toNat = b := by
    rw [hk]
    exact hl
  rw [e1, if_pos hs]
end Go.Proofs.YtafbidhbmfdlkaaGreatDoor
/-
  The labels on the disk behind the second sync.
-/
namespace Go.Proofs.YtafbidhbmfdlkaaGreatDoor
open Go Go.RowKit Go.Shelf
set_option maxRecDepth 100000

/-- The first four blocks of a sync's disk: its label, and what was there. -/
theorem low_dk3 (S : StL) (birth k s q : Nat) (t : TrL) (hq : q < 4) (hk : 12 ≤ k) : leftD (dk3 S birth k s t) (fun _ => true) q = if q = birth % 4 then blockL (lb1 S birth k s) else leftD S.1 (fun _ => true) q := by
  unfold dk3
  rw [left_flushed (by omega)]
  unfold dk2
  rw [left_with]
  congr 1
  unfold dk1
  rw [left_flushed (by omega)]
  show seenS (run3 S k t) q = _
  unfold run3
  rw [seenS_put, if_neg (by omega)]
  unfold run2
  rw [seenS_put, if_neg (by omega)]
  unfold run1
  rw [seenS_put, if_neg (by omega)]
  rfl
/-- The label of the first sync. -/
def lb0 : Lb := lb1 newS 1 12 3980906072
theorem lb0_may : MayL lb0 ∧ WfL lb0 := by
  have h14 := ptRun_may (k := 14) (b := 1) (s := 3980906072) (by decide) (by decide) (by decide)
  exact ⟨⟨by decide, newS_may.2.2.1, h14.2.2, h14.1⟩, goes1.wl⟩
theorem label_nought : labelO (List.replicate 256 0) = none := by decide +kernel
theorem low_new (q : Nat) (hq : q < 4) : leftD newD (fun _ => true) q = List.replicate 256 0 := by
  rw [left_still_ _ rfl]
  exact newD_get (by omega)
end Go.Proofs.YtafbidhbmfdlkaaGreatDoor
/-
  slices.SortFunc over labels, as label.Find calls it: the row holds the same labels, and their Gens fall.
-/
namespace Go.Proofs.YtafbidhbmfdlkaaGreatDoor
open Go.RowKit Go.Shelf
set_option maxRecDepth 100000

def lSort_ren : Go.Shelf.Ren := ⟨fun | 6 => 42 | 15 => 85 | 14 => 84 | 28 => 148 | 29 => 149 | 20 => 140 | 21 => 141 | 22 => 142 | 23 => 143 | 24 => 144 | 25 => 145 | 26 => 146 | 27 => 147 | 46 => 203 | 47 => 204 | 48 => 205 | 49 => 206 | 50 => 207 | 57 => 261 | n => n, fun | 22 => 63 | 24 => 67 | 25 => 89 | 3 => 3 | 39 => 54 | 0 => 0 | 53 => 27 | 55 => 75 | 4 => 4 | 46 => 191 | 45 => 190 | 50 => 182 | 5 => 5 | 9 => 9 | 66 => 259 | 70 => 263 | 76 => 314 | 77 => 315 | n => n, fun | n => n⟩
theorem lSort_lays : Go.Proofs.SlLaysF0.n6 Tryz.prog lSort_ren := {
  mixed := by kernel_rfl
  f6 := ⟨Tryz.f42.name, by decide, Tryz.func42.trans (congrArg some (by kernel_rfl))⟩
  f14 := ⟨Tryz.f84.name, by decide, Tryz.func84.trans (congrArg some (by kernel_rfl))⟩
  f15 := Tryz.func85.trans (congrArg some (by kernel_rfl))
  f20 := ⟨Tryz.f140.name, by decide, Tryz.func140.trans (congrArg some (by kernel_rfl))⟩
  f21 := ⟨Tryz.f141.name, by decide, Tryz.func141.trans (congrArg some (by kernel_rfl))⟩
  f22 := ⟨Tryz.f142.name, by decide, Tryz.func142.trans (congrArg some (by kernel_rfl))⟩
  f23 := ⟨Tryz.f143.name, by decide, Tryz.func143.trans (congrArg some (by kernel_rfl))⟩
  f24 := ⟨Tryz.f144.name, by decide, Tryz.func144.trans (congrArg some (by kernel_rfl))⟩
  f25 := ⟨Tryz.f145.name, by decide, Tryz.func145.trans (congrArg some (by kernel_rfl))⟩
  f26 := ⟨Tryz.f146.name, by decide, Tryz.func146.trans (congrArg some (by kernel_rfl))⟩
  f27 := ⟨Tryz.f147.name, by decide, Tryz.func147.trans (congrArg some (by kernel_rfl))⟩
  f28 := Tryz.func148.trans (congrArg some (by kernel_rfl))
  f29 := Tryz.func149.trans (congrArg some (by kernel_rfl))
  f46 := ⟨Tryz.f203.name, by decide, Tryz.func203.trans (congrArg some (by kernel_rfl))⟩
  f47 := Tryz.func204.trans (congrArg some (by kernel_rfl))
  f48 := Tryz.func205.trans (congrArg some (by kernel_rfl))
  f49 := ⟨Tryz.f206.name, by decide, Tryz.func206.trans (congrArg some (by kernel_rfl))⟩
  f50 := ⟨Tryz.f207.name, by decide, Tryz.func207.trans (congrArg some (by kernel_rfl))⟩
  f57 := ⟨Tryz.f261.name, by decide, Tryz.func261.trans (congrArg some (by kernel_rfl))⟩
  t0 := Tryz.underlying0
  a0 := Tryz.isAgg0
  z0 := Tryz.sizeOf0
  v0 := Tryz.zeroValue0
  t3 := Tryz.underlying3
  a3 := Tryz.isAgg3
  z3 := Tryz.sizeOf3
  v3 := Tryz.zeroValue3
  t4 := Tryz.underlying4
  a4 := Tryz.isAgg4
  z4 := Tryz.sizeOf4
  v4 := Tryz.zeroValue4
  t5 := Tryz.underlying5
  a5 := Tryz.isAgg5
  z5 := Tryz.sizeOf5
  v5 := Tryz.zeroValue5
  t9 := Tryz.underlying9
  a9 := Tryz.isAgg9
  z9 := Tryz.sizeOf9
  v9 := Tryz.zeroValue9
  t22 := Tryz.underlying63
  a22 := Tryz.isAgg63
  z22 := Tryz.sizeOf63
  v22 := Tryz.zeroValue63
  t25 := Tryz.underlying89
  a25 := Tryz.isAgg89
  z25 := Tryz.sizeOf89
  v25 := Tryz.zeroValue89
  t39 := Tryz.underlying54
  a39 := Tryz.isAgg54
  z39 := Tryz.sizeOf54
  v39 := Tryz.zeroValue54
  t45 := Tryz.underlying190
  a45 := Tryz.isAgg190
  z45 := Tryz.sizeOf190
  v45 := Tryz.zeroValue190
  t46 := Tryz.underlying191
  a46 := Tryz.isAgg191
  z46 := Tryz.sizeOf191
  v46 := Tryz.zeroValue191
  t50 := Tryz.underlying182
  a50 := Tryz.isAgg182
  z50 := Tryz.sizeOf182
  v50 := Tryz.zeroValue182
  t53 := Tryz.underlying27
  a53 := Tryz.isAgg27
  z53 := Tryz.sizeOf27
  v53 := Tryz.zeroValue27
  t55 := Tryz.underlying75
  a55 := Tryz.isAgg75
  z55 := Tryz.sizeOf75
  v55 := Tryz.zeroValue75
  t66 := Tryz.underlying259
  a66 := Tryz.isAgg259
  z66 := Tryz.sizeOf259
  v66 := Tryz.zeroValue259
  t70 := Tryz.underlying263
  a70 := Tryz.isAgg263
  z70 := Tryz.sizeOf263
  v70 := Tryz.zeroValue263
  t76 := Tryz.underlying314
  a76 := Tryz.isAgg314
  z76 := Tryz.sizeOf314
  v76 := Tryz.zeroValue314
  t77 := Tryz.underlying315
  a77 := Tryz.isAgg315
  z77 := Tryz.sizeOf315
  v77 := Tryz.zeroValue315 }
theorem lNaN_any (x : Nat) (w : World) : Calls Tryz.prog 86 #[.int .u32 (x : Int)] w fun e w' => e = .returned (.bool false) ∧ w = w' := by
  go_enter Tryz.func86, Tryz.ntmps86
  go_wp2_with fail
  go_ret
  exact ⟨by simp, rfl⟩
theorem lCmp_any (x y : Nat) (w : World) : Calls Tryz.prog 44 #[.int .u32 (x : Int), .int .u32 (y : Int)] w fun e w' => e = .returned (.int .i64 (Lib.compareInt (x : Int) (y : Int))) ∧ w = w' := by
  have h1 := lNaN_any x
  have h2 := lNaN_any y
  rw [Lib.compareInt]
  by_cases h : (x : Int) < (y : Int)
  · rw [if_pos h]
    go_enter Tryz.func44, Tryz.ntmps44
    go_wp2_with (first
      | (go_at_call 86; refine (h1 _).mono ?_; rintro ev w1 ⟨rfl, rfl⟩; clear h1)
      | (go_at_call 86; refine (h2 _).mono ?_; rintro ev w1 ⟨rfl, rfl⟩))
    go_ret
    exact ⟨rfl, rfl⟩
  · rw [if_neg h]
    by_cases h' : (x : Int) > (y : Int)
    · rw [if_pos h']
      go_enter Tryz.func44, Tryz.ntmps44
      go_wp2_with (first
        | (go_at_call 86; refine (h1 _).mono ?_; rintro ev w1 ⟨rfl, rfl⟩; clear h1)
        | (go_at_call 86; refine (h2 _).mono ?_; rintro ev w1 ⟨rfl, rfl⟩))
      go_ret
      exact ⟨rfl, rfl⟩
    · rw [if_neg h']
      go_enter Tryz.func44, Tryz.ntmps44
      go_wp2_with (first
        | (go_at_call 86; refine (h1 _).mono ?_; rintro ev w1 ⟨rfl, rfl⟩; clear h1)
        | (go_at_call 86; refine (h2 _).mono ?_; rintro ev w1 ⟨rfl, rfl⟩))
      go_ret
      exact ⟨rfl, rfl⟩
/-- What the closure answers. -/
def lbCmp (l m : Lb) : Int := Lib.compareInt (m.1 : Int) (l.1 : Int)
theorem lClosure (l m : Lb) (w : World) : Calls Tryz.prog 43 #[.agg (lbC l).toArray, .agg (lbC m).toArray] w fun e w' => e = .returned (.int .i64 (lbCmp l m)) ∧ ∃ q os', w' = Sort.grow (w.drewN q) os' := by
  have hc := fun W => lCmp_any m.1 l.1 W
  unfold lbCmp
  obtain ⟨r, hr⟩ : ∃ r, Lib.compareInt (m.1 : Int) (l.1 : Int) = r := ⟨_, rfl⟩
  rw [hr] at hc ⊢
  clear hr
  simp only [lbC]
  go_enter Tryz.func43, Tryz.ntmps43
  go_wp2_with (go_at_call 44; refine (hc _).mono ?_; rintro ev w1 ⟨rfl, rfl⟩)
  go_ret
  exact ⟨rfl, 0, _, by rw [Sort.alloc_eq_grow, Sort.alloc_eq_grow, Sort.grow_grow]; rfl⟩
theorem lbCmp_swo : Sort.SWO (Go.Proofs.ltOf lbCmp) := by
  have h : ∀ l m : Lb, Go.Proofs.ltOf lbCmp l m = decide (m.1 < l.1) := fun l m => by
    unfold Go.Proofs.ltOf lbCmp Lib.compareInt
    by_cases h1 : (m.1 : Int) < (l.1 : Int)
    · rw [if_pos h1]; simp; omega
    · rw [if_neg h1]
      by_cases h2 : (m.1 : Int) > (l.1 : Int)
      · rw [if_pos h2]; simp; omega
      · rw [if_neg h2]; simp; omega
  exact ⟨fun x => by rw [h]; simp, fun x y z => by rw [h, h, h]; simp; omega, fun x y z => by rw [h, h, h]; simp; omega⟩
theorem lbCmp_lt (l m : Lb) : Go.Proofs.ltOf lbCmp l m = decide (m.1 < l.1) := by
  unfold Go.Proofs.ltOf lbCmp Lib.compareInt
  by_cases h1 : (m.1 : Int) < (l.1 : Int)
  · rw [if_pos h1]; simp; omega
  · rw [if_neg h1]
    by_cases h2 : (m.1 : Int) > (l.1 : Int)
    · rw [if_pos h2]; simp; omega
    · rw [if_neg h2]; simp; omega
/-- The cells of labels, flat. -/
theorem flat_lbCs (L : List Lb) : Go.Sort.flatK lbC 7 L.toArray = (lbCs L).toArray := by
  apply Array.ext
  · simp [lbCs_length]
  · intro t h1 h2
    have h1' : t < L.length * 7 := by simpa using h1
    have hi : t / 7 < L.length := by omega
    have hg := Go.Sort.get_flatK lbC 7 L.toArray t (by simpa using h1')
    rw [getElem!_pos _ t h1] at hg
    rw [hg]
    have e1 : L.toArray[t / 7]! = L[t / 7] := by rw [getElem!_pos _ _ (by simpa using hi)]; simp
    rw [e1]
    have hl : (lbC L[t / 7]).length = 7 := rfl
    have hj : t % 7 < (lbC L[t / 7]).length := by rw [hl]; omega
    have hx := lbCs_get L (t / 7) hi (t % 7) ((lbC L[t / 7])[t % 7]) (List.getElem?_eq_getElem hj)
    have e2 : t / 7 * 7 + t % 7 = t := by omega
    rw [e2] at hx
    rw [getElem!_pos (lbC L[t / 7]) (t % 7) hj, List.getElem_toArray]
    have h2' : t < (lbCs L).length := by simpa using h2
    rw [List.getElem?_eq_getElem h2'] at hx
    exact (Option.some.inj hx).symm
theorem lbRow_holds {w : World} {base g cap : Nat} {L : List Lb} (h : LRow w base (.slice (some ⟨g, 0, none⟩) L.length cap) L) : Go.Sort.HoldsK lbC 7 w g 0 L.toArray := by
  obtain ⟨⟨hl, ⟨h2, _⟩ | ⟨g', cap', cur, h2, hb, h3, h4, h5, h6, h7⟩⟩, hw⟩ := h
  · cases h2
  · cases h2
    intro j hj
    rw [flat_lbCs] at hj ⊢
    have hj' : j < (lbCs L).length := by simpa using hj
    have hs : j < L.length * 7 := by rw [← lbCs_length]; exact hj'
    refine ⟨?_, ?_⟩
    · rw [Nat.zero_add, cell_of_row w g j cur 67 (0, 0) h3, getElem!_pos _ j hj]
      have e : cur.toList[j]? = (lbCs L)[j]? := by rw [← h7, List.getElem?_take_of_lt hs]
      rw [← Array.getElem?_toList, e, List.getElem?_eq_getElem hj']
      simp
    · exact Blk.frozen (show Blk w g 67 cur from h3) _
/-- The row behind the sort. -/
theorem lbRow_sorted {w : World} {base g cap n : Nat} {L L' : List Lb} {os : Array Obj} (h : LRow w base (.slice (some ⟨g, 0, none⟩) L.length cap) L) (hp : L'.Perm L) :
    LRow (sortWorldK lbC 7 w g 0 n L'.toArray os) base (.slice (some ⟨g, 0, none⟩) L.length cap) L' ∧ w.grownBy (sortWorldK lbC 7 w g 0 n L'.toArray os) (some g) := by
  obtain ⟨⟨hl, ⟨h2, _⟩ | ⟨g', cap', cur, h2, hb, h3, h4, h5, h6, h7⟩⟩, hw⟩ := h
  · cases h2
  · cases h2
    have hlt : g < w.heap.size := (Array.getElem?_eq_some_iff.1 h3).1
    have hn : L'.length = L.length := hp.length_eq
    have hF : Go.Sort.flatK lbC 7 L'.toArray = (lbCs L').toArray := flat_lbCs L'
    have hz : (lbCs L').length = L.length * 7 := by rw [lbCs_length, hn]
    have hput : ∀ k, k < w.heap.size → (sortWorldK lbC 7 w g 0 n L'.toArray os).heap[k]? = (w.heap.modify g (Go.Sort.onCells (Go.Sort.putCells id 0 (lbCs L').toArray)))[k]? := fun k hk => by
      unfold sortWorldK
      rw [Go.Sort.heap_grow_old _ _ (by rw [Go.Sort.putRowK, Go.Sort.size_putRow]; exact hk), Go.Sort.putRowK, hF]
      rfl
    have hg : (sortWorldK lbC 7 w g 0 n L'.toArray os).heap[g]? = some (.cells (Go.Sort.putCells id 0 (lbCs L').toArray cur) 67 (0, 0)) := by
      rw [hput g hlt, Array.getElem?_modify, if_pos rfl, h3]
      rfl
    have hsz : (Go.Sort.putCells id 0 (lbCs L').toArray cur).size = cur.size := by simp [Go.Sort.putCells]
    have htk : (Go.Sort.putCells id 0 (lbCs L').toArray cur).toList.take (L.length * 7) = lbCs L' := by
      apply List.ext_getElem?
      intro j
      by_cases hj : j < L.length * 7
      · have hjc : j < cur.size := by rw [h6]; exact Nat.lt_of_lt_of_le hj (Nat.mul_le_mul_right 7 h4)
        rw [List.getElem?_take_of_lt hj, Array.getElem?_toList]
        simp only [Go.Sort.putCells, Array.getElem?_mapIdx, Array.getElem?_eq_getElem hjc, Option.map_some, List.size_toArray]
        rw [if_pos ⟨Nat.zero_le _, by omega⟩, Nat.sub_zero, getElem!_pos _ j (by simpa using (by omega : j < (lbCs L').length)), List.getElem?_eq_getElem (by omega)]
        simp
      · rw [List.getElem?_eq_none (by simp; omega), List.getElem?_eq_none (by omega)]
    refine ⟨⟨⟨by rw [lbCs_length], .inr ⟨g, cap, _, by rw [hn], hb, hg, by omega, h5, by rw [hsz]; exact h6, by rw [hn]; exact htk⟩⟩, fun p hp' => hw p (hp.mem_iff.1 hp')⟩, ?_⟩
    refine ⟨rfl, rfl, rfl, ?_, fun i hi hne => ?_⟩
    · unfold sortWorldK
      rw [Go.Sort.size_grow, Go.Sort.putRowK, Go.Sort.size_putRow]
      exact Nat.le_add_right _ _
    · rw [hput i hi, Array.getElem?_modify, if_neg (fun e => hne (by rw [e]))]
/-- The row is sorted. -/
theorem lSort_any (a : Option Addr) (cap : Nat) (L : List Lb) (w : World) (base : Nat) (h : LRow w base (.slice a L.length cap) L) (h4 : L.length ≤ 4) :
    Calls Tryz.prog 42 #[.slice a L.length cap, .func (.func 43) #[] #[]] w fun e w' => e = .returned (.tuple #[]) ∧ ∃ L', L'.Perm L ∧ Falls L' ∧ LRow w' base (.slice a L.length cap) L' ∧ w.grownBy w' (Value.ownBlock (.slice a L.length cap)) := by
  by_cases h0 : L.length = 0
  · obtain rfl : L = [] := List.eq_nil_of_length_eq_zero h0
    have hn := AnyF.slices_SortFunc_none lSort_lays a cap (.func (.func 43) #[] #[]) w
    refine hn.mono ?_
    rintro e w' ⟨rfl, rfl⟩
    exact ⟨rfl, [], List.Perm.refl _, List.Pairwise.nil, h, World.grownBy.refl _ _⟩
  · have hr := h
    obtain ⟨⟨hl, ⟨h2, h3⟩ | ⟨g, cap', cur, h2, hb, h3, _⟩⟩, hw⟩ := hr
    · exact absurd h3 h0
    · cases h2
      have hlt : g < w.heap.size := (Array.getElem?_eq_some_iff.1 h3).1
      have eg : ∀ args w, (callFunc 43 args).run Tryz.prog w = .ok (.enter 43 args) w := enters_of Tryz.func43 (by kernel_rfl) rfl
      have hcmp : CmpLays Tryz.prog 43 #[] lbC 7 lbCmp g 0 L.toArray.size w := fun _ _ _ _ x y => lClosure x y _
      have hlen : ∀ (n : Nat) (W : World), n ≤ 12 → Calls Tryz.prog 85 #[.int .u64 n] W fun e w' => (∃ l : Int, e = .returned (.int .i64 l)) ∧ w' = W := fun n W hn => by
        have hb := Any.bits_Len (SlLaysF0.n15.bits (P := Tryz.prog) (ρ := lSort_ren) { lSort_lays with }) n W (by omega) (by omega)
        exact hb.mono fun _ _ ⟨he, hw⟩ => ⟨⟨_, he⟩, hw⟩
      have hs := AnyQ.slices_SortFunc_small_sorted lSort_lays 7 Tryz.isAgg67 Tryz.sizeOf67 lbC (fun _ => rfl) (fun x v hv => by
        simp only [lbC, List.mem_cons, List.not_mem_nil, or_false] at hv
        rcases hv with rfl | rfl | rfl | rfl | rfl | rfl | rfl <;> rfl) lbCmp 43 #[] lbCmp_swo g 0 cap L.toArray w eg hcmp (lbRow_holds h) hlt (by simp; omega) hlen
      have hsz : L.toArray.size = L.length := by simp
      rw [hsz] at hs
      refine hs.mono ?_
      rintro e w' ⟨rfl, d', n, os, hp, hf, rfl⟩
      obtain ⟨p1, _, p3⟩ := hp
      have hd : d'.size = L.length := by rw [p1]; simp
      have e1 : (d'.extract 0 L.length) = d' := by rw [← hd]; simp
      have e2 : (L.toArray.extract 0 L.length) = L.toArray := by simp
      rw [e1, e2] at p3
      have hperm : d'.toList.Perm L := by simpa using p3
      have hfall : Falls d'.toList := by
        refine List.pairwise_iff_getElem.2 fun i j hi hj hij => ?_
        have hi' : i < d'.size := by simpa using hi
        have hj' : j < d'.size := by simpa using hj
        have := hf i j (Nat.zero_le _) hij (by rw [← hd]; exact hj')
        rw [lbCmp_lt, getElem!_pos d' i hi', getElem!_pos d' j hj'] at this
        simp only [decide_eq_false_iff_not] at this
        simp only [Array.getElem_toList]
        omega
      have hrow := lbRow_sorted (n := n) (os := os) h hperm
      rw [Array.toArray_toList] at hrow
      exact ⟨rfl, d'.toList, hperm, hfall, hrow.1, hrow.2⟩
end Go.Proofs.YtafbidhbmfdlkaaGreatDoor
/-
  append of labels to a row of the call's own.
-/
namespace Go.Proofs.YtafbidhbmfdlkaaGreatDoor
open Go.RowKit Go.Shelf
set_option maxRecDepth 100000

theorem infoLb : (Tryz.prog.info? 67).map (fun i => (i.zero, i.size, i.bytes)) = some (some (.agg #[.int .u32 0, .int .u32 0, .int .i64 0, .int .u32 0, .int .u32 0, .int .u32 0, .int .u32 0]), 7, 32) := by kernel_rfl
theorem lbCs_mem {L : List Lb} {u : Value} (h : u ∈ lbCs L) : u.oneCell' = true := by
  obtain ⟨p, _, hu⟩ := List.mem_flatMap.1 h
  simp only [lbC, List.mem_cons, List.not_mem_nil, or_false] at hu
  rcases hu with rfl | rfl | rfl | rfl | rfl | rfl | rfl <;> rfl
/-- The cells of a slice of pointers. -/
theorem Lbs.row {w : World} {B b off len cap : Nat} {L : List Lb} (h : Lbs w B (some ⟨b, off, none⟩) len cap L) (j : Nat) (u : Value) (hu : (lbCs L)[j]? = some u) : w.cell? ⟨b, off + j, none⟩ = some u := by
  have hj : j < L.length * 7 := by
    rcases Nat.lt_or_ge j (lbCs L).length with hj | hj
    · rw [lbCs_length] at hj; exact hj
    · rw [List.getElem?_eq_none hj] at hu; cases hu
  have hi : j / 7 < L.length := by omega
  obtain ⟨b', off', e, _, hc⟩ := h.2.2.2.2 (by rw [← h.1]; omega)
  cases e
  have hlen : (lbC L[j / 7]).length = 7 := rfl
  have hr : j % 7 < (lbC L[j / 7]).length := by rw [hlen]; omega
  have hg := lbCs_get L (j / 7) hi (j % 7) _ (List.getElem?_eq_getElem hr)
  have ej : j / 7 * 7 + j % 7 = j := by omega
  rw [ej, hu] at hg
  have := (hc (j / 7) hi).2 (j % 7) _ (List.getElem?_eq_getElem hr)
  rw [Nat.add_assoc, ej] at this
  rw [this, hg]
section
variable {w : World} {o : Oper} {a : Act} {K : Act → World → Prop} {Q : Exit → Act → World → Prop} {ops : Array Oper} {rest : List Oper}
theorem wp_append_lrow (x y : Operand) (ho : o.op = .call { callee := .builtin .append, args := #[x, y], argTypes := #[63, 63] })
    (base : Nat) (v : Value) (L : List Lb) (hx : a.eval x = v) (hr : LRow w base v L) (B : Nat) (A : Option Addr) (m c : Nat) (M : List Lb) (hy : a.eval y = .slice A m c) (hs : Lbs w B A m c M)
    (hn : L.length + m ≤ 1000000) (hbase : base ≤ w.heap.size)
    (h : ∀ v' w', LRow w' base v' (L ++ M) → w.grownBy w' v.ownBlock → K (a.put o.dst v') w') : o.wp Tryz.prog a w K Q := by
  obtain ⟨i0, hi0, hz0, hz1, hz2⟩ := info_parts infoLb
  obtain ⟨h1, h2⟩ := hr
  have hwf : ∀ p ∈ L ++ M, WfL p := fun p hp => by
    rcases List.mem_append.1 hp with hp | hp
    · exact h2 p hp
    · exact hs.wf hp
  have hml := hs.1
  cases A with
  | none =>
    have hc := hs.2.2.2.1 rfl
    have hm : m = 0 := by have := hs.2.1; omega
    subst hm; subst hc
    obtain rfl : M = [] := List.eq_nil_of_length_eq_zero hml
    have hrun := run_app_none (P := Tryz.prog) (w := w) base 63 o.type 67 i0 7 0 Tryz.underlying63 hi0 v L.length (lbCs L) h1
    unfold Oper.wp
    simp [execOp, ho, resolve, invoke, builtin, hx, hy, hrun, Result.andThen]
    refine h v w ?_ (World.grownBy.refl w _)
    rw [List.append_nil]
    exact ⟨h1, h2⟩
  | some ad =>
    refine wp_append_own w x y 63 ho base 67 i0 (.agg #[.int .u32 0, .int .u32 0, .int .i64 0, .int .u32 0, .int .u32 0, .int .u32 0, .int .u32 0]) 7 32 Tryz.underlying63 hi0 hz0 hz1 hz2 rfl (by decide) v L.length (lbCs L) hx h1 ad m c (lbCs M) hy (by rw [lbCs_length, hml]) (fun j u hu => ?_) (fun u hu => lbCs_mem hu) (by unfold maxLen; omega) (by omega) hbase fun v' w' h6 h7 _ => ?_
    · have hj : 0 < m := by
        rcases Nat.eq_zero_or_pos m with h0 | h0
        · obtain rfl : M = [] := List.eq_nil_of_length_eq_zero (by omega)
          simp [lbCs] at hu
        · exact h0
      obtain ⟨b, off, e, _, _⟩ := hs.2.2.2.2 hj
      cases e
      have e1 : (⟨b, off, none⟩ : Addr).add j = ⟨b, off + j, none⟩ := by unfold Addr.add; split <;> simp_all
      rw [e1]
      exact hs.row j u hu
    · refine h v' w' ⟨?_, hwf⟩ h7
      rw [List.length_append, hml, lbCs_append]
      exact h6
theorem wpList_append_lrow (hgd : o.guard = none) (x y : Operand) (ho : o.op = .call { callee := .builtin .append, args := #[x, y], argTypes := #[63, 63] })
    (base : Nat) (v : Value) (L : List Lb) (hx : a.eval x = v) (hr : LRow w base v L) (B : Nat) (A : Option Addr) (m c : Nat) (M : List Lb) (hy : a.eval y = .slice A m c) (hs : Lbs w B A m c M)
    (hn : L.length + m ≤ 1000000) (hbase : base ≤ w.heap.size)
    (h : ∀ v' w', LRow w' base v' (L ++ M) → w.grownBy w' v.ownBlock → wpList Tryz.prog ops Q rest (a.put o.dst v') w') : wpList Tryz.prog ops Q (o :: rest) a w :=
  wpList_plain hgd fun _ hK => wp_append_lrow x y ho base v L hx hr B A m c M hy hs hn hbase fun v' w' h1 h2 => hK _ _ (h v' w' h1 h2)
end
/-- A slice literal of one pointer. -/
theorem one_lbs (w : World) (p : Lb) (hp : WfL p) : Lbs (w.alloc (.cells (lbC p).toArray 67)) (w.alloc (.cells (lbC p).toArray 67)).heap.size (some ⟨w.heap.size, 0, none⟩) 1 1 [p] :=
  ⟨rfl, Nat.le_refl _, by unfold maxLen; omega, fun e => (by cases e), fun _ => ⟨w.heap.size, 0, rfl, by simp, fun i hi => by
    have : i = 0 := by simpa using hi
    subst this
    refine ⟨hp, fun j u hu => ?_⟩
    rw [(Blk.new w 67 (lbC p).toArray).cell]
    simpa using hu⟩⟩
theorem LRow.own {w w' : World} {base g : Nat} {v : Value} {L : List Lb} (h : LRow w base v L) (hg : w.grownBy w' (some g)) (hne : ∀ k, v.ownBlock = some k → k ≠ g) : LRow w' base v L := ⟨own_other h.1 hg hne, h.2⟩
end Go.Proofs.YtafbidhbmfdlkaaGreatDoor
/-
  label.Find, whatever disk it is handed, answers the labels that stand, the greatest Gen first, or why not; nothing that was there is written.
-/
namespace Go.Proofs.YtafbidhbmfdlkaaGreatDoor
open Go.RowKit Go.Shelf
set_option maxRecDepth 100000

/-- A list of labels, the call's own, and an error's number. -/
def OutLbs (o : List Lb × Int) (w : World) (e : Ending) (w' : World) : Prop := ∃ v, e = .returned (.tuple #[v, .int .i64 o.2]) ∧ LRow w' w.heap.size v o.1 ∧ Below w.heap.size w w'
theorem slotsL_some {f : Nat → Option Lb} {k : Nat} {l : Lb} (h : f k = some l) : slotsL f (k + 1) = slotsL f k ++ [l] := by
  rw [slotsL, h]
theorem slotsL_none {f : Nat → Option Lb} {k : Nat} (h : f k = none) : slotsL f (k + 1) = slotsL f k := by
  rw [slotsL, h]
theorem atAppendL {P : Program} {ops : Array Oper} {Q : Exit → Act → World → Prop} {a : Act} {w : World} {rest : List Oper} {d : Option Tmp} {ty : TypeId} {x : Array Operand} {y : Array TypeId} {pos : String} {af : Array Edge} (h : wpList P ops Q (⟨d, .call { callee := .builtin .append, args := x, argTypes := y }, ty, pos, af, none⟩ :: rest) a w) : wpList P ops Q (⟨d, .call { callee := .builtin .append, args := x, argTypes := y }, ty, pos, af, none⟩ :: rest) a w := h
set_option maxHeartbeats 4000000 in
theorem lFind_any (x : DAt) (D : DkL) (w : World) (h : Dsk w w.heap.size x D) (hz : Szs w) : Calls Tryz.prog 21 #[dval x D] w (OutLbs (findO D) w) := by
  have b0 := (Below.refl w.heap.size w).alloc (Nat.le_refl _) (.cells #[.slice x.ba D.1.length x.bc, .slice x.wa D.2.length x.wc] 25)
  have x0 := Blk.new w 25 #[.slice x.ba D.1.length x.bc, .slice x.wa D.2.length x.wc]
  have h0 := h.step b0
  have hc := dCheck_any x D _ h0
  rw [checkO] at hc
  rw [findO]
  have HB := Lib.hid b0
  have HX := Lib.hid x0
  have HD := Lib.hid h0
  have HZ := Lib.hid hz
  have HW := Lib.hid h
  by_cases hm : MayD D
  · rw [if_pos hm] at hc ⊢
    have HR : Hid (∀ (p : Nat) (W : World), p < 4 → Dsk W W.heap.size x D → Calls Tryz.prog 39 #[dval x D, .int .i64 (p : Int)] W (ToldL (leftD D (fun _ => true) p, 0) W)) := Lib.hid fun p W hp hd => by
      have := dRead_any x D (p : Int) W hd
      rwa [read_ok hm (by omega)] at this
    have HL : Hid (∀ p, p < 4 → (leftD D (fun _ => true) p).length = 256) := Lib.hid fun p hp => leftD_length hm _ (by omega)
    have HC := Lib.hid hc
    simp only [dval] at HC HR ⊢
    clear b0 x0 h0 h hz hc hm
    go_enter Tryz.func21, Tryz.ntmps21
    go_wp2_with (go_at_call 9; refine HC.out.mono ?_; rintro ev w1 ⟨rfl, b1⟩; have HB1 := Lib.hid (HB.out.trans (b1.mono HB.out.size)); have HX1 := Lib.hid (HX.out.below b1 HX.out.lt); have HD1 := Lib.hid (HD.out.step b1); clear b1)
    have HS1 := Lib.hid (show w.heap.size + 1 ≤ w1.heap.size from HX1.out.lt)
    go_loopw [5, 16] (fun v i wr => ∃ k : Nat, k ≤ 4 ∧ i = .int .i64 k ∧ LRow wr (w.heap.size + 1) v (slotsL (seenL D) k) ∧ Below (w.heap.size + 1) w1 wr) (fun _ i _ => 4 - (intOf i).toNat)
    case atStart => exact ⟨0, Nat.zero_le _, rfl, lrow_nil _ _, Below.refl _ _⟩
    case round =>
      obtain ⟨k, hk, rfl, hrow, hb⟩ := hrel
      obtain ⟨av, cv, rfl, _⟩ := hrow.lbs
      have k0 : (0 : Int) ≤ k := by omega
      have HRW := Lib.hid hrow
      have HN := Lib.hid hb
      have HBr := Lib.hid (HB1.out.trans (hb.mono (Nat.le_succ _)))
      have HSZ := Lib.hid (Nat.le_trans HS1.out hb.size)
      clear hrow hb
      have c0 := (HX1.out.below HN.out (Nat.lt_succ_self _)).cell 0
      have c1 := (HX1.out.below HN.out (Nat.lt_succ_self _)).cell 1
      by_cases hlt : k < 4
      · have k1 : (k : Int) < 4 := by omega
        obtain ⟨S, hS⟩ : ∃ S, leftD D (fun _ => true) k = S := ⟨_, rfl⟩
        have HS := Lib.hid hS
        have hsee : seenL D k = match labelO S with
          | some l => if l.1 % 4 = k then some l else none
          | none => none := by rw [← hS]; rfl
        clear hS
        cases hlab : labelO S with
        | none =>
          rw [hlab] at hsee
          have hsl := slotsL_none (f := seenL D) (k := k) hsee
          have HSL := Lib.hid hsl
          clear hsee hsl
          go_wp2_with (first
                        | (go_at_call 39
                           refine (HR.out k wr hlt (HW.out.step HBr.out)).mono ?_
                           rintro ev w2 ⟨v2, rfl, o2, b2⟩
                           rw [HL.out k hlt, HS.out] at o2
                           obtain ⟨A2, C2, rfl, s2⟩ := own_to o2
                           have HB2 := Lib.hid (HBr.out.trans (b2.mono HBr.out.size))
                           have hof := lOf_any A2 C2 S w2 s2 (HZ.out.step HB2.out)
                           rw [hlab] at hof
                           simp only [ofV] at hof
                           have HOF := Lib.hid hof
                           have HRW2 := Lib.hid (HRW.out.below b2)
                           have HN2 := Lib.hid (HN.out.trans (b2.mono HSZ.out))
                           have HSZ2 := Lib.hid (Nat.le_trans HSZ.out b2.size)
                           have e0 := (HX1.out.below HN2.out (Nat.lt_succ_self _)).cell 0
                           clear o2 s2 b2 hof)
                        | (go_at_call 40
                           refine HOF.out.mono ?_
                           rintro ev w3 ⟨rfl, b3⟩
                           have HB3 := Lib.hid (HB2.out.trans (b3.mono HB2.out.size))
                           have HRW3 := Lib.hid (HRW2.out.below b3)
                           have HN3 := Lib.hid (HN2.out.trans (b3.mono HSZ2.out))
                           have HSZ3 := Lib.hid (Nat.le_trans HSZ2.out b3.size)
                           have ba : Below w3.heap.size w3 (w3.alloc (.cells #[.int .u32 0, .int .u32 0, .int .i64 0, .int .u32 0, .int .u32 0, .int .u32 0, .int .u32 0] 67)) := (Below.refl _ _).alloc (Nat.le_refl _) _
                           have HB4 := Lib.hid (HB3.out.trans (ba.mono HB3.out.size))
                           have HRW4 := Lib.hid (HRW3.out.below ba)
                           have HN4 := Lib.hid (HN3.out.trans (ba.mono HSZ3.out))
                           have HSZ4 := Lib.hid (Nat.le_trans HSZ3.out ba.size)
                           clear ba b3))
          go_roundw
          case rel => exact ⟨k + 1, by omega, by go_num, by rw [HSL.out]; exact HRW4.out, HN4.out⟩
          case measure => simp [intOf]; omega
        | some l =>
          rw [hlab] at hsee
          simp only at hsee
          have hwl := (labelO_some hlab).2.1
          obtain ⟨g, e, a, b, c, d, f⟩ := l
          simp only at hsee
          have g0 : (0 : Int) ≤ ((g % 4 : Nat) : Int) := by omega
          by_cases hk4 : g % 4 = k
          · rw [if_pos hk4] at hsee
            have hsl := slotsL_some (f := seenL D) (k := k) hsee
            have HSL := Lib.hid hsl
            have hkk : (((g % 4 : Nat) : Int) == (k : Int)) = true := by simp; omega
            clear hsee hsl hk4
            go_wp2_with (first
                          | (go_at_call 39
                             refine (HR.out k wr hlt (HW.out.step HBr.out)).mono ?_
                             rintro ev w2 ⟨v2, rfl, o2, b2⟩
                             rw [HL.out k hlt, HS.out] at o2
                             obtain ⟨A2, C2, rfl, s2⟩ := own_to o2
                             have HB2 := Lib.hid (HBr.out.trans (b2.mono HBr.out.size))
                             have hof := lOf_any A2 C2 S w2 s2 (HZ.out.step HB2.out)
                             rw [hlab] at hof
                             simp only [ofV] at hof
                             have HOF := Lib.hid hof
                             have HRW2 := Lib.hid (HRW.out.below b2)
                             have HN2 := Lib.hid (HN.out.trans (b2.mono HSZ.out))
                             have HSZ2 := Lib.hid (Nat.le_trans HSZ.out b2.size)
                             have e0 := (HX1.out.below HN2.out (Nat.lt_succ_self _)).cell 0
                             clear o2 s2 b2 hof)
                          | (go_at_call 40
                             refine HOF.out.mono ?_
                             rintro ev w3 ⟨rfl, b3⟩
                             have HB3 := Lib.hid (HB2.out.trans (b3.mono HB2.out.size))
                             have HRW3 := Lib.hid (HRW2.out.below b3)
                             have HN3 := Lib.hid (HN2.out.trans (b3.mono HSZ2.out))
                             have HSZ3 := Lib.hid (Nat.le_trans HSZ2.out b3.size)
                             have ba : Below w3.heap.size w3 (w3.alloc (.cells #[.int .u32 (g : Int), .int .u32 (e : Int), .int .i64 a, .int .u32 (b : Int), .int .u32 (c : Int), .int .u32 (d : Int), .int .u32 (f : Int)] 67)) := (Below.refl _ _).alloc (Nat.le_refl _) _
                             have HB4 := Lib.hid (HB3.out.trans (ba.mono HB3.out.size))
                             have HRW4 := Lib.hid (HRW3.out.below ba)
                             have HN4 := Lib.hid (HN3.out.trans (ba.mono HSZ3.out))
                             have HSZ4 := Lib.hid (Nat.le_trans HSZ3.out ba.size)
                             clear ba b3)
                          | (go_at_call 41
                             refine (lSlot_any g hwl.1 _).mono ?_
                             rintro ev w5 ⟨rfl, rfl⟩)
                          | (with_reducible refine atAppendL ?_
                             have bb : Below (w3.alloc (.cells #[.int .u32 (g : Int), .int .u32 (e : Int), .int .i64 a, .int .u32 (b : Int), .int .u32 (c : Int), .int .u32 (d : Int), .int .u32 (f : Int)] 67)).heap.size (w3.alloc (.cells #[.int .u32 (g : Int), .int .u32 (e : Int), .int .i64 a, .int .u32 (b : Int), .int .u32 (c : Int), .int .u32 (d : Int), .int .u32 (f : Int)] 67)) ((w3.alloc (.cells #[.int .u32 (g : Int), .int .u32 (e : Int), .int .i64 a, .int .u32 (b : Int), .int .u32 (c : Int), .int .u32 (d : Int), .int .u32 (f : Int)] 67)).alloc (.cells #[.int .u32 (g : Int), .int .u32 (e : Int), .int .i64 a, .int .u32 (b : Int), .int .u32 (c : Int), .int .u32 (d : Int), .int .u32 (f : Int)] 67)) := (Below.refl _ _).alloc (Nat.le_refl _) _
                             have HRW5 := Lib.hid (HRW4.out.below bb)
                             have HN5 := Lib.hid (HN4.out.trans (bb.mono HSZ4.out))
                             have HSZ5 := Lib.hid (Nat.le_trans HSZ4.out bb.size)
                             have hone := one_lbs (w3.alloc (.cells #[.int .u32 (g : Int), .int .u32 (e : Int), .int .i64 a, .int .u32 (b : Int), .int .u32 (c : Int), .int .u32 (d : Int), .int .u32 (f : Int)] 67)) (g, e, a, b, c, d, f) hwl
                             simp only [World.size_alloc] at hone
                             clear bb
                             refine wpList_append_lrow rfl (.tmp 38) (.tmp 40) rfl (w.heap.size + 1) (.slice av (slotsL (seenL D) k).length cv) (slotsL (seenL D) k) rfl HRW5.out _ _ 1 1 [(g, e, a, b, c, d, f)] rfl hone (by have := slotsL_length (seenL D) k; omega) HSZ5.out ?_
                             intro v6 w6 r6 g6
                             have HR6 := Lib.hid r6
                             have HN6 := Lib.hid (app_below HN5.out HRW5.out.1 g6 HSZ5.out)
                             clear r6 g6 hone))
            go_roundw
            case rel => exact ⟨k + 1, by omega, by go_num, by rw [HSL.out]; exact HR6.out, HN6.out⟩
            case measure => simp [intOf]; omega
          · rw [if_neg hk4] at hsee
            have hsl := slotsL_none (f := seenL D) (k := k) hsee
            have HSL := Lib.hid hsl
            have hkk : (((g % 4 : Nat) : Int) == (k : Int)) = false := by simp; omega
            clear hsee hsl hk4
            go_wp2_with (first
                          | (go_at_call 39
                             refine (HR.out k wr hlt (HW.out.step HBr.out)).mono ?_
                             rintro ev w2 ⟨v2, rfl, o2, b2⟩
                             rw [HL.out k hlt, HS.out] at o2
                             obtain ⟨A2, C2, rfl, s2⟩ := own_to o2
                             have HB2 := Lib.hid (HBr.out.trans (b2.mono HBr.out.size))
                             have hof := lOf_any A2 C2 S w2 s2 (HZ.out.step HB2.out)
                             rw [hlab] at hof
                             simp only [ofV] at hof
                             have HOF := Lib.hid hof
                             have HRW2 := Lib.hid (HRW.out.below b2)
                             have HN2 := Lib.hid (HN.out.trans (b2.mono HSZ.out))
                             have HSZ2 := Lib.hid (Nat.le_trans HSZ.out b2.size)
                             have e0 := (HX1.out.below HN2.out (Nat.lt_succ_self _)).cell 0
                             clear o2 s2 b2 hof)
                          | (go_at_call 40
                             refine HOF.out.mono ?_
                             rintro ev w3 ⟨rfl, b3⟩
                             have HB3 := Lib.hid (HB2.out.trans (b3.mono HB2.out.size))
                             have HRW3 := Lib.hid (HRW2.out.below b3)
                             have HN3 := Lib.hid (HN2.out.trans (b3.mono HSZ2.out))
                             have HSZ3 := Lib.hid (Nat.le_trans HSZ2.out b3.size)
                             have ba : Below w3.heap.size w3 (w3.alloc (.cells #[.int .u32 (g : Int), .int .u32 (e : Int), .int .i64 a, .int .u32 (b : Int), .int .u32 (c : Int), .int .u32 (d : Int), .int .u32 (f : Int)] 67)) := (Below.refl _ _).alloc (Nat.le_refl _) _
                             have HB4 := Lib.hid (HB3.out.trans (ba.mono HB3.out.size))
                             have HRW4 := Lib.hid (HRW3.out.below ba)
                             have HN4 := Lib.hid (HN3.out.trans (ba.mono HSZ3.out))
                             have HSZ4 := Lib.hid (Nat.le_trans HSZ3.out ba.size)
                             clear ba b3)
                          | (go_at_call 41
                             refine (lSlot_any g hwl.1 _).mono ?_
                             rintro ev w5 ⟨rfl, rfl⟩))
            go_roundw
            case rel => exact ⟨k + 1, by omega, by go_num, by rw [HSL.out]; exact HRW4.out, HN4.out⟩
            case measure => simp [intOf]; omega
      · obtain rfl : k = 4 := by omega
        have hl4 := slotsL_length (seenL D) 4
        have heq := fun (L' : List Lb) (h1 : L'.Perm (slotsL (seenL D) 4)) (h2 : Falls L') => standL_eq (seenL_slotted D) h1 h2
        obtain ⟨L, hL⟩ : ∃ L, slotsL (seenL D) 4 = L := ⟨_, rfl⟩
        rw [hL] at HRW hl4 heq ⊢
        have hso := lSort_any av cv L wr (w.heap.size + 1) HRW.out hl4
        have HSO := Lib.hid hso
        have HEQ := Lib.hid heq
        clear hso heq hL hl4
        go_wp2_with (go_at_call 42
                     refine HSO.out.mono ?_
                     rintro ev w2 ⟨rfl, L', p2, f2, r2, g2⟩
                     have hE := HEQ.out L' p2 f2
                     have HN2 := Lib.hid (app_below HN.out HRW.out.1 g2 HSZ.out)
                     have HL2 := Lib.hid (And.intro p2.length_eq hE)
                     have HR2 := Lib.hid r2
                     clear p2 f2 g2 hE r2)
        go_ret2
        refine ⟨_, rfl, ?_, HB1.out.trans (HN2.out.mono (Nat.le_succ _))⟩
        rw [findL, ← HL2.out.2]
        exact HR2.out.mono (Nat.le_succ _)
  · rw [if_neg hm] at hc ⊢
    have HC := Lib.hid hc
    simp only [dval] at HC ⊢
    clear b0 x0 h0 h hz hc hm
    go_enter Tryz.func21, Tryz.ntmps21
    go_wp2_with (go_at_call 9; refine HC.out.mono ?_; rintro ev w1 ⟨rfl, b1⟩; have HB1 := Lib.hid (HB.out.trans (b1.mono HB.out.size)); clear b1)
    go_ret2
    exact ⟨_, rfl, lrow_nil _ _, HB1.out⟩
end Go.Proofs.YtafbidhbmfdlkaaGreatDoor
/-
  A new pool, and the pools behind its first two syncs: what the calls answer, behind names.
-/
namespace Go.Proofs.YtafbidhbmfdlkaaGreatDoor
open Go Go.RowKit Go.Shelf
set_option maxRecDepth 100000

/-- What a call answers that tells a pool and no error. -/
def NewPQ (q : PoN) (w : World) (e : Ending) (w' : World) : Prop := ∃ y, e = .returned (.tuple #[poV y q, .int .i64 0]) ∧ PoNew w.heap.size w' y q ∧ Below w.heap.size w w'
theorem NewPE.q {q : PoN} {w w' : World} {e : Ending} (h : NewPE q 0 w e w') : NewPQ q w e w' := by
  obtain ⟨y, rfl, h1, h2⟩ := h
  exact ⟨y, rfl, h1, h2⟩
/-- A pool's lists of lines and changes are none. -/
def NilL (y : PoA) : Prop := y.la = none ∧ y.lc = 0 ∧ y.ca = none ∧ y.cc = 0
end Go.Proofs.YtafbidhbmfdlkaaGreatDoor
/-
  Law 17's alive: a sync of a new pool is as the document says.
-/
namespace Go.Proofs.YtafbidhbmfdlkaaGreatDoor
open Go Go.RowKit Go.Shelf
set_option maxRecDepth 100000

theorem po_stored {B g : Nat} {w w' : World} {y : PoA} {p : PoN} {cs : Array Value} (h : PoNew B w y p) (hb : Blk w g 36 cs) (hg : w.grownBy w' (some g)) (k : Keeps 0 w w') : PoNew B w' y p :=
  ⟨Lasts.step h.st k, own_other h.own hg (own_ty h.own hb (by decide)), brow_keeps h.keys k.to3, brow_keeps h.loaded k.to3, h.nil⟩
section
variable {ops : Array Oper} {rest : List Oper} {o : Oper} {a : Act} {w : World} {Q : Exit → Act → World → Prop}
end
end Go.Proofs.YtafbidhbmfdlkaaGreatDoor
/-
  log's own Replay of a pool without lines and changes, where the log on its disk is not begun.
-/
namespace Go.Proofs.YtafbidhbmfdlkaaGreatDoor
open Go Go.RowKit Go.Shelf
set_option maxRecDepth 100000

@[reducible] def pgZ : Array Value := #[.int .u32 0, .int .i64 0, .int .i64 0, .bool false, .slice none 0 0]
set_option maxHeartbeats 4000000 in
theorem lgPageOf_none (L : Nat) (x : PoA) (p : PoN) (w : World) (hp : PoOk L w x p) (hd : MayD p.S.1) (hl : leftD p.S.1 (fun _ => true) 4 = List.replicate 256 0) :
    Calls Tryz.prog 92 #[poV x p, .int .i64 0] w fun e w' => e = .returned (.tuple #[.agg pgZ, .bool false]) ∧ Below w.heap.size w w' := by
  obtain ⟨w0, hw0, b0, z0, q0, q1⟩ := two_al w (poC x p) pgZ 36 148
  obtain ⟨g, hg⟩ : ∃ g, w.heap.size = g := ⟨_, rfl⟩
  obtain ⟨gr, hgr⟩ : ∃ gr, g + 1 = gr := ⟨_, rfl⟩
  rw [hg] at q0 q1
  rw [hgr] at q1
  have HR := Lib.hid q1
  have HB := Lib.hid b0
  have HGR := Lib.hid (show w.heap.size ≤ gr by omega)
  have hX : PBox w0 g x p := q0
  have c0 := hX.c0
  have c1 := hX.c1
  have hrd := dRead_any x.x.d p.S.1 4 w0 (hp.step b0).st.now.1
  rw [readO, if_pos hd, if_pos (by decide), show Int.toNat 4 = 4 from rfl, hl] at hrd
  unfold dval at hrd
  have HRD := Lib.hid hrd
  simp only [poC, pgZ] at hw0
  clear hp hd hl b0 z0 q0 q1 hX hrd
  go_enter Tryz.func92, Tryz.ntmps92
  go_wp2_with fail
  try rw [hw0]
  try rw [hg]
  try rw [hgr]
  refine HRD.out.mono ?_
  rintro e w1 ⟨v, rfl, ho, b1⟩
  rw [List.length_replicate] at ho
  obtain ⟨gb, cb, rfl, _, _, _, _, _, hh⟩ := bsl_of_own ho (by decide)
  have c7 : w1.cell? ⟨gb, 7, none⟩ = some (.int .u8 0) := by
    have := hh 7 (by simp)
    simpa using this
  replace HR := Lib.hid (HR.out.below b1 HR.out.lt)
  replace HB := Lib.hid (HB.out.trans (b1.mono HB.out.size))
  have m0 := HR.out.cell 0
  have m1 := HR.out.cell 1
  have m2 := HR.out.cell 2
  have m3 := HR.out.cell 3
  have m4 := HR.out.cell 4
  have hfz := fun i => HR.out.frozen i
  have hxs := Blk.set_ (Blk.set_ (Blk.set_ (Blk.set_ (Blk.set_ HR.out 0 (.int .u32 0)) 1 (.int .i64 0)) 2 (.int .i64 0)) 3 (.bool false)) 4 (.slice none 0 0)
  have hgs := only_set5 (World.grownBy.refl w1 (some gr)) (.int .u32 0) (.int .i64 0) (.int .i64 0) (.bool false) (.slice none 0 0)
  unfold set5 at hgs
  obtain ⟨wz, hwz⟩ : ∃ X, ((((w1.setCell ⟨gr, 0, none⟩ (.int .u32 0)).setCell ⟨gr, 1, none⟩ (.int .i64 0)).setCell ⟨gr, 2, none⟩ (.int .i64 0)).setCell ⟨gr, 3, none⟩ (.bool false)).setCell ⟨gr, 4, none⟩ (.slice none 0 0) = X := ⟨_, rfl⟩
  rw [hwz] at hxs hgs
  have HRZ := Lib.hid (show Blk wz gr 148 pgZ from hxs)
  have HBZ := Lib.hid (below_only HB.out HGR.out hgs HB.out.size)
  clear ho hh b1 HRD c0 c1 hw0 hxs hgs
  go_wp2_with fail
  clear m0 m1 m2 m3 m4 hfz hwz
  have e0 : wz.cell? ⟨gr, 0, none⟩ = some (.int .u32 0) := HRZ.out.cell 0
  have e1 : wz.cell? ⟨gr, 1, none⟩ = some (.int .i64 0) := HRZ.out.cell 1
  have e2 : wz.cell? ⟨gr, 2, none⟩ = some (.int .i64 0) := HRZ.out.cell 2
  have e3 : wz.cell? ⟨gr, 3, none⟩ = some (.bool false) := HRZ.out.cell 3
  have e4 : wz.cell? ⟨gr, 4, none⟩ = some (.slice none 0 0) := HRZ.out.cell 4
  refine bodyPost_ret (v := .tuple #[.agg pgZ, .bool false]) (by simp [results, Tryz.f92, go_sem, e0, e1, e2, e3, e4]) rfl ?_
  exact ⟨rfl, by first | exact HBZ.out | (rw [← hg]; exact HBZ.out)⟩
set_option maxHeartbeats 4000000 in
theorem lgLogged_none (L : Nat) (x : PoA) (p : PoN) (w : World) (hp : PoOk L w x p) (hd : MayD p.S.1) (hl : leftD p.S.1 (fun _ => true) 4 = List.replicate 256 0) :
    Calls Tryz.prog 47 #[poV x p] w fun e w' => e = .returned (.tuple #[.slice none 0 0, .int .i64 0]) ∧ Below w.heap.size w w' := by
  obtain ⟨w0, g, hw0, hg, b0, hb⟩ := new_pool w x p
  have HX := Lib.hid hb
  have HB := Lib.hid b0
  have HPG := Lib.hid (lgPageOf_none L x p w0 (hp.step b0) hd hl)
  simp only [poC] at hw0
  clear hp hd hl b0 hb
  go_enter Tryz.func47, Tryz.ntmps47
  go_wp2_with fail
  try rw [hw0]
  try rw [hg]
  go_loopw [2, 3, 4, 9] (fun a b c i wr => a = .slice none 0 0 ∧ b = .int .i64 0 ∧ c = .slice none 0 0 ∧ i = .int .i64 0 ∧ w0 = wr) (fun _ _ _ _ _ => 0)
  case atStart => exact ⟨rfl, rfl, rfl, rfl, rfl⟩
  case round =>
    obtain ⟨rfl, rfl, rfl, rfl, rfl⟩ := hrel
    go_wp2_with (with_reducible refine tx_at_load ?_
                 refine wpList_load_pool rfl (.tmp 1) rfl g x p rfl HX.out ?_)
    refine HPG.out.mono ?_
    rintro e w1 ⟨rfl, b1⟩
    have HB1 := Lib.hid (HB.out.trans (b1.mono HB.out.size))
    clear b1 hw0
    go_wp2_with fail
    refine bodyPost_ret (v := .tuple #[.slice none 0 0, .int .i64 0]) (by simp [results, Tryz.f47, go_sem]) rfl ?_
    exact ⟨rfl, HB1.out.alloc HB1.out.size _⟩
set_option maxHeartbeats 8000000 in
theorem lgReplay_none (L : Nat) (x : PoA) (p : PoN) (w : World) (hp : PoOk L w x p) (hL : L ≤ w.heap.size) (hm : MayN p) (hf : FitN p) (hnil : NilL x) (h0 : p.logged = 0) (hl : leftD p.S.1 (fun _ => true) 4 = List.replicate 256 0) :
    Calls Tryz.prog 23 #[poV x p] w (NewPQ p w) := by
  obtain ⟨w0, hw0, b0, z0, q0, q1⟩ := two_al w (poC x p) poZ 36 36
  obtain ⟨g, hg⟩ : ∃ g, w.heap.size = g := ⟨_, rfl⟩
  obtain ⟨gr, hgr⟩ : ∃ gr, g + 1 = gr := ⟨_, rfl⟩
  rw [hg] at q0 q1
  rw [hgr] at q1
  have HX := Lib.hid (show PBox w0 g x p from q0)
  have HR := Lib.hid q1
  have HB := Lib.hid b0
  have HGE := Lib.hid (show w.heap.size ≤ g by omega)
  have HGR := Lib.hid (show w.heap.size ≤ gr by omega)
  have HNE := Lib.hid (show gr ≠ g by omega)
  have HNIL := Lib.hid hnil
  have HP0 := Lib.hid hp
  have HM := Lib.hid hm
  have HF := Lib.hid hf
  have HL0 := Lib.hid h0
  have HLF := Lib.hid hl
  have HLW := Lib.hid (Nat.le_trans hL b0.size)
  have HCK := Lib.hid (txCheck_yes L x p w0 (hp.step b0) (Nat.le_trans hL b0.size) hm)
  simp only [poC, poZ] at hw0
  clear hp hL hm hf hnil h0 hl b0 z0 q0 q1
  go_enter Tryz.func23, Tryz.ntmps23
  go_wp2_with (with_reducible refine tx_at_load ?_
               try rw [hw0]
               try rw [hg]
               try rw [hgr]
               refine wpList_load_pool rfl (.tmp 1) rfl g x p rfl HX.out ?_)
  refine HCK.out.mono ?_
  rintro e w1 ⟨rfl, b1⟩
  replace HX := Lib.hid (HX.out.bel b1)
  replace HR := Lib.hid (HR.out.below b1 HR.out.lt)
  replace HLW := Lib.hid (Nat.le_trans HLW.out b1.size)
  replace HB := Lib.hid (HB.out.trans (b1.mono HB.out.size))
  have c15 := HX.out.c15
  have HTW := Lib.hid (txTwin_any L x p w1 (HP0.out.step HB.out) HM.out.st.ok HLW.out HF.out HNIL.out)
  clear b1 HCK hw0
  go_wp2_with (with_reducible refine tx_at_load ?_
               refine wpList_load_pool rfl (.tmp 1) rfl g x p rfl HX.out ?_)
  refine HTW.out.mono ?_
  rintro e w2 ⟨y, rfl, hn, b2⟩
  replace HX := Lib.hid (HX.out.bel b2)
  replace HR := Lib.hid (HR.out.below b2 HR.out.lt)
  have HN := Lib.hid (hn.lower HB.out.size)
  replace HB := Lib.hid (HB.out.trans (b2.mono HB.out.size))
  clear hn b2 HTW c15
  go_wp2_with (first
    | (with_reducible refine tx_at_store ?_
       refine wpList_store_pool rfl (.tmp 1) (.tmp 17) rfl g y p rfl rfl (poC x p) HX.out rfl ?_
       intro w3 hrr_ hgz_
       have hkp : Keeps 0 w2 w3 := Keeps.of_box hgz_ HX.out (by decide) (Nat.zero_le _)
       replace HN := Lib.hid (po_stored HN.out HX.out hgz_ hkp)
       replace HR := Lib.hid (HR.out.grown hgz_ (fun e => HNE.out (Option.some.inj e)))
       replace HB := Lib.hid (below_only HB.out HGE.out hgz_ HB.out.size)
       have HY := Lib.hid hrr_
       clear hrr_ hgz_ hkp HX
       skip)
    | (with_reducible refine tx_at_load ?_
       refine wpList_load_pool rfl (.tmp 1) rfl g y p rfl HY.out ?_))
  obtain ⟨nla, nlc, nca, ncc⟩ := HN.out.nil
  have HLG := Lib.hid (lgLogged_none 0 y p w3 HN.out.ok HM.out.st.1 HLF.out)
  refine HLG.out.mono ?_
  rintro e w4 ⟨rfl, b4⟩
  replace HY := Lib.hid (HY.out.bel b4)
  replace HR := Lib.hid (HR.out.below b4 HR.out.lt)
  replace HN := Lib.hid (HN.out.bel b4)
  replace HB := Lib.hid (HB.out.trans (b4.mono HB.out.size))
  clear b4 HLG
  have c15 := HY.out.c15
  have c16 := HY.out.c16
  rw [nca, ncc] at c15
  rw [HL0.out] at c16
  have hfz := fun i => HY.out.frozen i
  have hx1 := Blk.set_ (Blk.set_ HY.out 15 (.slice none 0 0)) 16 (.int .i64 0)
  have hg1 := Wk.stay (g := g) w4 15 (.slice none 0 0)
  have hg2 := Wk.stay (g := g) (w4.setCell ⟨g, 15, none⟩ (.slice none 0 0)) 16 (.int .i64 0)
  have hgg := only_trans hg1 hg2
  obtain ⟨w5, hw5⟩ : ∃ X, (w4.setCell ⟨g, 15, none⟩ (.slice none 0 0)).setCell ⟨g, 16, none⟩ (.int .i64 0) = X := ⟨_, rfl⟩
  rw [hw5] at hx1 hgg
  have HY2 := Lib.hid (show PBox w5 g y p by
    have e : ((poC y p).setIfInBounds 15 (.slice none 0 0)).setIfInBounds 16 (.int .i64 0) = poC y p := by
      simp only [poC, nca, ncc, HL0.out]
      rfl
    rw [e] at hx1
    exact hx1)
  have hkp : Keeps 0 w4 w5 := Keeps.of_box hgg HY.out (by decide) (Nat.zero_le _)
  replace HN := Lib.hid (po_stored HN.out HY.out hgg hkp)
  replace HR := Lib.hid (HR.out.grown hgg (fun e => HNE.out (Option.some.inj e)))
  replace HB := Lib.hid (below_only HB.out HGE.out hgg HB.out.size)
  have d15 := HY2.out.c15
  rw [nca, ncc] at d15
  clear hx1 hg1 hg2 hgg hkp HY
  go_wp2_with fail
  clear c15 c16 hfz hw5
  go_loopw [28] (fun i wr => i = .int .i64 0 ∧ w5 = wr) (fun _ _ => 0)
  case atStart => exact ⟨rfl, rfl⟩
  case round =>
    obtain ⟨rfl, rfl⟩ := hrel
    go_wp2_with (first
      | (with_reducible refine tx_at_load ?_
         refine wpList_load_pool rfl (.tmp 1) rfl g y p rfl HY2.out ?_)
      | (with_reducible refine tx_at_store ?_
         refine wpList_store_pool rfl (.tmp 2) (.tmp 54) rfl gr y p rfl rfl poZ HR.out rfl ?_
         intro w6 hrr_ hgz_
         have HRR := Lib.hid hrr_
         have HGZ := Lib.hid hgz_
         clear hrr_ hgz_
         skip))
    have hkp : Keeps 0 w5 w6 := Keeps.of_box HGZ.out HR.out (by decide) (Nat.zero_le _)
    refine bodyPost_ret (v := .tuple #[poV y p, .int .i64 0]) (by simp [results, Tryz.f23, asAddr, loadPool_run w6 gr y p HRR.out]) rfl ?_
    exact ⟨y, rfl, po_stored HN.out HR.out HGZ.out hkp, by first | exact below_only HB.out HGR.out HGZ.out HB.out.size | (rw [← hg]; exact below_only HB.out HGR.out HGZ.out HB.out.size)⟩
end Go.Proofs.YtafbidhbmfdlkaaGreatDoor
/-
  A pool that is formatted, and opened, as plain lists.
-/
namespace Go.Proofs.YtafbidhbmfdlkaaGreatDoor
open Go Go.RowKit Go.Shelf
set_option maxRecDepth 100000

/-- A pool of another Epoch. -/
@[reducible] def upN (p : PoN) (e : Nat) : PoN := ⟨(p.S.1, p.S.2.1, e, p.S.2.2.2), p.gen, p.root, p.own, p.keys, p.loaded, p.logged, p.nextId, p.nextGuid⟩
/-- A new pool of a side. -/
@[reducible] def sideN (e : Nat) : PoN := ⟨(newS.1, newS.2.1, e, newS.2.2.2), newN.gen, newN.root, newN.own, newN.keys, newN.loaded, newN.logged, newN.nextId, e⟩
theorem side_may {e : Nat} (h : 1 ≤ e ∧ e ≤ 2) : MayN (sideN e) :=
  ⟨⟨newS_may.1, newS_may.2.1, ⟨h.1, by show e ≤ 65535; omega⟩, newS_may.2.2.2⟩, newN_may.gen, newN_may.root, newN_may.own, newN_may.keys, newN_may.loaded, newN_may.logged, newN_may.next⟩
theorem side_fit {e : Nat} : FitN (sideN e) := newN_fit
/-- The root's block of the other side's first sync. -/
def tz3 : TrL := ⟨1, 2, 0, [(12, 1, 0, 0, 1679629062)], (13, 1, 0, 0, 1679629062)⟩
theorem sum_tz3 : sumOf (trunkB tz3) = 3414795990 := by decide +kernel
theorem tz3_may : MayTr tz3 := by
  have h := ptRun_may (k := 12) (b := 1) (s := 1679629062) (by decide) (by decide) (by decide)
  have h' := ptRun_may (k := 13) (b := 1) (s := 1679629062) (by decide) (by decide) (by decide)
  exact ⟨by decide, by decide, by decide, by decide, fun q hq => by rw [List.mem_singleton.1 hq]; exact h, h'⟩
@[reducible] def newS2 : StL := (newS.1, newS.2.1, 2, newS.2.2.2)
theorem newS2_may : MayS newS2 := (side_may (e := 2) (by decide)).st
@[reducible] def st3 : Steps (sideN 2) := stepsN (sideN 2) newS2 12 3414795990 tz3
theorem goes3 : Goes (sideN 2) st3 :=
  goesN (sideN 2) 12 3414795990 tz3 newS2 rfl newS2_may (by decide) (by decide) waits_new rfl rfl rfl tz3_may sum_tz3 (by decide) newS2_may.2.2.1 free_12 free_13 free_14
/-- The pool behind the first sync is that of its label. -/
theorem tab1_used : tab1 = usedN (usedN (usedN (newTo 12) [14] 1) [12] 1) [13] 1 := by decide +kernel
theorem pn1_load : pn1 = loadN pn1.S.1 lb0 1 1 14 12 13 12 13 14 (List.replicate 8 []) := by
  show PoN.mk (pn1.S.1, pn1.S.2.1, _) _ _ _ _ _ _ _ _ = PoN.mk (pn1.S.1, _, _) _ _ _ _ _ _ _ _
  rw [tab_pn1, tab1_used]
  rfl
theorem reads1 : Reads pn1.S.1 lb0 1 1 14 12 13 ((12 : Int), 1, 0, 0, 1679629062) ((13 : Int), 1, 0, 0, 1679629062) (List.replicate 8 []) := by
  have h := run_may (k := 12) (t := tz1) newS_may (by decide) tz1_may waits_new
  have hd := (may_dk3 (birth := 1) (s := 3980906072) h.2.2.1.1).1
  have hl := fun q h1 h2 => left_dk3 newS 1 12 3980906072 q tz1 h1 h2
  have hT : MayT (newTo 12) := new_may
  have h14 := ptRun_may (k := 14) (b := 1) (s := 3980906072) (by decide) (by decide) (by decide)
  have h12 := ptRun_may (k := 12) (b := 1) (s := 1679629062) (by decide) (by decide) (by decide)
  have h13 := ptRun_may (k := 13) (b := 1) (s := 1679629062) (by decide) (by decide) (by decide)
  have he := newS_may.2.2.1
  refine ⟨tz1_may, h14.2.1, h12.2.1, h13.2.1, rfl, rfl, rfl, by decide, by decide, by decide, ?_, ?_, ?_, ?_, ?_⟩
  · exact look_at (k := 14) hd hT he h14.1 h14.2.2 rfl ((hl 14 (by decide) (by decide)).trans (if_pos rfl)) sum_tz1
  · refine look_at (k := 12) hd (set_may hT (by decide) (by decide) 1 (by decide)) he h12.1 h12.2.2 rfl ((hl 12 (by decide) (by decide)).trans ?_) ?_
    · rw [if_neg (by decide), if_neg (by decide), if_pos rfl, linesB_nought]
    · rw [linesB_nought]; exact sum_nought
  · refine look_at (k := 13) hd (set_may (set_may hT (by decide) (by decide) 1 (by decide)) (by decide) (by decide) 1 (by decide)) he h13.1 h13.2.2 rfl ((hl 13 (by decide) (by decide)).trans ?_) ?_
    · rw [if_neg (by decide), if_pos rfl, keysB_nought]
    · rw [keysB_nought]; exact sum_nought
  · rw [keysB_nought]
    decide +kernel
  · rw [keysB_nought]
    exact List.length_replicate ..
theorem pn1_disk : MayD pn1.S.1 := by
  have h := run_may (k := 12) (t := tz1) newS_may (by decide) tz1_may waits_new
  exact (may_dk3 (birth := 1) (s := 3980906072) h.2.2.1.1).1
theorem find1 : findO pn1.S.1 = ([lb0], 0) := by
  have l0 := fun q hq => low_dk3 newS 1 12 3980906072 q tz1 hq (by decide)
  have e0 : leftD pn1.S.1 (fun _ => true) 0 = List.replicate 256 0 := ((l0 0 (by decide)).trans (if_neg (by decide))).trans (low_new 0 (by decide))
  have e1 : leftD pn1.S.1 (fun _ => true) 1 = blockL lb0 := (l0 1 (by decide)).trans (if_pos (by decide))
  have e2 : leftD pn1.S.1 (fun _ => true) 2 = List.replicate 256 0 := ((l0 2 (by decide)).trans (if_neg (by decide))).trans (low_new 2 (by decide))
  have e3 : leftD pn1.S.1 (fun _ => true) 3 = List.replicate 256 0 := ((l0 3 (by decide)).trans (if_neg (by decide))).trans (low_new 3 (by decide))
  have s0 : seenL pn1.S.1 0 = none := by unfold seenL; rw [e0, label_nought]
  have s1 : seenL pn1.S.1 1 = some lb0 := by unfold seenL; rw [e1, labelO_block lb0_may.1 lb0_may.2]; exact if_pos rfl
  have s2 : seenL pn1.S.1 2 = none := by unfold seenL; rw [e2, label_nought]
  have s3 : seenL pn1.S.1 3 = none := by unfold seenL; rw [e3, label_nought]
  unfold findO
  rw [if_pos pn1_disk]
  unfold findL
  have hs : standL (seenL pn1.S.1) 4 = [lb0] := by
    simp only [standL, s0, s1, s2, s3]
    rfl
  rw [hs]
theorem find0 : findO newD = ([], 0) := by
  have s : ∀ q, q < 4 → seenL newD q = none := fun q hq => by unfold seenL; rw [low_new q hq, label_nought]
  unfold findO
  rw [if_pos newD_may]
  unfold findL
  have hs : standL (seenL newD) 4 = [] := by
    simp only [standL, s 0 (by decide), s 1 (by decide), s 2 (by decide), s 3 (by decide)]
  rw [hs]
/-- Its log has nothing. -/
theorem log1 : leftD pn1.S.1 (fun _ => true) 4 = List.replicate 256 0 := by
  refine (left_dk3 newS 1 12 3980906072 4 tz1 (by decide) (by decide)).trans ?_
  rw [if_neg (by decide), if_neg (by decide), if_neg (by decide)]
  show leftD newD (fun _ => true) 4 = _
  rw [left_still_ _ rfl]
  exact newD_get (by decide)
/-- The pool that is opened, ahead of its sync. -/
@[reducible] def po1 : PoN := upN pn1 3
theorem po1_may : MayN po1 := by
  have h := pn1_may
  exact ⟨⟨h.st.1, h.st.2.1, ⟨by decide, by decide⟩, h.st.2.2.2⟩, h.gen, h.root, h.own, h.keys, h.loaded, h.logged, h.next⟩
theorem po1_fit : FitN po1 := ⟨by decide, by decide, trivial, by decide, by decide, by decide, fun s hs => by rw [(List.mem_replicate.1 hs).2]; decide, fun s hs => by rw [(List.mem_replicate.1 hs).2]; decide⟩
def sgo : StL := (sg1.1, sg1.2.1, 3, sg1.2.2.2)
theorem sgo_tab : sgo.2.1 = tab2 := sg1_tab
theorem sgo_may : MayS sgo ∧ sgo.1.2.length < 4000 := by
  have h := sg1_may
  exact ⟨⟨h.1.1, h.1.2.1, ⟨by decide, by decide⟩, h.1.2.2.2⟩, h.2⟩
@[reducible] def sto : Steps po1 := stepsN po1 sgo 15 700181853 tz2
theorem goeso : Goes po1 sto :=
  goesN po1 15 700181853 tz2 sgo rfl sgo_may.1 (by decide) (by decide) sgo_may.2 rfl rfl rfl tz2_may sum_tz2 (by decide) sgo_may.1.2.2.1 (by rw [sgo_tab]; exact free_15) (by rw [sgo_tab]; exact free_16) (by rw [sgo_tab]; exact free_17)
end Go.Proofs.YtafbidhbmfdlkaaGreatDoor
/-
  mount's own functions, over what the layers below answer.
-/
namespace Go.Proofs.YtafbidhbmfdlkaaGreatDoor
open Go Go.RowKit Go.Shelf
set_option maxRecDepth 100000

/-- No pool, and an error. -/
def NoPo (z : Int) (w : World) (e : Ending) (w' : World) : Prop := e = .returned (.tuple #[.agg poZ, .int .i64 z]) ∧ Below w.heap.size w w'
theorem wpList_store_z {ops : Array Oper} {rest : List Oper} {o : Oper} {a : Act} {w : World} {Q : Exit → Act → World → Prop} (hgd : o.guard = none) (x y : Operand) (ho : o.op = .store 36 x y) (g : Nat) (cs : Array Value) (hcs : cs = poZ) (hx : a.eval x = .pointer (some ⟨g, 0, none⟩)) (hy : a.eval y = .agg cs) (old : Array Value) (hb : Blk w g 36 old) (hold : old.size = 19)
    (h : ∀ w', Blk w' g 36 poZ → w.grownBy w' (some g) → wpList Tryz.prog ops Q rest (a.put o.dst undef) w') : wpList Tryz.prog ops Q (o :: rest) a w := by
  subst hcs
  exact wpList_store_row hgd 36 x y ho g poZ hx hy 36 old hb infoPo (by rw [hold]; rfl) (by simp [Value.oneCell']) (h _ hb.setRow (setRow_only w _))
set_option maxHeartbeats 8000000 in
theorem mtFormat_0 (P : PoN) (w : World) (hz : Szs w) (hs : ∀ W y, PoOk 0 W y (sideN 1) → NilL y → Szs W → Calls Tryz.prog 13 #[poV y (sideN 1)] W (NewPQ P W)) : Calls Tryz.prog 6 #[.int .i64 0] w (NewPQ P w) := by
  obtain ⟨w0, gr, hw0, hgr, b0, q0⟩ := new_blk w poZ 36
  have HR := Lib.hid q0
  have HB := Lib.hid b0
  have HZ0 := Lib.hid hz
  have HGR := Lib.hid (show w.heap.size ≤ gr by omega)
  have HS := Lib.hid hs
  have HNW := Lib.hid (txNew_any w0)
  simp only [poZ] at hw0
  clear b0 q0 hs hz
  go_enter Tryz.func6, Tryz.ntmps6
  go_wp2_with fail
  try rw [hw0]
  try rw [hgr]
  refine HNW.out.mono ?_
  rintro e w1 ⟨y, rfl, hn, b1⟩
  replace HR := Lib.hid (HR.out.below b1 HR.out.lt)
  have HN := Lib.hid (hn.lower HB.out.size)
  replace HB := Lib.hid (HB.out.trans (b1.mono HB.out.size))
  have HNL := Lib.hid HR.out.lt
  clear hn b1 HNW
  obtain ⟨w2, g, hw2, hg, b2, q2⟩ := new_blk w1 poZ 36
  replace HR := Lib.hid (HR.out.below b2 HR.out.lt)
  replace HN := Lib.hid (HN.out.bel b2)
  have HGE := Lib.hid (show w.heap.size ≤ g from hg ▸ HB.out.size)
  have HNE := Lib.hid (show gr ≠ g by have := HNL.out; omega)
  replace HB := Lib.hid (HB.out.trans (b2.mono HB.out.size))
  have HQ := Lib.hid q2
  simp only [poZ] at hw2
  clear b2 q2
  go_wp2_with (first
            | (with_reducible refine tx_at_store ?_
               try rw [hw2]
               try rw [hg]
               refine wpList_store_pool rfl (.tmp 4) (.tmp 12) rfl g y newN rfl rfl poZ HQ.out rfl ?_
               intro w3 hrr_ hgz_
               have hkp : Keeps 0 w2 w3 := Keeps.of_box hgz_ HQ.out (by decide) (Nat.zero_le _)
               replace HN := Lib.hid (po_stored HN.out HQ.out hgz_ hkp)
               replace HR := Lib.hid (HR.out.grown hgz_ (fun e => HNE.out (Option.some.inj e)))
               replace HB := Lib.hid (below_only HB.out HGE.out hgz_ HB.out.size)
               have HX := Lib.hid hrr_
               clear hrr_ hgz_ hkp HQ
               have c3 := HX.out.c3
               have c18 := HX.out.c18
               have hfz := fun i => HX.out.frozen i
               have hx1 := Blk.set_ (Blk.set_ HX.out 3 (.int .u32 1)) 18 (.int .u32 1)
               have hg1 := Wk.stay (g := g) w3 3 (.int .u32 1)
               have hg2 := Wk.stay (g := g) (w3.setCell ⟨g, 3, none⟩ (.int .u32 1)) 18 (.int .u32 1)
               have hgg := only_trans hg1 hg2
               obtain ⟨w4, hw4⟩ : ∃ X, (w3.setCell ⟨g, 3, none⟩ (.int .u32 1)).setCell ⟨g, 18, none⟩ (.int .u32 1) = X := ⟨_, rfl⟩
               rw [hw4] at hx1 hgg
               have HY := Lib.hid (show PBox w4 g y (sideN 1) from hx1)
               have hkp : Keeps 0 w3 w4 := Keeps.of_box hgg HX.out (by decide) (Nat.zero_le _)
               replace HN := Lib.hid (po_stored HN.out HX.out hgg hkp)
               have HN2 := Lib.hid (show PoNew w.heap.size w4 y (sideN 1) from ⟨fun W k => HN.out.st W k, HN.out.own, HN.out.keys, HN.out.loaded, HN.out.nil⟩)
               replace HR := Lib.hid (HR.out.grown hgg (fun e => HNE.out (Option.some.inj e)))
               replace HB := Lib.hid (below_only HB.out HGE.out hgg HB.out.size)
               clear hx1 hg1 hg2 hgg hkp HX
               skip)
            | (with_reducible refine tx_at_load ?_
               refine wpList_load_pool rfl (.tmp 4) rfl g y (sideN 1) rfl HY.out ?_))
  clear c3 c18 hfz hw4
  have HC := Lib.hid (HS.out w4 y HN2.out.ok HN2.out.nil (HZ0.out.step HB.out))
  refine HC.out.mono ?_
  rintro e w5 ⟨z, rfl, hn5, b5⟩
  replace HR := Lib.hid (HR.out.below b5 HR.out.lt)
  have HM := Lib.hid (hn5.lower HB.out.size)
  replace HB := Lib.hid (HB.out.trans (b5.mono HB.out.size))
  clear hn5 b5 HC HN HN2 HY
  go_wp2_with (with_reducible refine tx_at_store ?_
               refine wpList_store_pool rfl (.tmp 2) (.tmp 24) rfl gr z P rfl rfl poZ HR.out rfl ?_
               intro w6 hrr_ hgz_
               have HRR := Lib.hid hrr_
               have HGZ := Lib.hid hgz_
               clear hrr_ hgz_
               skip)
  have hkp : Keeps 0 w5 w6 := Keeps.of_box HGZ.out HR.out (by decide) (Nat.zero_le _)
  refine bodyPost_ret (v := .tuple #[poV z P, .int .i64 0]) (by simp [results, Tryz.f6, asAddr, loadPool_run w6 gr z P HRR.out]) rfl ?_
  exact ⟨z, rfl, po_stored HM.out HR.out HGZ.out hkp, below_only HB.out HGR.out HGZ.out HB.out.size⟩
set_option maxHeartbeats 8000000 in
theorem mtFormat_1 (P : PoN) (w : World) (hz : Szs w) (hs : ∀ W y, PoOk 0 W y (sideN 2) → NilL y → Szs W → Calls Tryz.prog 13 #[poV y (sideN 2)] W (NewPQ P W)) : Calls Tryz.prog 6 #[.int .i64 1] w (NewPQ P w) := by
  obtain ⟨w0, gr, hw0, hgr, b0, q0⟩ := new_blk w poZ 36
  have HR := Lib.hid q0
  have HB := Lib.hid b0
  have HZ0 := Lib.hid hz
  have HGR := Lib.hid (show w.heap.size ≤ gr by omega)
  have HS := Lib.hid hs
  have HNW := Lib.hid (txNew_any w0)
  simp only [poZ] at hw0
  clear b0 q0 hs hz
  go_enter Tryz.func6, Tryz.ntmps6
  go_wp2_with fail
  try rw [hw0]
  try rw [hgr]
  refine HNW.out.mono ?_
  rintro e w1 ⟨y, rfl, hn, b1⟩
  replace HR := Lib.hid (HR.out.below b1 HR.out.lt)
  have HN := Lib.hid (hn.lower HB.out.size)
  replace HB := Lib.hid (HB.out.trans (b1.mono HB.out.size))
  have HNL := Lib.hid HR.out.lt
  clear hn b1 HNW
  obtain ⟨w2, g, hw2, hg, b2, q2⟩ := new_blk w1 poZ 36
  replace HR := Lib.hid (HR.out.below b2 HR.out.lt)
  replace HN := Lib.hid (HN.out.bel b2)
  have HGE := Lib.hid (show w.heap.size ≤ g from hg ▸ HB.out.size)
  have HNE := Lib.hid (show gr ≠ g by have := HNL.out; omega)
  replace HB := Lib.hid (HB.out.trans (b2.mono HB.out.size))
  have HQ := Lib.hid q2
  simp only [poZ] at hw2
  clear b2 q2
  go_wp2_with (first
            | (with_reducible refine tx_at_store ?_
               try rw [hw2]
               try rw [hg]
               refine wpList_store_pool rfl (.tmp 4) (.tmp 12) rfl g y newN rfl rfl poZ HQ.out rfl ?_
               intro w3 hrr_ hgz_
               have hkp : Keeps 0 w2 w3 := Keeps.of_box hgz_ HQ.out (by decide) (Nat.zero_le _)
               replace HN := Lib.hid (po_stored HN.out HQ.out hgz_ hkp)
               replace HR := Lib.hid (HR.out.grown hgz_ (fun e => HNE.out (Option.some.inj e)))
               replace HB := Lib.hid (below_only HB.out HGE.out hgz_ HB.out.size)
               have HX := Lib.hid hrr_
               clear hrr_ hgz_ hkp HQ
               have c3 := HX.out.c3
               have c18 := HX.out.c18
               have hfz := fun i => HX.out.frozen i
               have hx1 := Blk.set_ (Blk.set_ HX.out 3 (.int .u32 2)) 18 (.int .u32 2)
               have hg1 := Wk.stay (g := g) w3 3 (.int .u32 2)
               have hg2 := Wk.stay (g := g) (w3.setCell ⟨g, 3, none⟩ (.int .u32 2)) 18 (.int .u32 2)
               have hgg := only_trans hg1 hg2
               obtain ⟨w4, hw4⟩ : ∃ X, (w3.setCell ⟨g, 3, none⟩ (.int .u32 2)).setCell ⟨g, 18, none⟩ (.int .u32 2) = X := ⟨_, rfl⟩
               rw [hw4] at hx1 hgg
               have HY := Lib.hid (show PBox w4 g y (sideN 2) from hx1)
               have hkp : Keeps 0 w3 w4 := Keeps.of_box hgg HX.out (by decide) (Nat.zero_le _)
               replace HN := Lib.hid (po_stored HN.out HX.out hgg hkp)
               have HN2 := Lib.hid (show PoNew w.heap.size w4 y (sideN 2) from ⟨fun W k => HN.out.st W k, HN.out.own, HN.out.keys, HN.out.loaded, HN.out.nil⟩)
               replace HR := Lib.hid (HR.out.grown hgg (fun e => HNE.out (Option.some.inj e)))
               replace HB := Lib.hid (below_only HB.out HGE.out hgg HB.out.size)
               clear hx1 hg1 hg2 hgg hkp HX
               skip)
            | (with_reducible refine tx_at_load ?_
               refine wpList_load_pool rfl (.tmp 4) rfl g y (sideN 2) rfl HY.out ?_))
  clear c3 c18 hfz hw4
  have HC := Lib.hid (HS.out w4 y HN2.out.ok HN2.out.nil (HZ0.out.step HB.out))
  refine HC.out.mono ?_
  rintro e w5 ⟨z, rfl, hn5, b5⟩
  replace HR := Lib.hid (HR.out.below b5 HR.out.lt)
  have HM := Lib.hid (hn5.lower HB.out.size)
  replace HB := Lib.hid (HB.out.trans (b5.mono HB.out.size))
  clear hn5 b5 HC HN HN2 HY
  go_wp2_with (with_reducible refine tx_at_store ?_
               refine wpList_store_pool rfl (.tmp 2) (.tmp 24) rfl gr z P rfl rfl poZ HR.out rfl ?_
               intro w6 hrr_ hgz_
               have HRR := Lib.hid hrr_
               have HGZ := Lib.hid hgz_
               clear hrr_ hgz_
               skip)
  have hkp : Keeps 0 w5 w6 := Keeps.of_box HGZ.out HR.out (by decide) (Nat.zero_le _)
  refine bodyPost_ret (v := .tuple #[poV z P, .int .i64 0]) (by simp [results, Tryz.f6, asAddr, loadPool_run w6 gr z P HRR.out]) rfl ?_
  exact ⟨z, rfl, po_stored HM.out HR.out HGZ.out hkp, below_only HB.out HGR.out HGZ.out HB.out.size⟩
theorem mtFormat_2 (w : World) : Calls Tryz.prog 6 #[.int .i64 2] w (NoPo 2 w) := by
  obtain ⟨w0, gr, hw0, hgr, b0, q0⟩ := new_blk w poZ 36
  have HR := Lib.hid q0
  have HB := Lib.hid b0
  have HGR := Lib.hid (show w.heap.size ≤ gr by omega)
  simp only [poZ] at hw0
  clear b0 q0
  go_enter Tryz.func6, Tryz.ntmps6
  go_wp2_with (with_reducible refine tx_at_store ?_
               try rw [hw0]
               try rw [hgr]
               refine wpList_store_z rfl (.tmp 2) (.tmp 11) rfl gr poZ rfl rfl rfl poZ HR.out rfl ?_
               intro w6 hrr_ hgz_
               have HRR := Lib.hid hrr_
               have HGZ := Lib.hid hgz_
               clear hrr_ hgz_
               skip)
  refine bodyPost_ret (v := .tuple #[.agg poZ, .int .i64 2]) (by simp [results, Tryz.f6, asAddr, run_loadVar_row w6 gr 36 36 poZ (0, 0) _ HRR.out Tryz.underlying36 rfl infoPo]) rfl ?_
  exact ⟨rfl, below_only HB.out HGR.out HGZ.out HB.out.size⟩
end Go.Proofs.YtafbidhbmfdlkaaGreatDoor
/-
  mount's own lasting.
-/
namespace Go.Proofs.YtafbidhbmfdlkaaGreatDoor
open Go Go.RowKit Go.Shelf
set_option maxRecDepth 100000

set_option maxHeartbeats 8000000 in
theorem mtLasting_none (x : DAt) (D : DkL) (w : World) (h : Dsk w w.heap.size x D) (hz : Szs w) (hfi : ∀ W x, Dsk W W.heap.size x D → Szs W → Calls Tryz.prog 21 #[dval x D] W (OutLbs ([], 0) W)) : Calls Tryz.prog 14 #[dval x D] w (NoPo 190 w) := by
  obtain ⟨w0, hw0, b0, z0, q0, q1⟩ := two_al w #[.slice x.ba D.1.length x.bc, .slice x.wa D.2.length x.wc] poZ 25 36
  obtain ⟨gd, hg⟩ : ∃ g, w.heap.size = g := ⟨_, rfl⟩
  obtain ⟨gr, hgr⟩ : ∃ gr, gd + 1 = gr := ⟨_, rfl⟩
  rw [hg] at q0 q1
  rw [hgr] at q1
  have HD := Lib.hid q0
  have HR := Lib.hid q1
  have HB := Lib.hid b0
  have HGR := Lib.hid (show w.heap.size ≤ gr by omega)
  have HDK := Lib.hid h
  have HZ0 := Lib.hid hz
  have c0 := HD.out.cell 0
  have c1 := HD.out.cell 1
  have hfi' := hfi w0 x (h.step b0) (hz.step b0)
  unfold dval at hfi'
  have HFI := Lib.hid hfi'
  clear hfi hfi'
  simp only [poZ] at hw0
  clear h hz b0 z0 q0 q1
  unfold dval
  go_enter Tryz.func14, Tryz.ntmps14
  go_wp2_with fail
  try rw [hw0]
  try rw [hg]
  try rw [hgr]
  refine HFI.out.mono ?_
  rintro e w1 ⟨v, rfl, hl, b1⟩
  obtain ⟨la, lc, rfl, hls⟩ := hl.lbs
  have hl0 : ([] : List Lb).length = 0 := rfl
  rw [hl0]
  replace HR := Lib.hid (HR.out.below b1 HR.out.lt)
  replace HB := Lib.hid (HB.out.trans (b1.mono HB.out.size))
  clear hl hls b1 hl0 c0 c1 hw0
  go_wp2_with fail
  go_loopw [17] (fun i wr => i = .int .i64 0 ∧ w1 = wr) (fun _ _ => 0)
  case atStart => exact ⟨rfl, rfl⟩
  case round =>
    obtain ⟨rfl, rfl⟩ := hrel
    go_wp2_with (first
      | (with_reducible refine tx_at_store ?_
         refine wpList_store_z rfl (.tmp 2) (.tmp 38) rfl gr poZ rfl rfl rfl poZ HR.out rfl ?_
         intro w2 hrr_ hgz_
         have HRR := Lib.hid hrr_
         have HGZ := Lib.hid hgz_
         clear hrr_ hgz_
         skip))
    refine bodyPost_ret (v := .tuple #[.agg poZ, .int .i64 190]) (by simp [results, Tryz.f14, asAddr, run_loadVar_row w2 gr 36 36 poZ (0, 0) _ HRR.out Tryz.underlying36 rfl infoPo]) rfl ?_
    exact ⟨rfl, by first | exact below_only HB.out HGR.out HGZ.out HB.out.size | (rw [← hg]; exact below_only HB.out HGR.out HGZ.out HB.out.size)⟩
set_option maxHeartbeats 16000000 in
theorem mtLasting_ok (x : DAt) (D : DkL) (l : Lb) (Q : PoN) (w : World) (h : Dsk w w.heap.size x D) (hz : Szs w) (hfi : ∀ W x, Dsk W W.heap.size x D → Szs W → Calls Tryz.prog 21 #[dval x D] W (OutLbs ([l], 0) W))
    (hlo : ∀ W x, Dsk W W.heap.size x D → Szs W → Calls Tryz.prog 22 #[dval x D, lbV l] W (NewPQ Q W)) (hre : ∀ W y, PoOk 0 W y Q → NilL y → Calls Tryz.prog 23 #[poV y Q] W (NewPQ Q W)) : Calls Tryz.prog 14 #[dval x D] w (NewPQ Q w) := by
  obtain ⟨w0, hw0, b0, z0, q0, q1⟩ := two_al w #[.slice x.ba D.1.length x.bc, .slice x.wa D.2.length x.wc] poZ 25 36
  obtain ⟨gd, hg⟩ : ∃ g, w.heap.size = g := ⟨_, rfl⟩
  obtain ⟨gr, hgr⟩ : ∃ gr, gd + 1 = gr := ⟨_, rfl⟩
  rw [hg] at q0 q1
  rw [hgr] at q1
  have HD := Lib.hid q0
  have HR := Lib.hid q1
  have HB := Lib.hid b0
  have HGR := Lib.hid (show w.heap.size ≤ gr by omega)
  have HDK := Lib.hid h
  have HZ0 := Lib.hid hz
  have c0 := HD.out.cell 0
  have c1 := HD.out.cell 1
  have hfi' := hfi w0 x (h.step b0) (hz.step b0)
  unfold dval at hfi' hlo
  have HFI := Lib.hid hfi'
  have HLO := Lib.hid hlo
  have HRE := Lib.hid hre
  clear hfi hfi' hlo hre
  simp only [poZ] at hw0
  clear h hz b0 z0 q0 q1
  unfold dval
  go_enter Tryz.func14, Tryz.ntmps14
  go_wp2_with fail
  try rw [hw0]
  try rw [hg]
  try rw [hgr]
  refine HFI.out.mono ?_
  rintro e w1 ⟨v, rfl, hl, b1⟩
  obtain ⟨la, lc, rfl, hls⟩ := hl.lbs
  obtain ⟨lb, lo, rfl, hlb_, hlc⟩ := hls.2.2.2.2 (by show 0 < 1; decide)
  obtain ⟨_, hce⟩ := hlc 0 (by simp)
  have hl1 : [l].length = 1 := rfl
  rw [hl1]
  have l0_ := hce 0 _ rfl
  have l1_ := hce 1 _ rfl
  have l2_ := hce 2 _ rfl
  have l3_ := hce 3 _ rfl
  have l4_ := hce 4 _ rfl
  have l5_ := hce 5 _ rfl
  have l6_ := hce 6 _ rfl
  simp only [List.getElem_cons_zero, Nat.zero_mul, Nat.add_zero] at l0_ l1_ l2_ l3_ l4_ l5_ l6_
  replace HR := Lib.hid (HR.out.below b1 HR.out.lt)
  replace HD := Lib.hid (HD.out.below b1 HD.out.lt)
  replace HB := Lib.hid (HB.out.trans (b1.mono HB.out.size))
  clear hl hls b1 hl1 hlc hce hlb_ c0 c1 hw0
  go_wp2_with fail
  go_loopw [17] (fun i wr => i = .int .i64 0 ∧ w1 = wr) (fun _ _ => 0)
  case atStart => exact ⟨rfl, rfl⟩
  case round =>
    obtain ⟨rfl, rfl⟩ := hrel
    obtain ⟨w2, g7, hn7, hg7, b7, q7⟩ := new_blk w1 (lbA l) 67
    replace HR := Lib.hid (HR.out.below b7 HR.out.lt)
    replace HD := Lib.hid (HD.out.below b7 HD.out.lt)
    replace HB := Lib.hid (HB.out.trans (b7.mono HB.out.size))
    have c0 := HD.out.cell 0
    have c1 := HD.out.cell 1
    have m0 : w2.cell? ⟨g7, 0, none⟩ = some (.int .u32 (l.1 : Int)) := q7.cell 0
    have m1 : w2.cell? ⟨g7, 1, none⟩ = some (.int .u32 (l.2.1 : Int)) := q7.cell 1
    have m2 : w2.cell? ⟨g7, 2, none⟩ = some (.int .i64 l.2.2.1) := q7.cell 2
    have m3 : w2.cell? ⟨g7, 3, none⟩ = some (.int .u32 (l.2.2.2.1 : Int)) := q7.cell 3
    have m4 : w2.cell? ⟨g7, 4, none⟩ = some (.int .u32 (l.2.2.2.2.1 : Int)) := q7.cell 4
    have m5 : w2.cell? ⟨g7, 5, none⟩ = some (.int .u32 (l.2.2.2.2.2.1 : Int)) := q7.cell 5
    have m6 : w2.cell? ⟨g7, 6, none⟩ = some (.int .u32 (l.2.2.2.2.2.2 : Int)) := q7.cell 6
    simp only [lbA] at hn7
    clear b7 q7
    go_wp2_with fail
    try rw [hn7]
    try rw [hg7]
    clear hn7 hg7 m0 m1 m2 m3 m4 m5 m6 l0_ l1_ l2_ l3_ l4_ l5_ l6_
    have HC := Lib.hid (HLO.out w2 x (HDK.out.step HB.out) (HZ0.out.step HB.out))
    refine HC.out.mono ?_
    rintro e w3 ⟨y, rfl, hn_, b_⟩
    replace HR := Lib.hid (HR.out.below b_ HR.out.lt)
    replace HD := Lib.hid (HD.out.below b_ HD.out.lt)
    have HN := Lib.hid (hn_.lower HB.out.size)
    replace HB := Lib.hid (HB.out.trans (b_.mono HB.out.size))
    clear hn_ b_ HC
    try clear c0 c1
    obtain ⟨w4, g8, hn_, hg_, b_, q_⟩ := new_blk w3 poZ 36
    have HLTHX := Lib.hid (show g8 = w3.heap.size from hg_.symm)
    have HGEHX := Lib.hid (show w.heap.size ≤ g8 from hg_ ▸ HB.out.size)
    have HNEHX := Lib.hid (show gr ≠ g8 by have := HR.out.lt; omega)
    have HNDHX := Lib.hid (show gd ≠ g8 by have := HD.out.lt; omega)
    replace HR := Lib.hid (HR.out.below b_ HR.out.lt)
    replace HD := Lib.hid (HD.out.below b_ HD.out.lt)
    replace HN := Lib.hid (HN.out.bel b_)
    replace HB := Lib.hid (HB.out.trans (b_.mono HB.out.size))
    have HXZ := Lib.hid q_
    simp only [poZ] at hn_
    clear b_ q_
    go_wp2_with (first
      | (with_reducible refine tx_at_store ?_
         try rw [hn_]
         try rw [hg_]
         refine wpList_store_pool rfl (.tmp 8) (.tmp 25) rfl g8 y Q rfl rfl poZ HXZ.out rfl ?_
         intro w5 hrr_ hgz_
         have hkp : Keeps 0 w4 w5 := Keeps.of_box hgz_ HXZ.out (by decide) (Nat.zero_le _)
         replace HN := Lib.hid (po_stored HN.out HXZ.out hgz_ hkp)
         replace HR := Lib.hid (HR.out.grown hgz_ (fun e => HNEHX.out (Option.some.inj e)))
         replace HD := Lib.hid (HD.out.grown hgz_ (fun e => HNDHX.out (Option.some.inj e)))
         replace HB := Lib.hid (below_only HB.out HGEHX.out hgz_ HB.out.size)
         have HX := Lib.hid hrr_
         clear hrr_ hgz_ hkp
         skip)
      | (with_reducible refine tx_at_load ?_
         refine wpList_load_pool rfl (.tmp 8) rfl g8 y Q rfl HX.out ?_))
    try clear hn_ hg_
    have HKX := Lib.hid (HX.out.lt)
    have HC := Lib.hid (HRE.out w5 y HN.out.ok HN.out.nil)
    refine HC.out.mono ?_
    rintro e w6 ⟨y2, rfl, hn_, b_⟩
    replace HR := Lib.hid (HR.out.below b_ HR.out.lt)
    replace HD := Lib.hid (HD.out.below b_ HD.out.lt)
    have HM := Lib.hid (hn_.lower HB.out.size)
    replace HX := Lib.hid (HX.out.bel b_)
    replace HB := Lib.hid (HB.out.trans (b_.mono HB.out.size))
    clear hn_ b_ HC
    go_wp2_with (first
      | (with_reducible refine tx_at_store ?_
         refine wpList_store_pool rfl (.tmp 8) (.tmp 32) rfl g8 y2 Q rfl rfl (poC y Q) HX.out rfl ?_
         intro w7 hrr_ hgz_
         have hkp : Keeps 0 w6 w7 := Keeps.of_box hgz_ HX.out (by decide) (Nat.zero_le _)
         replace HM := Lib.hid (po_stored HM.out HX.out hgz_ hkp)
         replace HR := Lib.hid (HR.out.grown hgz_ (fun e => HNEHX.out (Option.some.inj e)))
         replace HD := Lib.hid (HD.out.grown hgz_ (fun e => HNDHX.out (Option.some.inj e)))
         replace HB := Lib.hid (below_only HB.out HGEHX.out hgz_ HB.out.size)
         have HX2 := Lib.hid hrr_
         clear hrr_ hgz_ hkp
         skip)
      | (with_reducible refine tx_at_load ?_
         refine wpList_load_pool rfl (.tmp 8) rfl g8 y2 Q rfl HX2.out ?_)
      | (with_reducible refine tx_at_store ?_
         refine wpList_store_pool rfl (.tmp 2) (.tmp 36) rfl gr y2 Q rfl rfl poZ HR.out rfl ?_
         intro w8 hrr_ hgz_
         have HRR := Lib.hid hrr_
         have HGZ := Lib.hid hgz_
         clear hrr_ hgz_
         skip))
    have hkp : Keeps 0 w7 w8 := Keeps.of_box HGZ.out HR.out (by decide) (Nat.zero_le _)
    refine bodyPost_ret (v := .tuple #[poV y2 Q, .int .i64 0]) (by simp [results, Tryz.f14, asAddr, loadPool_run w8 gr y2 Q HRR.out]) rfl ?_
    exact ⟨y2, rfl, po_stored HM.out HR.out HGZ.out hkp, by first | exact below_only HB.out HGR.out HGZ.out HB.out.size | (rw [← hg]; exact below_only HB.out HGR.out HGZ.out HB.out.size)⟩
end Go.Proofs.YtafbidhbmfdlkaaGreatDoor
/-
  mount's own opened and Open.
-/
namespace Go.Proofs.YtafbidhbmfdlkaaGreatDoor
open Go Go.RowKit Go.Shelf
set_option maxRecDepth 100000

set_option maxHeartbeats 8000000 in
theorem mtOpened_bad (x : DAt) (D : DkL) (w : World) (h : Dsk w w.heap.size x D) (hz : Szs w) : Calls Tryz.prog 8 #[dval x D, .int .i64 8] w (NoPo 8 w) := by
  obtain ⟨w0, hw0, b0, z0, q0, q1⟩ := two_al w #[.slice x.ba D.1.length x.bc, .slice x.wa D.2.length x.wc] poZ 25 36
  obtain ⟨gd, hg⟩ : ∃ g, w.heap.size = g := ⟨_, rfl⟩
  obtain ⟨gr, hgr⟩ : ∃ gr, gd + 1 = gr := ⟨_, rfl⟩
  rw [hg] at q0 q1
  rw [hgr] at q1
  have HD := Lib.hid q0
  have HR := Lib.hid q1
  have HB := Lib.hid b0
  have HGR := Lib.hid (show w.heap.size ≤ gr by omega)
  have HDK := Lib.hid h
  have HZ0 := Lib.hid hz
  have c0 := HD.out.cell 0
  have c1 := HD.out.cell 1
  simp only [poZ] at hw0
  clear h hz b0 z0 q0 q1
  unfold dval
  go_enter Tryz.func8, Tryz.ntmps8
  go_wp2_with (first
    | (with_reducible refine tx_at_store ?_
       try rw [hw0]
       try rw [hg]
       try rw [hgr]
       refine wpList_store_z rfl (.tmp 4) (.tmp 9) rfl gr poZ rfl rfl rfl poZ HR.out rfl ?_
       intro w2 hrr_ hgz_
       have HRR := Lib.hid hrr_
       have HGZ := Lib.hid hgz_
       clear hrr_ hgz_
       skip))
  refine bodyPost_ret (v := .tuple #[.agg poZ, .int .i64 8]) (by simp [results, Tryz.f8, asAddr, run_loadVar_row w2 gr 36 36 poZ (0, 0) _ HRR.out Tryz.underlying36 rfl infoPo]) rfl ?_
  exact ⟨rfl, by first | exact below_only HB.out HGR.out HGZ.out HB.out.size | (rw [← hg]; exact below_only HB.out HGR.out HGZ.out HB.out.size)⟩
set_option maxHeartbeats 8000000 in
theorem mtOpened_none (x : DAt) (D : DkL) (w : World) (h : Dsk w w.heap.size x D) (hz : Szs w) (hla : ∀ W x, Dsk W W.heap.size x D → Szs W → Calls Tryz.prog 14 #[dval x D] W (NoPo 190 W)) : Calls Tryz.prog 8 #[dval x D, .int .i64 0] w (NoPo 190 w) := by
  obtain ⟨w0, hw0, b0, z0, q0, q1⟩ := two_al w #[.slice x.ba D.1.length x.bc, .slice x.wa D.2.length x.wc] poZ 25 36
  obtain ⟨gd, hg⟩ : ∃ g, w.heap.size = g := ⟨_, rfl⟩
  obtain ⟨gr, hgr⟩ : ∃ gr, gd + 1 = gr := ⟨_, rfl⟩
  rw [hg] at q0 q1
  rw [hgr] at q1
  have HD := Lib.hid q0
  have HR := Lib.hid q1
  have HB := Lib.hid b0
  have HGR := Lib.hid (show w.heap.size ≤ gr by omega)
  have HDK := Lib.hid h
  have HZ0 := Lib.hid hz
  have c0 := HD.out.cell 0
  have c1 := HD.out.cell 1
  unfold dval at hla
  have HLA := Lib.hid hla
  clear hla
  simp only [poZ] at hw0
  clear h hz b0 z0 q0 q1
  unfold dval
  go_enter Tryz.func8, Tryz.ntmps8
  go_wp2_with fail
  try rw [hw0]
  try rw [hg]
  try rw [hgr]
  have HC := Lib.hid (HLA.out w0 x (HDK.out.step HB.out) (HZ0.out.step HB.out))
  refine HC.out.mono ?_
  rintro e w1 ⟨rfl, b_⟩
  replace HR := Lib.hid (HR.out.below b_ HR.out.lt)
  replace HD := Lib.hid (HD.out.below b_ HD.out.lt)
  replace HB := Lib.hid (HB.out.trans (b_.mono HB.out.size))
  clear b_ HC
  clear c0 c1 hw0
  obtain ⟨w2, g6, hn_, hg_, b_, q_⟩ := new_blk w1 poZ 36
  have HLTHX := Lib.hid (show g6 = w1.heap.size from hg_.symm)
  have HGEHX := Lib.hid (show w.heap.size ≤ g6 from hg_ ▸ HB.out.size)
  have HNEHX := Lib.hid (show gr ≠ g6 by have := HR.out.lt; omega)
  have HNDHX := Lib.hid (show gd ≠ g6 by have := HD.out.lt; omega)
  replace HR := Lib.hid (HR.out.below b_ HR.out.lt)
  replace HD := Lib.hid (HD.out.below b_ HD.out.lt)
  skip
  replace HB := Lib.hid (HB.out.trans (b_.mono HB.out.size))
  have HXZ := Lib.hid q_
  simp only [poZ] at hn_
  clear b_ q_
  go_wp2_with (first
    | (with_reducible refine tx_at_store ?_
       try rw [hn_]
       try rw [hg_]
       refine wpList_store_z rfl (.tmp 6) (.tmp 14) rfl g6 poZ rfl rfl rfl poZ HXZ.out rfl ?_
       intro w3 hrr_ hgz_
       have hkp : Keeps 0 w2 w3 := Keeps.of_box hgz_ HXZ.out (by decide) (Nat.zero_le _)
       replace HR := Lib.hid (HR.out.grown hgz_ (fun e => HNEHX.out (Option.some.inj e)))
       replace HD := Lib.hid (HD.out.grown hgz_ (fun e => HNDHX.out (Option.some.inj e)))
       replace HB := Lib.hid (below_only HB.out HGEHX.out hgz_ HB.out.size)
       have HX := Lib.hid hrr_
       clear hrr_ hgz_ hkp
       skip)
    | (with_reducible refine tx_at_store ?_
       refine wpList_store_z rfl (.tmp 4) (.tmp 18) rfl gr poZ rfl rfl rfl poZ HR.out rfl ?_
       intro w4 hrr_ hgz_
       have HRR := Lib.hid hrr_
       have HGZ := Lib.hid hgz_
       clear hrr_ hgz_
       skip))
  refine bodyPost_ret (v := .tuple #[.agg poZ, .int .i64 190]) (by simp [results, Tryz.f8, asAddr, run_loadVar_row w4 gr 36 36 poZ (0, 0) _ HRR.out Tryz.underlying36 rfl infoPo]) rfl ?_
  exact ⟨rfl, by first | exact below_only HB.out HGR.out HGZ.out HB.out.size | (rw [← hg]; exact below_only HB.out HGR.out HGZ.out HB.out.size)⟩
set_option maxHeartbeats 16000000 in
theorem mtOpened_ok (x : DAt) (D : DkL) (Q R : PoN) (w : World) (h : Dsk w w.heap.size x D) (hz : Szs w) (hla : ∀ W x, Dsk W W.heap.size x D → Szs W → Calls Tryz.prog 14 #[dval x D] W (NewPQ Q W)) (he : Q.S.2.2.1 = 1)
    (hsy : ∀ W y, PoOk 0 W y (upN Q 3) → NilL y → Szs W → Calls Tryz.prog 13 #[poV y (upN Q 3)] W (NewPQ R W)) : Calls Tryz.prog 8 #[dval x D, .int .i64 0] w (NewPQ R w) := by
  obtain ⟨w0, hw0, b0, z0, q0, q1⟩ := two_al w #[.slice x.ba D.1.length x.bc, .slice x.wa D.2.length x.wc] poZ 25 36
  obtain ⟨gd, hg⟩ : ∃ g, w.heap.size = g := ⟨_, rfl⟩
  obtain ⟨gr, hgr⟩ : ∃ gr, gd + 1 = gr := ⟨_, rfl⟩
  rw [hg] at q0 q1
  rw [hgr] at q1
  have HD := Lib.hid q0
  have HR := Lib.hid q1
  have HB := Lib.hid b0
  have HGR := Lib.hid (show w.heap.size ≤ gr by omega)
  have HDK := Lib.hid h
  have HZ0 := Lib.hid hz
  have c0 := HD.out.cell 0
  have c1 := HD.out.cell 1
  unfold dval at hla
  have HLA := Lib.hid hla
  have HSY := Lib.hid hsy
  have HE := Lib.hid he
  clear hla hsy he
  simp only [poZ] at hw0
  clear h hz b0 z0 q0 q1
  unfold dval
  go_enter Tryz.func8, Tryz.ntmps8
  go_wp2_with fail
  try rw [hw0]
  try rw [hg]
  try rw [hgr]
  have HC := Lib.hid (HLA.out w0 x (HDK.out.step HB.out) (HZ0.out.step HB.out))
  refine HC.out.mono ?_
  rintro e w1 ⟨y, rfl, hn_, b_⟩
  replace HR := Lib.hid (HR.out.below b_ HR.out.lt)
  replace HD := Lib.hid (HD.out.below b_ HD.out.lt)
  have HN := Lib.hid (hn_.lower HB.out.size)
  replace HB := Lib.hid (HB.out.trans (b_.mono HB.out.size))
  clear hn_ b_ HC
  clear c0 c1 hw0
  obtain ⟨w2, g, hn_, hg_, b_, q_⟩ := new_blk w1 poZ 36
  have HLTHX := Lib.hid (show g = w1.heap.size from hg_.symm)
  have HGEHX := Lib.hid (show w.heap.size ≤ g from hg_ ▸ HB.out.size)
  have HNEHX := Lib.hid (show gr ≠ g by have := HR.out.lt; omega)
  have HNDHX := Lib.hid (show gd ≠ g by have := HD.out.lt; omega)
  replace HR := Lib.hid (HR.out.below b_ HR.out.lt)
  replace HD := Lib.hid (HD.out.below b_ HD.out.lt)
  replace HN := Lib.hid (HN.out.bel b_)
  replace HB := Lib.hid (HB.out.trans (b_.mono HB.out.size))
  have HXZ := Lib.hid q_
  simp only [poZ] at hn_
  clear b_ q_
  go_wp2_with (first
    | (with_reducible refine tx_at_store ?_
       try rw [hn_]
       try rw [hg_]
       refine wpList_store_pool rfl (.tmp 6) (.tmp 14) rfl g y Q rfl rfl poZ HXZ.out rfl ?_
       intro w3 hrr_ hgz_
       have hkp : Keeps 0 w2 w3 := Keeps.of_box hgz_ HXZ.out (by decide) (Nat.zero_le _)
       replace HN := Lib.hid (po_stored HN.out HXZ.out hgz_ hkp)
       replace HR := Lib.hid (HR.out.grown hgz_ (fun e => HNEHX.out (Option.some.inj e)))
       replace HD := Lib.hid (HD.out.grown hgz_ (fun e => HNDHX.out (Option.some.inj e)))
       replace HB := Lib.hid (below_only HB.out HGEHX.out hgz_ HB.out.size)
       have HX := Lib.hid hrr_
       clear hrr_ hgz_ hkp
       have c3 := HX.out.c3
       rw [HE.out] at c3
       have hfz := fun i => HX.out.frozen i
       have hx1 := Blk.set_ HX.out 3 (.int .u32 3)
       have hgg := Wk.stay (g := g) w3 3 (.int .u32 3)
       obtain ⟨w4, hw4⟩ : ∃ X, w3.setCell ⟨g, 3, none⟩ (.int .u32 3) = X := ⟨_, rfl⟩
       rw [hw4] at hx1 hgg
       have HY := Lib.hid (show PBox w4 g y (upN Q 3) from hx1)
       have hkp : Keeps 0 w3 w4 := Keeps.of_box hgg HX.out (by decide) (Nat.zero_le _)
       replace HN := Lib.hid (po_stored HN.out HX.out hgg hkp)
       have HN2 := Lib.hid (show PoNew w.heap.size w4 y (upN Q 3) from ⟨fun W k => HN.out.st W k, HN.out.own, HN.out.keys, HN.out.loaded, HN.out.nil⟩)
       replace HR := Lib.hid (HR.out.grown hgg (fun e => HNEHX.out (Option.some.inj e)))
       replace HD := Lib.hid (HD.out.grown hgg (fun e => HNDHX.out (Option.some.inj e)))
       replace HB := Lib.hid (below_only HB.out HGEHX.out hgg HB.out.size)
       clear hx1 hgg hkp HX
       skip)
    | (with_reducible refine tx_at_load ?_
       refine wpList_load_pool rfl (.tmp 6) rfl g y (upN Q 3) rfl HY.out ?_))
  clear c3 hfz hw4
  try clear hn_ hg_
  have HC := Lib.hid (HSY.out w4 y HN2.out.ok HN2.out.nil (HZ0.out.step HB.out))
  refine HC.out.mono ?_
  rintro e w5 ⟨z, rfl, hn_, b_⟩
  replace HR := Lib.hid (HR.out.below b_ HR.out.lt)
  replace HD := Lib.hid (HD.out.below b_ HD.out.lt)
  have HM := Lib.hid (hn_.lower HB.out.size)
  replace HB := Lib.hid (HB.out.trans (b_.mono HB.out.size))
  clear hn_ b_ HC
  clear HN HN2 HY
  go_wp2_with (first
    | (with_reducible refine tx_at_store ?_
       refine wpList_store_pool rfl (.tmp 4) (.tmp 33) rfl gr z R rfl rfl poZ HR.out rfl ?_
       intro w6 hrr_ hgz_
       have HRR := Lib.hid hrr_
       have HGZ := Lib.hid hgz_
       clear hrr_ hgz_
       skip))
  have hkp : Keeps 0 w5 w6 := Keeps.of_box HGZ.out HR.out (by decide) (Nat.zero_le _)
  refine bodyPost_ret (v := .tuple #[poV z R, .int .i64 0]) (by simp [results, Tryz.f8, asAddr, loadPool_run w6 gr z R HRR.out]) rfl ?_
  exact ⟨z, rfl, po_stored HM.out HR.out HGZ.out hkp, by first | exact below_only HB.out HGR.out HGZ.out HB.out.size | (rw [← hg]; exact below_only HB.out HGR.out HGZ.out HB.out.size)⟩
set_option maxHeartbeats 8000000 in
theorem mtOpen_ok (x : DAt) (D : DkL) (R : PoN) (w : World) (h : Dsk w w.heap.size x D) (hz : Szs w) (hop : ∀ W x, Dsk W W.heap.size x D → Szs W → Calls Tryz.prog 8 #[dval x D, .int .i64 (checkO D)] W (NewPQ R W)) : Calls Tryz.prog 4 #[dval x D] w (NewPQ R w) := by
  have hmx : Tryz.prog.follows Departure.mixedOrders = true := by kernel_rfl
  obtain ⟨w0, hw0, b0, z0, q0, q1⟩ := two_al w #[.slice x.ba D.1.length x.bc, .slice x.wa D.2.length x.wc] poZ 25 36
  obtain ⟨gd, hg⟩ : ∃ g, w.heap.size = g := ⟨_, rfl⟩
  obtain ⟨gr, hgr⟩ : ∃ gr, gd + 1 = gr := ⟨_, rfl⟩
  rw [hg] at q0 q1
  rw [hgr] at q1
  have HD := Lib.hid q0
  have HR := Lib.hid q1
  have HB := Lib.hid b0
  have HGR := Lib.hid (show w.heap.size ≤ gr by omega)
  have HDK := Lib.hid h
  have HZ0 := Lib.hid hz
  have c0 := HD.out.cell 0
  have c1 := HD.out.cell 1
  have HOP := Lib.hid hop
  clear hop
  simp only [poZ] at hw0
  clear h hz b0 z0 q0 q1
  unfold dval
  go_enter Tryz.func4, Tryz.ntmps4
  go_wp2_with fail
  try rw [hw0]
  try rw [hg]
  try rw [hgr]
  obtain ⟨wd, hwd⟩ : ∃ wd, w0.drew = wd := ⟨_, rfl⟩
  have bq : Below w0.heap.size w0 wd := by rw [← hwd]; exact (Below.refl _ w0).drew
  replace HR := Lib.hid (HR.out.below bq HR.out.lt)
  replace HD := Lib.hid (HD.out.below bq HD.out.lt)
  replace HB := Lib.hid (HB.out.trans (bq.mono HB.out.size))
  have hS : Blk wd gd 25 #[.slice x.ba D.1.length x.bc, .slice x.wa D.2.length x.wc] := HD.out
  refine wpI_start (fun X => Blk X gd 25 #[.slice x.ba D.1.length x.bc, .slice x.wa D.2.length x.wc]) [0, 1, 2, 3, 4, 5, 6, 7] hmx rfl hwd ?_
  clear hwd bq c0 c1 hw0
  iterate 2 (
    refine wpI_read (v := ?_) hS rfl (by kernel_rfl) (by kernel_rfl) (by kernel_rfl) (fun _ _ _ h => h) (.inl ⟨by rfl, ?_⟩) ?_
    rotate_left
    · intro X hX
      have j0 := hX.cell 0
      have j1 := hX.cell 1
      clear hX
      go_simp
      with_reducible rfl
    try simp only [Act.put, List.setIfInBounds_toArray, List.set_cons_zero, List.set_cons_succ])
  have HC := Lib.hid (dCheck_any x D wd (HDK.out.step HB.out))
  refine wpI_lone rfl (by kernel_rfl) (fun K hK => ?_)
  go_simp
  refine HC.out.mono ?_
  rintro ev w1 ⟨rfl, b_⟩
  replace HR := Lib.hid (HR.out.below b_ HR.out.lt)
  replace HD := Lib.hid (HD.out.below b_ HD.out.lt)
  replace HB := Lib.hid (HB.out.trans (b_.mono HB.out.size))
  refine hK _ _ HD.out ?_
  clear hK K b_ HC hS
  try simp only [Act.put, List.setIfInBounds_toArray, List.set_cons_zero, List.set_cons_succ]
  have HC := Lib.hid (HOP.out w1 x (HDK.out.step HB.out) (HZ0.out.step HB.out))
  refine wpI_lone rfl (by kernel_rfl) (fun K hK => ?_)
  go_simp
  refine HC.out.mono ?_
  rintro ev w2 ⟨y, rfl, hn_, b_⟩
  replace HR := Lib.hid (HR.out.below b_ HR.out.lt)
  replace HD := Lib.hid (HD.out.below b_ HD.out.lt)
  have HN := Lib.hid (hn_.lower HB.out.size)
  clear hn_
  replace HB := Lib.hid (HB.out.trans (b_.mono HB.out.size))
  refine hK _ _ HD.out ?_
  clear hK K b_ HC
  try simp only [Act.put, List.setIfInBounds_toArray, List.set_cons_zero, List.set_cons_succ]
  iterate 2 (
    refine wpI_read (v := ?_) HD.out rfl (by kernel_rfl) (by kernel_rfl) (by kernel_rfl) (fun _ _ _ h => h) (.inl ⟨by rfl, ?_⟩) ?_
    rotate_left
    · intro X hX
      clear hX
      go_simp
      with_reducible rfl
    try simp only [Act.put, List.setIfInBounds_toArray, List.set_cons_zero, List.set_cons_succ])
  refine wpI_lone rfl (by kernel_rfl) (fun K hK => ?_)
  rw [if_pos (by simp [Region.wanted])]
  refine wp_store_row 36 (.tmp 2) (.tmp 8) rfl gr (poC y R) rfl rfl 36 poZ HR.out infoPo rfl (by simp [Value.oneCell']) ?_
  have hgz := setRow_only (g := gr) w2 (poC y R)
  have hrr := Blk.setRow (cs := (poC y R)) HR.out
  obtain ⟨wz, hwz⟩ : ∃ X, w2.setRow gr (poC y R) = X := ⟨_, rfl⟩
  rw [hwz] at hgz hrr ⊢
  have HRR := Lib.hid hrr
  have HGZ := Lib.hid hgz
  have hS2 := HD.out.grown hgz (fun e => blk_ne HD.out HR.out (by decide) (Option.some.inj e))
  refine hK _ _ hS2 ?_
  clear hK K hgz hrr hwz
  try simp only [Act.put]
  iterate 1 (
    refine wpI_read (v := ?_) hS2 rfl (by kernel_rfl) (by kernel_rfl) (by kernel_rfl) (fun _ _ _ h => h) (.inl ⟨by rfl, ?_⟩) ?_
    rotate_left
    · intro X hX
      clear hX
      go_simp
      with_reducible rfl
    try simp only [Act.put, List.setIfInBounds_toArray, List.set_cons_zero, List.set_cons_succ])
  refine wpI_done (by kernel_rfl) ?_
  go_wp2_with fail
  have hkp : Keeps 0 w2 wz := Keeps.of_box HGZ.out HR.out (by decide) (Nat.zero_le _)
  replace HRR := Lib.hid (show PBox wz gr y R from HRR.out)
  refine bodyPost_ret (v := .tuple #[poV y R, .int .i64 0]) (by simp [results, Tryz.f4, asAddr, loadPool_run wz gr y R HRR.out]) rfl ?_
  exact ⟨y, rfl, po_stored HN.out HR.out HGZ.out hkp, by first | exact below_only HB.out HGR.out HGZ.out HB.out.size | (rw [← hg]; exact below_only HB.out HGR.out HGZ.out HB.out.size)⟩
set_option maxHeartbeats 8000000 in
theorem mtOpen_no (x : DAt) (D : DkL) (z : Int) (w : World) (h : Dsk w w.heap.size x D) (hz : Szs w) (hop : ∀ W x, Dsk W W.heap.size x D → Szs W → Calls Tryz.prog 8 #[dval x D, .int .i64 (checkO D)] W (NoPo z W)) : Calls Tryz.prog 4 #[dval x D] w (NoPo z w) := by
  have hmx : Tryz.prog.follows Departure.mixedOrders = true := by kernel_rfl
  obtain ⟨w0, hw0, b0, z0, q0, q1⟩ := two_al w #[.slice x.ba D.1.length x.bc, .slice x.wa D.2.length x.wc] poZ 25 36
  obtain ⟨gd, hg⟩ : ∃ g, w.heap.size = g := ⟨_, rfl⟩
  obtain ⟨gr, hgr⟩ : ∃ gr, gd + 1 = gr := ⟨_, rfl⟩
  rw [hg] at q0 q1
  rw [hgr] at q1
  have HD := Lib.hid q0
  have HR := Lib.hid q1
  have HB := Lib.hid b0
  have HGR := Lib.hid (show w.heap.size ≤ gr by omega)
  have HDK := Lib.hid h
  have HZ0 := Lib.hid hz
  have c0 := HD.out.cell 0
  have c1 := HD.out.cell 1
  have HOP := Lib.hid hop
  clear hop
  simp only [poZ] at hw0
  clear h hz b0 z0 q0 q1
  unfold dval
  go_enter Tryz.func4, Tryz.ntmps4
  go_wp2_with fail
  try rw [hw0]
  try rw [hg]
  try rw [hgr]
  obtain ⟨wd, hwd⟩ : ∃ wd, w0.drew = wd := ⟨_, rfl⟩
  have bq : Below w0.heap.size w0 wd := by rw [← hwd]; exact (Below.refl _ w0).drew
  replace HR := Lib.hid (HR.out.below bq HR.out.lt)
  replace HD := Lib.hid (HD.out.below bq HD.out.lt)
  replace HB := Lib.hid (HB.out.trans (bq.mono HB.out.size))
  have hS : Blk wd gd 25 #[.slice x.ba D.1.length x.bc, .slice x.wa D.2.length x.wc] := HD.out
  refine wpI_start (fun X => Blk X gd 25 #[.slice x.ba D.1.length x.bc, .slice x.wa D.2.length x.wc]) [0, 1, 2, 3, 4, 5, 6, 7] hmx rfl hwd ?_
  clear hwd bq c0 c1 hw0
  iterate 2 (
    refine wpI_read (v := ?_) hS rfl (by kernel_rfl) (by kernel_rfl) (by kernel_rfl) (fun _ _ _ h => h) (.inl ⟨by rfl, ?_⟩) ?_
    rotate_left
    · intro X hX
      have j0 := hX.cell 0
      have j1 := hX.cell 1
      clear hX
      go_simp
      with_reducible rfl
    try simp only [Act.put, List.setIfInBounds_toArray, List.set_cons_zero, List.set_cons_succ])
  have HC := Lib.hid (dCheck_any x D wd (HDK.out.step HB.out))
  refine wpI_lone rfl (by kernel_rfl) (fun K hK => ?_)
  go_simp
  refine HC.out.mono ?_
  rintro ev w1 ⟨rfl, b_⟩
  replace HR := Lib.hid (HR.out.below b_ HR.out.lt)
  replace HD := Lib.hid (HD.out.below b_ HD.out.lt)
  replace HB := Lib.hid (HB.out.trans (b_.mono HB.out.size))
  refine hK _ _ HD.out ?_
  clear hK K b_ HC hS
  try simp only [Act.put, List.setIfInBounds_toArray, List.set_cons_zero, List.set_cons_succ]
  have HC := Lib.hid (HOP.out w1 x (HDK.out.step HB.out) (HZ0.out.step HB.out))
  refine wpI_lone rfl (by kernel_rfl) (fun K hK => ?_)
  go_simp
  refine HC.out.mono ?_
  rintro ev w2 ⟨rfl, b_⟩
  replace HR := Lib.hid (HR.out.below b_ HR.out.lt)
  replace HD := Lib.hid (HD.out.below b_ HD.out.lt)
  skip
  replace HB := Lib.hid (HB.out.trans (b_.mono HB.out.size))
  refine hK _ _ HD.out ?_
  clear hK K b_ HC
  try simp only [Act.put, List.setIfInBounds_toArray, List.set_cons_zero, List.set_cons_succ]
  iterate 2 (
    refine wpI_read (v := ?_) HD.out rfl (by kernel_rfl) (by kernel_rfl) (by kernel_rfl) (fun _ _ _ h => h) (.inl ⟨by rfl, ?_⟩) ?_
    rotate_left
    · intro X hX
      clear hX
      go_simp
      with_reducible rfl
    try simp only [Act.put, List.setIfInBounds_toArray, List.set_cons_zero, List.set_cons_succ])
  refine wpI_lone rfl (by kernel_rfl) (fun K hK => ?_)
  rw [if_pos (by simp [Region.wanted])]
  refine wp_store_row 36 (.tmp 2) (.tmp 8) rfl gr poZ rfl rfl 36 poZ HR.out infoPo rfl (by simp [Value.oneCell']) ?_
  have hgz := setRow_only (g := gr) w2 poZ
  have hrr := Blk.setRow (cs := poZ) HR.out
  obtain ⟨wz, hwz⟩ : ∃ X, w2.setRow gr poZ = X := ⟨_, rfl⟩
  rw [hwz] at hgz hrr ⊢
  have HRR := Lib.hid hrr
  have HGZ := Lib.hid hgz
  have hS2 := HD.out.grown hgz (fun e => blk_ne HD.out HR.out (by decide) (Option.some.inj e))
  refine hK _ _ hS2 ?_
  clear hK K hgz hrr hwz
  try simp only [Act.put]
  iterate 1 (
    refine wpI_read (v := ?_) hS2 rfl (by kernel_rfl) (by kernel_rfl) (by kernel_rfl) (fun _ _ _ h => h) (.inl ⟨by rfl, ?_⟩) ?_
    rotate_left
    · intro X hX
      clear hX
      go_simp
      with_reducible rfl
    try simp only [Act.put, List.setIfInBounds_toArray, List.set_cons_zero, List.set_cons_succ])
  refine wpI_done (by kernel_rfl) ?_
  go_wp2_with fail
  refine bodyPost_ret (v := .tuple #[.agg poZ, .int .i64 z]) (by simp [results, Tryz.f4, asAddr, run_loadVar_row wz gr 36 36 poZ (0, 0) _ HRR.out Tryz.underlying36 rfl infoPo]) rfl ?_
  exact ⟨rfl, by first | exact below_only HB.out HGR.out HGZ.out HB.out.size | (rw [← hg]; exact below_only HB.out HGR.out HGZ.out HB.out.size)⟩
end Go.Proofs.YtafbidhbmfdlkaaGreatDoor
/-
  What mount's calls answer on new disks, behind names; law 19's alive.
-/
namespace Go.Proofs.YtafbidhbmfdlkaaGreatDoor
open Go Go.RowKit Go.Shelf
set_option maxRecDepth 100000

structure MtLine (P R P2 : PoN) : Prop where
  gen : P.gen = 1
  ep : P.S.2.2.1 = 1
  genR : R.gen = 2
  epR : R.S.2.2.1 = 3
  ep2 : P2.S.2.2.1 = 2
  f0 : ∀ W, Szs W → Calls Tryz.prog 6 #[.int .i64 0] W (NewPQ P W)
  f1 : ∀ W, Szs W → Calls Tryz.prog 6 #[.int .i64 1] W (NewPQ P2 W)
  f2 : ∀ W, Calls Tryz.prog 6 #[.int .i64 2] W (NoPo 2 W)
  op : ∀ W x, Dsk W W.heap.size x P.S.1 → Szs W → Calls Tryz.prog 4 #[dval x P.S.1] W (NewPQ R W)
  new : ∀ W, Calls Tryz.prog 5 #[] W fun e W' => ∃ v, e = .returned v ∧ Below W.heap.size W W' ∧ (Szs W' → Calls Tryz.prog 4 #[v] W' (NoPo 190 W'))
  none : ∀ W, Szs W → Calls Tryz.prog 4 #[.agg #[.slice none 0 0, .slice none 0 0]] W (NoPo 8 W)
theorem dsk0 (W : World) : Dsk W W.heap.size ⟨none, 0, none, 0⟩ (([], []) : DkL) := (st0_lasts 0 W).now.1
theorem mtLine : ∃ P R P2, MtLine P R P2 := by
  have hsy : ∀ W y, PoOk 0 W y (sideN 1) → NilL y → Szs W → Calls Tryz.prog 13 #[poV y (sideN 1)] W (NewPQ pn1 W) := fun W y h hn hz => (txSync_ok 0 y newN W st1 goes1 h (Nat.zero_le _) newN_may (by decide) newN_fit hn hz).mono fun _ _ => NewPE.q
  have hsy2 : ∀ W y, PoOk 0 W y (sideN 2) → NilL y → Szs W → Calls Tryz.prog 13 #[poV y (sideN 2)] W (NewPQ st3.out W) := fun W y h hn hz => (txSync_ok 0 y (sideN 2) W st3 goes3 h (Nat.zero_le _) (side_may (by decide)) (by decide) side_fit hn hz).mono fun _ _ => NewPE.q
  have hsyo : ∀ W y, PoOk 0 W y po1 → NilL y → Szs W → Calls Tryz.prog 13 #[poV y po1] W (NewPQ sto.out W) := fun W y h hn hz => (txSync_ok 0 y po1 W sto goeso h (Nat.zero_le _) po1_may (by decide) po1_fit hn hz).mono fun _ _ => NewPE.q
  have hfi : ∀ W x, Dsk W W.heap.size x pn1.S.1 → Szs W → Calls Tryz.prog 21 #[dval x pn1.S.1] W (OutLbs ([lb0], 0) W) := fun W x h hz => by
    have h1 := lFind_any x pn1.S.1 W h hz
    rw [find1] at h1
    exact h1
  have hfi0 : ∀ W x, Dsk W W.heap.size x newD → Szs W → Calls Tryz.prog 21 #[dval x newD] W (OutLbs ([], 0) W) := fun W x h hz => by
    have h1 := lFind_any x newD W h hz
    rw [find0] at h1
    exact h1
  have hlo : ∀ W x, Dsk W W.heap.size x pn1.S.1 → Szs W → Calls Tryz.prog 22 #[dval x pn1.S.1, lbV lb0] W (NewPQ pn1 W) := fun W x h hz => by
    have hm := pn1_may
    rw [pn1_load] at hm
    have h1 := txLoad_ok x pn1.S.1 lb0 W h (may_fits pn1_disk) pn1_disk lb0_may.1 hz 1 1 14 12 13 _ _ _ reads1 12 13 14 ⟨by decide, by decide⟩ hm
    rw [← pn1_load] at h1
    exact h1.mono fun _ _ => NewPE.q
  have hre : ∀ W y, PoOk 0 W y pn1 → NilL y → Calls Tryz.prog 23 #[poV y pn1] W (NewPQ pn1 W) := fun W y h hn => lgReplay_none 0 y pn1 W h (Nat.zero_le _) pn1_may pn1_fit hn rfl log1
  have hla : ∀ W x, Dsk W W.heap.size x pn1.S.1 → Szs W → Calls Tryz.prog 14 #[dval x pn1.S.1] W (NewPQ pn1 W) := fun W x h hz => mtLasting_ok x pn1.S.1 lb0 pn1 W h hz hfi hlo hre
  have hla0 : ∀ W x, Dsk W W.heap.size x newD → Szs W → Calls Tryz.prog 14 #[dval x newD] W (NoPo 190 W) := fun W x h hz => mtLasting_none x newD W h hz hfi0
  refine ⟨pn1, sto.out, st3.out, ⟨rfl, rfl, rfl, rfl, rfl, fun W hz => mtFormat_0 pn1 W hz hsy, fun W hz => mtFormat_1 st3.out W hz hsy2, mtFormat_2, fun W x h hz => ?_, fun W => ?_, fun W hz => ?_⟩⟩
  · refine mtOpen_ok x pn1.S.1 sto.out W h hz fun W x h hz => ?_
    rw [checkO, if_pos pn1_disk]
    exact mtOpened_ok x pn1.S.1 pn1 sto.out W h hz hla rfl hsyo
  · refine (dNew_any W).mono ?_
    rintro e W' ⟨x', rfl, hl, hb⟩
    refine ⟨_, rfl, hb, fun hz => mtOpen_no x' newD 190 W' hl.dsk hz fun W x h hz => ?_⟩
    rw [checkO, if_pos newD_may]
    exact mtOpened_none x newD W h hz hla0
  · refine mtOpen_no ⟨none, 0, none, 0⟩ (([], []) : DkL) 8 W (dsk0 W) hz fun W x h hz => ?_
    rw [checkO, if_neg (show ¬ MayD (([], []) : DkL) from fun h => absurd h.1 (by decide))]
    exact mtOpened_bad x ([], []) W h hz
set_option maxHeartbeats 8000000 in
theorem mtAlive_any (w : World) (hz : Szs w) : Calls Tryz.prog 7 #[] w fun e w' => e = .returned (.bool true) ∧ Below w.heap.size w w' := by
  obtain ⟨P, R, P2, hln⟩ := mtLine
  have HLN := Lib.hid hln
  have HZ0 := Lib.hid hz
  have HB := Lib.hid (Below.refl w.heap.size w)
  clear hln
  go_enter Tryz.func7, Tryz.ntmps7
  have HC := Lib.hid (HLN.out.f0 w hz)
  clear hz
  go_wp2_with fail
  refine HC.out.mono ?_
  rintro e w1 ⟨y, rfl, hn1, b1⟩
  have HN := Lib.hid hn1
  replace HB := Lib.hid (HB.out.trans (b1.mono HB.out.size))
  clear HC hn1 b1
  obtain ⟨w2, g, hn_, hg_, b_, q_⟩ := new_blk w1 poZ 36
  have HGEHX := Lib.hid (show w.heap.size ≤ g from hg_ ▸ HB.out.size)
  have HLTHX := Lib.hid (show g = w1.heap.size from hg_.symm)
  replace HB := Lib.hid (HB.out.trans (b_.mono HB.out.size))
  have HXZ := Lib.hid q_
  simp only [poZ] at hn_
  replace HN := Lib.hid (HN.out.bel b_)
  clear b_ q_
  go_wp2_with (first
    | (with_reducible refine tx_at_store ?_
       try rw [hn_]
       try rw [hg_]
       refine wpList_store_pool rfl (.tmp 1) (.tmp 7) rfl g y P rfl rfl poZ HXZ.out rfl ?_
       intro w3 hrr_ hgz_
       have hkp : Keeps 0 w2 w3 := Keeps.of_box hgz_ HXZ.out (by decide) (Nat.zero_le _)
       replace HN := Lib.hid (po_stored HN.out HXZ.out hgz_ hkp)
       replace HB := Lib.hid (below_only HB.out HGEHX.out hgz_ HB.out.size)
       have HX := Lib.hid hrr_
       clear hrr_ hgz_ hkp
       have c0 := HX.out.c0
       have c1 := HX.out.c1
       skip))
  clear hn_ hg_
  have hop := HLN.out.op w3 y.x.d HN.out.st.now.1 (HZ0.out.step HB.out)
  unfold dval at hop
  have HC := Lib.hid hop
  clear hop
  refine HC.out.mono ?_
  rintro e w4 ⟨z, rfl, hn4, b4⟩
  have HQHX := Lib.hid HX.out.lt
  replace HX := Lib.hid (HX.out.bel b4)
  replace HB := Lib.hid (HB.out.trans (b4.mono HB.out.size))
  clear HC hn4 HN c0 c1
  have HQHX := Lib.hid HX.out.lt
  clear b4
  obtain ⟨w5, g2, hn_, hg_, b_, q_⟩ := new_blk w4 poZ 36
  have HGEHY := Lib.hid (show w.heap.size ≤ g2 from hg_ ▸ HB.out.size)
  have HLTHY := Lib.hid (show g2 = w4.heap.size from hg_.symm)
  replace HB := Lib.hid (HB.out.trans (b_.mono HB.out.size))
  have HYZ := Lib.hid q_
  simp only [poZ] at hn_
  replace HX := Lib.hid (HX.out.bel b_)
  clear b_ q_
  go_wp2_with (first
    | (with_reducible refine tx_at_store ?_
       try rw [hn_]
       try rw [hg_]
       refine wpList_store_pool rfl (.tmp 3) (.tmp 14) rfl g2 z R rfl rfl poZ HYZ.out rfl ?_
       intro w6 hrr_ hgz_
       have hkp : Keeps 0 w5 w6 := Keeps.of_box hgz_ HYZ.out (by decide) (Nat.zero_le _)
       replace HX := Lib.hid (show PBox _ _ _ _ from Blk.grown HX.out hgz_ (fun e => by have h1 := HQHX.out; have h2 := HLTHY.out; have h3 := Option.some.inj e; omega))
       replace HB := Lib.hid (below_only HB.out HGEHY.out hgz_ HB.out.size)
       have HY := Lib.hid hrr_
       clear hrr_ hgz_ hkp
       have c5 := HX.out.c5
       have c3 := HX.out.c3
       have d5 := HY.out.c5
       have d3 := HY.out.c3
       rw [HLN.out.gen] at c5
       rw [HLN.out.ep] at c3
       rw [HLN.out.genR] at d5
       rw [HLN.out.epR] at d3
       skip))
  go_ret
  exact ⟨rfl, HB.out⟩
end Go.Proofs.YtafbidhbmfdlkaaGreatDoor
/-
  What the program's sizes are where they lie as they were laid.
-/
namespace Go.Proofs.YtafbidhbmfdlkaaGreatDoor
open Go.RowKit Go.Shelf Go.Joins Go.ChangeShapes Go.WideShapes Go.ChangeAt
set_option maxRecDepth 100000

theorem gSizes : Tryz.prog.globalNamed "charterhouse/ptr.sizes" = some 0 := by kernel_rfl
theorem tSizes : (Tryz.prog.globals[0]?).map (·.type) = some 253 := by kernel_rfl
/-- The door's own heap meets the condition: closed facts. -/
theorem door_met (os : Os) (args : Array Value) : laidMetH Tryz.prog [("charterhouse/ptr.sizes", Rows.laid_charterhouse_ptr_sizes)] ((World.doorLaid Tryz.prog 400 os).forCall (fun _ _ => 0) ⟨#[], args, []⟩).memory :=
  laidMetH_of_parts3 (fuel := 8) (laidMet_of_run' 8 (by kernel_rfl) (by kernel_rfl)) (by kernel_rfl) (by kernel_rfl)
theorem szs_of_laid {W : World} (h : laidMetH Tryz.prog [("charterhouse/ptr.sizes", Rows.laid_charterhouse_ptr_sizes)] W) : Szs W := by
  rw [MakeChecks.laidMetH_plain _ _ _ (by kernel_rfl)] at h
  obtain ⟨ps, ⟨g0, t0, cs0, f0, q0, r0, hg0, ht0, hv0, hd0, _⟩, _⟩ := h
  obtain rfl := Option.some.inj (gSizes.symm.trans hg0)
  obtain rfl := Option.some.inj (tSizes.symm.trans ht0)
  obtain ⟨xs, m1, rfl, hx1, hlen, hn5, hel⟩ := DataW.trod_array Tryz.underlying253 hd0
  have c3 : Tryz.prog.cellsOf 3 = 1 := by kernel_rfl
  simp only [Prod.mk.injEq, Rows.laid_charterhouse_ptr_sizes, DataW.agg.injEq] at hx1
  have one : ∀ (i : Nat) (x : DataW Unit × List MemPlace) (n : Int), i < 5 → xs[i]? = some x → x.1 = .lit (.int .i64 n) → W.cell? ⟨0, i, none⟩ = some (.int .i64 n) := fun i x n hi hx hn => by
    have h0 := hel i hi
    rw [hx, c3, Nat.mul_one] at h0
    obtain ⟨k, e1, e2, _⟩ := DataW.trod_int Tryz.underlying3 h0
    have hk : k = n := by rw [e2] at hn; simpa using hn
    subst hk
    have hv := World.var?_cell hg0 hv0 i
    have e3 : (cs0.toList.drop i)[0]? = some (.int .i64 k) := by
      have : ((cs0.toList.drop i).take 1)[0]? = some (.int .i64 k) := by rw [e1]; rfl
      rwa [List.getElem?_take_of_lt (by omega)] at this
    rw [List.getElem?_drop, Nat.add_zero, Array.getElem?_toList] at e3
    rw [← e3]
    exact hv
  match xs, hn5, hx1, one with
  | [x0, x1, x2, x3, x4], _, hx1, one =>
    simp only [List.map_cons, List.map_nil, List.cons.injEq] at hx1
    have d0 := one 0 x0 1 (by omega) rfl hx1.1.1.symm
    exact ⟨World.block_lt_of_cell? W _ d0, d0, one 1 x1 3 (by omega) rfl hx1.1.2.1.symm, one 2 x2 4 (by omega) rfl hx1.1.2.2.1.symm, one 3 x3 4 (by omega) rfl hx1.1.2.2.2.1.symm, one 4 x4 4 (by omega) rfl hx1.1.2.2.2.2.1.symm⟩

end Go.Proofs.YtafbidhbmfdlkaaGreatDoor
