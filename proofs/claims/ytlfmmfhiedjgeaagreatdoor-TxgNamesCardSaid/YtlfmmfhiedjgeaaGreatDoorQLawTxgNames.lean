/-
  TxgNamesSaid: the limits and errors have their numbers, and the chapter's examples are so. No condition but the tied one: ptr.sizes reads as its own initialiser says.
-/
import Derived.Test.YtlfmmfhiedjgeaaGreatDoorRows
import Derived.Test.YtlfmmfhiedjgeaaGreatDoorPkTN6
namespace Go.Proofs.YtlfmmfhiedjgeaaGreatDoor
open Go Go.RowKit Go.Shelf
set_option maxRecDepth 100000

theorem txCheck_none (w : World) : Calls Tryz.prog 10 #[.agg poZ] w fun e w' => e = .returned (.int .i64 8) ∧ Below w.heap.size w w' :=
  txCheck_st 0 ⟨at0, none, 0, none, 0, none, 0, none, 0, none, 0⟩ ⟨st0, 0, p0, [], [], [], 0, 0, 0⟩ w (st0_lasts 0 w) (Nat.zero_le _) (fun h => absurd h.2.2.1.1 (by decide))
theorem field_st (x : PoA) (p : PoN) (X : World) : (Instr.field 37 (poV x p) 0).run Tryz.prog X = .ok (stV x.x p.S) X := by kernel_rfl
theorem field_dk (x : SAt) (S : StL) (X : World) : (Instr.field 30 (stV x S) 0).run Tryz.prog X = .ok (dval x.d S.1) X := by kernel_rfl
theorem exec_loadLb {ev : Operand → Value} {o : Oper} {y : Operand} {X : World} {b f : Nat} {l : Lb} (ho : o.op = .load 47 y) (hx : ev y = .pointer (some ⟨b, f, none⟩)) (hc : ∀ j u, (lbC l)[j]? = some u → X.cell? ⟨b, f + j, none⟩ = some u) : (execOp ev o).run Tryz.prog X = .ok (.value (lbV l)) X := by
  unfold execOp
  have h0 := hc 0 _ rfl
  have h1 := hc 1 _ rfl
  have h2 := hc 2 _ rfl
  have h3 := hc 3 _ rfl
  have h4 := hc 4 _ rfl
  have h5 := hc 5 _ rfl
  have h6 := hc 6 _ rfl
  rw [Nat.add_zero] at h0
  simp only [ho, hx]
  go_simp
set_option linter.unusedSimpArgs false in
set_option maxHeartbeats 16000000 in
theorem txgNames_walk (w : World) (hz : Szs w) : Calls Tryz.prog 3 #[] w fun e w' => e = .returned (.bool true) ∧ Below w.heap.size w w' := by
  have hmx : Tryz.prog.follows Departure.mixedOrders = true := by kernel_rfl
  obtain ⟨N, P, Q, l, m, hln⟩ := txLine
  have HLN := Lib.hid hln
  have HZ := Lib.hid hz
  have HZ0 := Lib.hid hz
  have HB := Lib.hid (Below.refl w.heap.size w)
  clear hz hln
  go_enter Tryz.func3, Tryz.ntmps3
  have HC := Lib.hid (txAlive_any w HZ.out)
  go_wp2_with fail
  refine HC.out.mono ?_
  rintro ev w1 ⟨rfl, b1⟩
  clear HC
  replace HB := Lib.hid (HB.out.trans (b1.mono HB.out.size))
  replace HZ := Lib.hid (HZ.out.step b1)
  clear b1
  have HC := Lib.hid (HLN.out.new w1)
  go_wp2_with fail
  refine HC.out.mono ?_
  rintro ev w2 ⟨y0, rfl, n2, b2⟩
  clear HC
  replace HB := Lib.hid (HB.out.trans (b2.mono HB.out.size))
  replace HZ := Lib.hid (HZ.out.step b2)
  have HN := Lib.hid n2
  clear n2
  clear b2
  have HC := Lib.hid (HLN.out.s1 w2 y0 HN.out.ok HN.out.nil HZ.out)
  go_wp2_with fail
  refine HC.out.mono ?_
  rintro ev w3 ⟨y, rfl, n3, b3⟩
  clear HC
  replace HB := Lib.hid (HB.out.trans (b3.mono HB.out.size))
  replace HZ := Lib.hid (HZ.out.step b3)
  replace HN := Lib.hid (HN.out.bel b3)
  have HP := Lib.hid n3
  clear n3 HN
  clear b3
  obtain ⟨w4n, gp, hz1, hz2, bz, qz⟩ := new_blk w3 poZ 37
  have HLTHX1 := Lib.hid (show gp = w3.heap.size from hz2.symm)
  have HLHX1 := Lib.hid (show w.heap.size ≤ gp by have := HB.out.size; omega)
  replace HB := Lib.hid (HB.out.trans (bz.mono HB.out.size))
  replace HZ := Lib.hid (HZ.out.step bz)
  replace HP := Lib.hid (HP.out.bel bz)
  have HX1Z := Lib.hid qz
  simp only [poZ] at hz1
  clear bz qz
  go_wp2_with (first
    | (with_reducible refine tx_at_store ?_
       try rw [hz1]
       try rw [hz2]
       refine wpList_store_pool rfl (.tmp 1) (.tmp 16) rfl gp y P rfl rfl poZ HX1Z.out rfl ?_
       intro w4 hrr_ hgz_
       have HX1 := Lib.hid hrr_
       have HGZ := Lib.hid hgz_
       clear hrr_ hgz_
       have HKP := Lib.hid (show Keeps 0 w4n w4 from Keeps.of_box HGZ.out HX1Z.out (by decide) (Nat.zero_le _))
       replace HB := Lib.hid (below_only HB.out HLHX1.out HGZ.out HB.out.size)
       replace HZ := Lib.hid (HZ0.out.step HB.out)
       replace HP := Lib.hid (po_stored HP.out HX1Z.out HGZ.out HKP.out)
       skip)
    | (with_reducible refine tx_at_load ?_
       refine wpList_load_pool rfl (.tmp 1) rfl gp y P rfl HX1.out ?_))
  clear HX1Z HGZ HKP HLTHX1
  try clear hz1 hz2
  have HC := Lib.hid (HLN.out.s2 w4 y HP.out.ok HP.out.nil HZ.out)
  refine HC.out.mono ?_
  rintro ev w5 ⟨y2, rfl, n5, b5⟩
  clear HC HX1 HP
  replace HB := Lib.hid (HB.out.trans (b5.mono HB.out.size))
  replace HZ := Lib.hid (HZ.out.step b5)
  have HQ := Lib.hid n5
  clear b5 n5
  obtain ⟨w6n, gq, hz1, hz2, bz, qz⟩ := new_blk w5 poZ 37
  have HLTHX2 := Lib.hid (show gq = w5.heap.size from hz2.symm)
  have HLHX2 := Lib.hid (show w.heap.size ≤ gq by have := HB.out.size; omega)
  replace HB := Lib.hid (HB.out.trans (bz.mono HB.out.size))
  replace HZ := Lib.hid (HZ.out.step bz)
  replace HQ := Lib.hid (HQ.out.bel bz)
  have HX2Z := Lib.hid qz
  simp only [poZ] at hz1
  clear bz qz
  go_wp2_with (first
    | (with_reducible refine tx_at_store ?_
       try rw [hz1]
       try rw [hz2]
       refine wpList_store_pool rfl (.tmp 3) (.tmp 21) rfl gq y2 Q rfl rfl poZ HX2Z.out rfl ?_
       intro w6 hrr_ hgz_
       have HX2 := Lib.hid hrr_
       have HGZ := Lib.hid hgz_
       clear hrr_ hgz_
       have HKP := Lib.hid (show Keeps 0 w6n w6 from Keeps.of_box HGZ.out HX2Z.out (by decide) (Nat.zero_le _))
       replace HB := Lib.hid (below_only HB.out HLHX2.out HGZ.out HB.out.size)
       replace HZ := Lib.hid (HZ0.out.step HB.out)
       replace HQ := Lib.hid (po_stored HQ.out HX2Z.out HGZ.out HKP.out)
       have j0 := HX2.out.c0
       have j1 := HX2.out.c1
       skip))
  clear HX2Z HGZ HKP HLTHX2
  try clear hz1 hz2
  have hc := HLN.out.find w6 y2.x.d HQ.out.st.now.1 HZ.out
  simp only [dval] at hc
  have HC := Lib.hid hc
  clear hc
  refine HC.out.mono ?_
  rintro ev w7 ⟨v7, rfl, hl7, b7⟩
  clear HC j0 j1
  replace HB := Lib.hid (HB.out.trans (b7.mono HB.out.size))
  replace HZ := Lib.hid (HZ.out.step b7)
  replace HQ := Lib.hid (HQ.out.bel b7)
  replace HX2 := Lib.hid (HX2.out.bel b7)
  obtain ⟨la, lc, rfl, hla⟩ := hl7.lbs
  obtain ⟨lb, lo, rfl, _⟩ := hla.cells 0 (by simp)
  have HL := Lib.hid (hl7.mono (Nat.zero_le _))
  have hlen : [l, m].length = 2 := rfl
  rw [hlen] at HL ⊢
  clear b7 hl7 hla hlen
  have c11 := HX2.out.c11
  rw [HLN.out.ownQ] at c11
  have d11 : w7.cell? ⟨gq, 11, none⟩ = some (.slice y2.ma 3 y2.mc) := c11
  clear c11
  go_wp2_with fail
  clear d11
  obtain ⟨wd, hwd⟩ : ∃ wd, w7.drew = wd := ⟨_, rfl⟩
  have bq : Below w7.heap.size w7 wd := by rw [← hwd]; exact (Below.refl _ w7).drew
  replace HB := Lib.hid (HB.out.trans (bq.mono HB.out.size))
  replace HZ := Lib.hid (HZ.out.step bq)
  replace HQ := Lib.hid (HQ.out.bel bq)
  replace HX2 := Lib.hid (HX2.out.bel bq)
  replace HL := Lib.hid (HL.out.below bq)
  clear bq
  have HB1 := Lib.hid HB.out
  replace HB := Lib.hid (Below.refl wd.heap.size wd)
  refine wpI_start (Below wd.heap.size wd) [0, 1, 2, 3, 4, 5, 10, 6, 7, 8, 9, 11, 12] hmx rfl hwd ?_
  clear hwd
  iterate 6 (
    refine wpI_read (v := ?_) HB.out rfl (by kernel_rfl) (by kernel_rfl) (by kernel_rfl) (fun _ _ _ h => h) (.inl ⟨by rfl, ?_⟩) ?_
    rotate_left
    · intro X hX
      have j0 := (Blk.below HX2.out hX HX2.out.lt).cell 0
      have j1 := (Blk.below HX2.out hX HX2.out.lt).cell 1
      obtain ⟨_, _, el, hlb⟩ := (HL.out.below hX).lbs
      cases el
      obtain ⟨_, _, el, _, _, l0_, l1_, l2_, l3_, l4_, l5_, l6_⟩ := hlb.cells 0 (by simp)
      cases el
      simp only [Nat.zero_mul, Nat.add_zero, Nat.add_assoc, Nat.reduceAdd] at l0_ l1_ l2_ l3_ l4_ l5_ l6_
      clear hlb
      clear hX
      go_simp
      with_reducible rfl
    try simp only [Act.put, List.setIfInBounds_toArray, List.set_cons_zero, List.set_cons_succ])
  refine wpI_turn [6, 10, 7, 8, 9, 11, 12] rfl ?_
  refine wpI_fork rfl rfl (by kernel_rfl) (fun K hK => ?_) (fun K hK => ?_)
  go_simp
  have hc := HLN.out.load wd y2.x.d HQ.out.st.now.1 HZ.out
  simp only [dval] at hc
  have HC := Lib.hid hc
  clear hc
  refine HC.out.mono ?_
  rintro ev v1 ⟨y3, rfl, n8, b9⟩
  replace HB := Lib.hid (HB.out.trans (b9.mono HB.out.size))
  replace HZ := Lib.hid (HZ.out.step b9)
  replace HQ := Lib.hid (HQ.out.bel b9)
  replace HX2 := Lib.hid (HX2.out.bel b9)
  replace HL := Lib.hid (HL.out.below b9)
  have HR := Lib.hid n8
  clear n8
  refine hK _ _ HB.out ?_
  clear hK K b9 HC
  try simp only [Act.put, List.setIfInBounds_toArray, List.set_cons_zero, List.set_cons_succ]
  refine wpI_turn [7, 8, 9, 10, 11, 12] rfl ?_
  iterate 3 (
    refine wpI_read (v := ?_) HB.out rfl (by kernel_rfl) (by kernel_rfl) (by kernel_rfl) (fun _ _ _ h => h) (.inl ⟨by rfl, ?_⟩) ?_
    rotate_left
    · intro X hX
      clear hX
      go_simp
      with_reducible rfl
    try simp only [Act.put, List.setIfInBounds_toArray, List.set_cons_zero, List.set_cons_succ])
  refine wpI_turn [10, 11, 12] rfl ?_
  refine wpI_lone rfl (by kernel_rfl) (fun K hK => ?_)
  go_simp
  obtain ⟨v2, gr, hn, hg, bq, xq⟩ := new_box v1 #[.slice none 0 0, .slice none 0 0, .slice none 0 0, .int .u32 0, .int .u32 0, .int .u32 0, .int .i64 0, .int .u32 0, .int .u32 0, .int .u32 0, .int .u32 0, .slice none 0 0, .slice none 0 0, .slice none 0 0, .slice none 0 0, .slice none 0 0, .int .i64 0, .int .i64 0, .int .u32 0] 37
  have HLHX3 := Lib.hid (show wd.heap.size ≤ gr from hg ▸ HB.out.size)
  rw [hn, hg]
  have HQHX2_HX3 := Lib.hid (show gq ≠ gr by have := HX2.out.lt; omega)
  replace HB := Lib.hid (HB.out.trans (bq.mono HB.out.size))
  replace HZ := Lib.hid (HZ.out.step bq)
  replace HQ := Lib.hid (HQ.out.bel bq)
  replace HX2 := Lib.hid (HX2.out.bel bq)
  replace HL := Lib.hid (HL.out.below bq)
  replace HR := Lib.hid (HR.out.bel bq)
  have HX3Z := Lib.hid xq
  refine hK _ _ HB.out ?_
  clear hK K hn hg xq bq
  try simp only [Act.put, List.setIfInBounds_toArray, List.set_cons_zero, List.set_cons_succ]
  rotate_left
  go_simp
  obtain ⟨v1, gr, hn, hg, bq, xq⟩ := new_box wd #[.slice none 0 0, .slice none 0 0, .slice none 0 0, .int .u32 0, .int .u32 0, .int .u32 0, .int .i64 0, .int .u32 0, .int .u32 0, .int .u32 0, .int .u32 0, .slice none 0 0, .slice none 0 0, .slice none 0 0, .slice none 0 0, .slice none 0 0, .int .i64 0, .int .i64 0, .int .u32 0] 37
  have HLHX3 := Lib.hid (show wd.heap.size ≤ gr from hg ▸ HB.out.size)
  rw [hn, hg]
  have HQHX2_HX3 := Lib.hid (show gq ≠ gr by have := HX2.out.lt; omega)
  replace HB := Lib.hid (HB.out.trans (bq.mono HB.out.size))
  replace HZ := Lib.hid (HZ.out.step bq)
  replace HQ := Lib.hid (HQ.out.bel bq)
  replace HX2 := Lib.hid (HX2.out.bel bq)
  replace HL := Lib.hid (HL.out.below bq)
  have HX3Z := Lib.hid xq
  refine hK _ _ HB.out ?_
  clear hK K hn hg xq bq
  try simp only [Act.put, List.setIfInBounds_toArray, List.set_cons_zero, List.set_cons_succ]
  refine wpI_turn [6, 7, 8, 9, 11, 12] rfl ?_
  refine wpI_lone rfl (by kernel_rfl) (fun K hK => ?_)
  go_simp
  have hc := HLN.out.load v1 y2.x.d HQ.out.st.now.1 HZ.out
  simp only [dval] at hc
  have HC := Lib.hid hc
  clear hc
  refine HC.out.mono ?_
  rintro ev v2 ⟨y3, rfl, n8, b9⟩
  replace HB := Lib.hid (HB.out.trans (b9.mono HB.out.size))
  replace HZ := Lib.hid (HZ.out.step b9)
  replace HQ := Lib.hid (HQ.out.bel b9)
  replace HX2 := Lib.hid (HX2.out.bel b9)
  replace HL := Lib.hid (HL.out.below b9)
  replace HX3Z := Lib.hid (HX3Z.out.below b9 HX3Z.out.lt)
  have HR := Lib.hid n8
  clear n8
  refine hK _ _ HB.out ?_
  clear hK K b9 HC
  try simp only [Act.put, List.setIfInBounds_toArray, List.set_cons_zero, List.set_cons_succ]
  refine wpI_turn [7, 8, 9, 11, 12] rfl ?_
  iterate 3 (
    refine wpI_read (v := ?_) HB.out rfl (by kernel_rfl) (by kernel_rfl) (by kernel_rfl) (fun _ _ _ h => h) (.inl ⟨by rfl, ?_⟩) ?_
    rotate_left
    · intro X hX
      clear hX
      go_simp
      with_reducible rfl
    try simp only [Act.put, List.setIfInBounds_toArray, List.set_cons_zero, List.set_cons_succ])
  rotate_left
  all_goals (
    refine wpI_lone rfl (by kernel_rfl) (fun K hK => ?_)
    rw [if_pos (by simp [Region.wanted])]
    refine wp_store_row 37 (.tmp 7) (.tmp 47) rfl gr (poC y3 Q) rfl rfl 37 #[.slice none 0 0, .slice none 0 0, .slice none 0 0, .int .u32 0, .int .u32 0, .int .u32 0, .int .i64 0, .int .u32 0, .int .u32 0, .int .u32 0, .int .u32 0, .slice none 0 0, .slice none 0 0, .slice none 0 0, .slice none 0 0, .slice none 0 0, .int .i64 0, .int .i64 0, .int .u32 0] HX3Z.out infoPo rfl (by simp [poC, poZ, Value.oneCell']) ?_
    have hgz := setRow_only (g := gr) v2 (poC y3 Q)
    have hrr := Blk.setRow (cs := (poC y3 Q)) HX3Z.out
    obtain ⟨wz, hwz⟩ : ∃ X, v2.setRow gr (poC y3 Q) = X := ⟨_, rfl⟩
    rw [hwz] at hgz hrr ⊢
    have HGZ := Lib.hid hgz
    have HKP := Lib.hid (show Keeps 0 v2 wz from Keeps.of_box hgz HX3Z.out (by decide) (Nat.zero_le _))
    replace HB := Lib.hid (below_only HB.out HLHX3.out hgz HB.out.size)
    have HX3 := Lib.hid (show PBox wz gr y3 Q from hrr)
    replace HQ := Lib.hid (po_stored HQ.out HX3Z.out HGZ.out HKP.out)
    replace HX2 := Lib.hid (show PBox _ _ _ _ from Blk.grown HX2.out HGZ.out (fun e => HQHX2_HX3.out (Option.some.inj e)))
    replace HL := Lib.hid (HL.out.own HGZ.out (own_ty HL.out.1 HX3Z.out (by decide)))
    replace HR := Lib.hid (po_stored HR.out HX3Z.out HGZ.out HKP.out)
    refine hK _ _ HB.out ?_
    clear hK K hgz hrr hwz HX3Z HGZ HKP
    try simp only [Act.put, List.setIfInBounds_toArray, List.set_cons_zero, List.set_cons_succ]
    iterate 1 (
      refine wpI_read (v := ?_) HB.out rfl (by kernel_rfl) (by kernel_rfl) (by kernel_rfl) (fun _ _ _ h => h) (.inl ⟨by rfl, ?_⟩) ?_
      rotate_left
      · intro X hX
        clear hX
        go_simp
        with_reducible rfl
      try simp only [Act.put, List.setIfInBounds_toArray, List.set_cons_zero, List.set_cons_succ])
    refine wpI_done (by kernel_rfl) ?_
    replace HB := Lib.hid (HB1.out.trans (HB.out.mono HB1.out.size))
    replace HZ := Lib.hid (HZ0.out.step HB.out)
    go_wp2_with fail
    obtain ⟨wf, hwd⟩ : ∃ wd, wz.drew = wd := ⟨_, rfl⟩
    have bq : Below wz.heap.size wz wf := by rw [← hwd]; exact (Below.refl _ wz).drew
    replace HB := Lib.hid (HB.out.trans (bq.mono HB.out.size))
    replace HZ := Lib.hid (HZ.out.step bq)
    replace HQ := Lib.hid (HQ.out.bel bq)
    replace HX2 := Lib.hid (HX2.out.bel bq)
    replace HL := Lib.hid (HL.out.below bq)
    replace HR := Lib.hid (HR.out.bel bq)
    replace HX3 := Lib.hid (HX3.out.bel bq)
    clear bq
    have HB1 := Lib.hid HB.out
    replace HB := Lib.hid (Below.refl wf.heap.size wf)
    refine wpI_start (Below wf.heap.size wf) [3, 4, 5, 0, 10, 1, 2, 6, 7, 8, 9, 11, 12] hmx rfl hwd ?_
    clear hwd
    iterate 3 (
      refine wpI_read (v := ?_) HB.out rfl (by kernel_rfl) (by kernel_rfl) (by kernel_rfl) (fun _ _ _ h => h) (.inl ⟨by rfl, ?_⟩) ?_
      rotate_left
      · intro X hX
        obtain ⟨_, _, el, hlb⟩ := (HL.out.below hX).lbs
        cases el
        obtain ⟨_, _, el, _, _, l0_, l1_, l2_, l3_, l4_, l5_, l6_⟩ := hlb.cells 0 (by simp)
        cases el
        simp only [Nat.zero_mul, Nat.add_zero, Nat.add_assoc, Nat.reduceAdd] at l0_ l1_ l2_ l3_ l4_ l5_ l6_
        clear hlb
        clear hX
        go_simp
        with_reducible rfl
      try simp only [Act.put, List.setIfInBounds_toArray, List.set_cons_zero, List.set_cons_succ])
    refine wpI_turn [0, 10, 1, 2, 6, 7, 8, 9, 11, 12] rfl ?_
    refine wpI_fork rfl rfl (by kernel_rfl) (fun K hK => ?_) (fun K hK => ?_)
    go_simp
    have HC := Lib.hid (HLN.out.new wf)
    refine HC.out.mono ?_
    rintro ev v1 ⟨yn, rfl, nn, b9⟩
    replace HB := Lib.hid (HB.out.trans (b9.mono HB.out.size))
    replace HZ := Lib.hid (HZ.out.step b9)
    replace HQ := Lib.hid (HQ.out.bel b9)
    replace HX2 := Lib.hid (HX2.out.bel b9)
    replace HL := Lib.hid (HL.out.below b9)
    replace HR := Lib.hid (HR.out.bel b9)
    replace HX3 := Lib.hid (HX3.out.bel b9)
    have HNN := Lib.hid nn
    clear nn
    refine hK _ _ HB.out ?_
    clear hK K b9 HC
    try simp only [Act.put, List.setIfInBounds_toArray, List.set_cons_zero, List.set_cons_succ]
    refine wpI_turn [1, 2, 6, 7, 8, 9, 10, 11, 12] rfl ?_
    refine wpI_read (v := stV yn.x N.S) HB.out rfl (by kernel_rfl) (by kernel_rfl) (by kernel_rfl) (fun _ _ _ h => h) (.inl ⟨by rfl, ?_⟩) ?_
    · intro X hX
      clear hX
      go_simp
      rw [field_st yn N X]
      rfl
    try simp only [Act.put, List.setIfInBounds_toArray, List.set_cons_zero, List.set_cons_succ]
    refine wpI_read (v := dval yn.x.d N.S.1) HB.out rfl (by kernel_rfl) (by kernel_rfl) (by kernel_rfl) (fun _ _ _ h => h) (.inl ⟨by rfl, ?_⟩) ?_
    · intro X hX
      clear hX
      go_simp
      rw [field_dk yn.x N.S X]
      rfl
    try simp only [Act.put, List.setIfInBounds_toArray, List.set_cons_zero, List.set_cons_succ]
    refine wpI_turn [6, 10, 7, 8, 9, 11, 12] rfl ?_
    refine wpI_fork rfl rfl (by kernel_rfl) (fun K hK => ?_) (fun K hK => ?_)
    go_simp
    have hc := HLN.out.none v1 yn.x.d HNN.out.st.now.1
    skip
    have HC := Lib.hid hc
    clear hc
    refine HC.out.mono ?_
    rintro ev v2 ⟨rfl, b9⟩
    replace HB := Lib.hid (HB.out.trans (b9.mono HB.out.size))
    replace HZ := Lib.hid (HZ.out.step b9)
    replace HQ := Lib.hid (HQ.out.bel b9)
    replace HX2 := Lib.hid (HX2.out.bel b9)
    replace HL := Lib.hid (HL.out.below b9)
    replace HR := Lib.hid (HR.out.bel b9)
    replace HX3 := Lib.hid (HX3.out.bel b9)
    replace HNN := Lib.hid (HNN.out.bel b9)

    refine hK _ _ HB.out ?_
    clear hK K b9 HC
    try simp only [Act.put, List.setIfInBounds_toArray, List.set_cons_zero, List.set_cons_succ]
    refine wpI_turn [7, 8, 9, 10, 11, 12] rfl ?_
    iterate 3 (
      refine wpI_read (v := ?_) HB.out rfl (by kernel_rfl) (by kernel_rfl) (by kernel_rfl) (fun _ _ _ h => h) (.inl ⟨by rfl, ?_⟩) ?_
      rotate_left
      · intro X hX
        clear hX
        go_simp
        with_reducible rfl
      try simp only [Act.put, List.setIfInBounds_toArray, List.set_cons_zero, List.set_cons_succ])
    refine wpI_turn [10, 11, 12] rfl ?_
    refine wpI_lone rfl (by kernel_rfl) (fun K hK => ?_)
    go_simp
    obtain ⟨v3, g4, hn, hg, bq, xq⟩ := new_box v2 #[.slice none 0 0, .slice none 0 0, .slice none 0 0, .int .u32 0, .int .u32 0, .int .u32 0, .int .i64 0, .int .u32 0, .int .u32 0, .int .u32 0, .int .u32 0, .slice none 0 0, .slice none 0 0, .slice none 0 0, .slice none 0 0, .slice none 0 0, .int .i64 0, .int .i64 0, .int .u32 0] 37
    have HLHX4 := Lib.hid (show wf.heap.size ≤ g4 from hg ▸ HB.out.size)
    rw [hn, hg]
    have HQHX2_HX4 := Lib.hid (show gq ≠ g4 by have := HX2.out.lt; omega)
    have HQHX3_HX4 := Lib.hid (show gr ≠ g4 by have := HX3.out.lt; omega)
    replace HB := Lib.hid (HB.out.trans (bq.mono HB.out.size))
    replace HZ := Lib.hid (HZ.out.step bq)
    replace HQ := Lib.hid (HQ.out.bel bq)
    replace HX2 := Lib.hid (HX2.out.bel bq)
    replace HL := Lib.hid (HL.out.below bq)
    replace HR := Lib.hid (HR.out.bel bq)
    replace HX3 := Lib.hid (HX3.out.bel bq)
    replace HNN := Lib.hid (HNN.out.bel bq)
    have HX4Z := Lib.hid xq
    refine hK _ _ HB.out ?_
    clear hK K hn hg xq bq
    try simp only [Act.put, List.setIfInBounds_toArray, List.set_cons_zero, List.set_cons_succ]
    rotate_left
    go_simp
    obtain ⟨v2, g4, hn, hg, bq, xq⟩ := new_box v1 #[.slice none 0 0, .slice none 0 0, .slice none 0 0, .int .u32 0, .int .u32 0, .int .u32 0, .int .i64 0, .int .u32 0, .int .u32 0, .int .u32 0, .int .u32 0, .slice none 0 0, .slice none 0 0, .slice none 0 0, .slice none 0 0, .slice none 0 0, .int .i64 0, .int .i64 0, .int .u32 0] 37
    have HLHX4 := Lib.hid (show wf.heap.size ≤ g4 from hg ▸ HB.out.size)
    rw [hn, hg]
    have HQHX2_HX4 := Lib.hid (show gq ≠ g4 by have := HX2.out.lt; omega)
    have HQHX3_HX4 := Lib.hid (show gr ≠ g4 by have := HX3.out.lt; omega)
    replace HB := Lib.hid (HB.out.trans (bq.mono HB.out.size))
    replace HZ := Lib.hid (HZ.out.step bq)
    replace HQ := Lib.hid (HQ.out.bel bq)
    replace HX2 := Lib.hid (HX2.out.bel bq)
    replace HL := Lib.hid (HL.out.below bq)
    replace HR := Lib.hid (HR.out.bel bq)
    replace HX3 := Lib.hid (HX3.out.bel bq)
    replace HNN := Lib.hid (HNN.out.bel bq)
    have HX4Z := Lib.hid xq
    refine hK _ _ HB.out ?_
    clear hK K hn hg xq bq
    try simp only [Act.put, List.setIfInBounds_toArray, List.set_cons_zero, List.set_cons_succ]
    refine wpI_turn [6, 7, 8, 9, 11, 12] rfl ?_
    refine wpI_lone rfl (by kernel_rfl) (fun K hK => ?_)
    go_simp
    have hc := HLN.out.none v2 yn.x.d HNN.out.st.now.1
    skip
    have HC := Lib.hid hc
    clear hc
    refine HC.out.mono ?_
    rintro ev v3 ⟨rfl, b9⟩
    replace HB := Lib.hid (HB.out.trans (b9.mono HB.out.size))
    replace HZ := Lib.hid (HZ.out.step b9)
    replace HQ := Lib.hid (HQ.out.bel b9)
    replace HX2 := Lib.hid (HX2.out.bel b9)
    replace HL := Lib.hid (HL.out.below b9)
    replace HR := Lib.hid (HR.out.bel b9)
    replace HX3 := Lib.hid (HX3.out.bel b9)
    replace HNN := Lib.hid (HNN.out.bel b9)
    replace HX4Z := Lib.hid (HX4Z.out.below b9 HX4Z.out.lt)

    refine hK _ _ HB.out ?_
    clear hK K b9 HC
    try simp only [Act.put, List.setIfInBounds_toArray, List.set_cons_zero, List.set_cons_succ]
    refine wpI_turn [7, 8, 9, 11, 12] rfl ?_
    iterate 3 (
      refine wpI_read (v := ?_) HB.out rfl (by kernel_rfl) (by kernel_rfl) (by kernel_rfl) (fun _ _ _ h => h) (.inl ⟨by rfl, ?_⟩) ?_
      rotate_left
      · intro X hX
        clear hX
        go_simp
        with_reducible rfl
      try simp only [Act.put, List.setIfInBounds_toArray, List.set_cons_zero, List.set_cons_succ])
    rotate_left
    go_simp
    obtain ⟨v1, g4, hn, hg, bq, xq⟩ := new_box wf #[.slice none 0 0, .slice none 0 0, .slice none 0 0, .int .u32 0, .int .u32 0, .int .u32 0, .int .i64 0, .int .u32 0, .int .u32 0, .int .u32 0, .int .u32 0, .slice none 0 0, .slice none 0 0, .slice none 0 0, .slice none 0 0, .slice none 0 0, .int .i64 0, .int .i64 0, .int .u32 0] 37
    have HLHX4 := Lib.hid (show wf.heap.size ≤ g4 from hg ▸ HB.out.size)
    rw [hn, hg]
    have HQHX2_HX4 := Lib.hid (show gq ≠ g4 by have := HX2.out.lt; omega)
    have HQHX3_HX4 := Lib.hid (show gr ≠ g4 by have := HX3.out.lt; omega)
    replace HB := Lib.hid (HB.out.trans (bq.mono HB.out.size))
    replace HZ := Lib.hid (HZ.out.step bq)
    replace HQ := Lib.hid (HQ.out.bel bq)
    replace HX2 := Lib.hid (HX2.out.bel bq)
    replace HL := Lib.hid (HL.out.below bq)
    replace HR := Lib.hid (HR.out.bel bq)
    replace HX3 := Lib.hid (HX3.out.bel bq)
    have HX4Z := Lib.hid xq
    refine hK _ _ HB.out ?_
    clear hK K hn hg xq bq
    try simp only [Act.put, List.setIfInBounds_toArray, List.set_cons_zero, List.set_cons_succ]
    refine wpI_turn [0, 1, 2, 6, 7, 8, 9, 11, 12] rfl ?_
    refine wpI_lone rfl (by kernel_rfl) (fun K hK => ?_)
    go_simp
    have HC := Lib.hid (HLN.out.new v1)
    refine HC.out.mono ?_
    rintro ev v2 ⟨yn, rfl, nn, b9⟩
    replace HB := Lib.hid (HB.out.trans (b9.mono HB.out.size))
    replace HZ := Lib.hid (HZ.out.step b9)
    replace HQ := Lib.hid (HQ.out.bel b9)
    replace HX2 := Lib.hid (HX2.out.bel b9)
    replace HL := Lib.hid (HL.out.below b9)
    replace HR := Lib.hid (HR.out.bel b9)
    replace HX3 := Lib.hid (HX3.out.bel b9)
    replace HX4Z := Lib.hid (HX4Z.out.below b9 HX4Z.out.lt)
    have HNN := Lib.hid nn
    clear nn
    refine hK _ _ HB.out ?_
    clear hK K b9 HC
    try simp only [Act.put, List.setIfInBounds_toArray, List.set_cons_zero, List.set_cons_succ]
    refine wpI_turn [1, 2, 6, 7, 8, 9, 11, 12] rfl ?_
    refine wpI_read (v := stV yn.x N.S) HB.out rfl (by kernel_rfl) (by kernel_rfl) (by kernel_rfl) (fun _ _ _ h => h) (.inl ⟨by rfl, ?_⟩) ?_
    · intro X hX
      clear hX
      go_simp
      rw [field_st yn N X]
      rfl
    try simp only [Act.put, List.setIfInBounds_toArray, List.set_cons_zero, List.set_cons_succ]
    refine wpI_read (v := dval yn.x.d N.S.1) HB.out rfl (by kernel_rfl) (by kernel_rfl) (by kernel_rfl) (fun _ _ _ h => h) (.inl ⟨by rfl, ?_⟩) ?_
    · intro X hX
      clear hX
      go_simp
      rw [field_dk yn.x N.S X]
      rfl
    try simp only [Act.put, List.setIfInBounds_toArray, List.set_cons_zero, List.set_cons_succ]
    refine wpI_turn [6, 7, 8, 9, 11, 12] rfl ?_
    refine wpI_lone rfl (by kernel_rfl) (fun K hK => ?_)
    go_simp
    have hc := HLN.out.none v2 yn.x.d HNN.out.st.now.1
    skip
    have HC := Lib.hid hc
    clear hc
    refine HC.out.mono ?_
    rintro ev v3 ⟨rfl, b9⟩
    replace HB := Lib.hid (HB.out.trans (b9.mono HB.out.size))
    replace HZ := Lib.hid (HZ.out.step b9)
    replace HQ := Lib.hid (HQ.out.bel b9)
    replace HX2 := Lib.hid (HX2.out.bel b9)
    replace HL := Lib.hid (HL.out.below b9)
    replace HR := Lib.hid (HR.out.bel b9)
    replace HX3 := Lib.hid (HX3.out.bel b9)
    replace HX4Z := Lib.hid (HX4Z.out.below b9 HX4Z.out.lt)
    replace HNN := Lib.hid (HNN.out.bel b9)

    refine hK _ _ HB.out ?_
    clear hK K b9 HC
    try simp only [Act.put, List.setIfInBounds_toArray, List.set_cons_zero, List.set_cons_succ]
    refine wpI_turn [7, 8, 9, 11, 12] rfl ?_
    iterate 3 (
      refine wpI_read (v := ?_) HB.out rfl (by kernel_rfl) (by kernel_rfl) (by kernel_rfl) (fun _ _ _ h => h) (.inl ⟨by rfl, ?_⟩) ?_
      rotate_left
      · intro X hX
        clear hX
        go_simp
        with_reducible rfl
      try simp only [Act.put, List.setIfInBounds_toArray, List.set_cons_zero, List.set_cons_succ])
    rotate_left
    all_goals (
      refine wpI_lone rfl (by kernel_rfl) (fun K hK => ?_)
      rw [if_pos (by simp [Region.wanted])]
      refine wp_store_row 37 (.tmp 9) (.tmp 57) rfl g4 poZ rfl rfl 37 #[.slice none 0 0, .slice none 0 0, .slice none 0 0, .int .u32 0, .int .u32 0, .int .u32 0, .int .i64 0, .int .u32 0, .int .u32 0, .int .u32 0, .int .u32 0, .slice none 0 0, .slice none 0 0, .slice none 0 0, .slice none 0 0, .slice none 0 0, .int .i64 0, .int .i64 0, .int .u32 0] HX4Z.out infoPo rfl (by simp [poC, poZ, Value.oneCell']) ?_
      have hgz := setRow_only (g := g4) v3 poZ
      have hrr := Blk.setRow (cs := poZ) HX4Z.out
      obtain ⟨wz, hwz⟩ : ∃ X, v3.setRow g4 poZ = X := ⟨_, rfl⟩
      rw [hwz] at hgz hrr ⊢
      have HGZ := Lib.hid hgz
      have HKP := Lib.hid (show Keeps 0 v3 wz from Keeps.of_box hgz HX4Z.out (by decide) (Nat.zero_le _))
      replace HB := Lib.hid (below_only HB.out HLHX4.out hgz HB.out.size)
      have HX4 := Lib.hid (show Blk wz g4 37 poZ from hrr)
      replace HQ := Lib.hid (po_stored HQ.out HX4Z.out HGZ.out HKP.out)
      replace HX2 := Lib.hid (show PBox _ _ _ _ from Blk.grown HX2.out HGZ.out (fun e => HQHX2_HX4.out (Option.some.inj e)))
      replace HL := Lib.hid (HL.out.own HGZ.out (own_ty HL.out.1 HX4Z.out (by decide)))
      replace HR := Lib.hid (po_stored HR.out HX4Z.out HGZ.out HKP.out)
      replace HX3 := Lib.hid (show PBox _ _ _ _ from Blk.grown HX3.out HGZ.out (fun e => HQHX3_HX4.out (Option.some.inj e)))
      replace HNN := Lib.hid (po_stored HNN.out HX4Z.out HGZ.out HKP.out)
      refine hK _ _ HB.out ?_
      clear hK K hgz hrr hwz HX4Z HGZ HKP
      try simp only [Act.put, List.setIfInBounds_toArray, List.set_cons_zero, List.set_cons_succ]
      iterate 1 (
        refine wpI_read (v := ?_) HB.out rfl (by kernel_rfl) (by kernel_rfl) (by kernel_rfl) (fun _ _ _ h => h) (.inl ⟨by rfl, ?_⟩) ?_
        rotate_left
        · intro X hX
          clear hX
          go_simp
          with_reducible rfl
        try simp only [Act.put, List.setIfInBounds_toArray, List.set_cons_zero, List.set_cons_succ])
      refine wpI_done (by kernel_rfl) ?_
      replace HB := Lib.hid (HB1.out.trans (HB.out.mono HB1.out.size))
      replace HZ := Lib.hid (HZ0.out.step HB.out)
      obtain ⟨mb, mo, ea, hc⟩ := own_cells HQ.out HLN.out.ownQ
      have c11 := HX2.out.c11
      rw [HLN.out.ownQ, ea] at c11
      have k0 := hc 0 (by decide)
      have k2 := hc 2 (by decide)
      have d11 : wz.cell? ⟨gq, 11, none⟩ = some (.slice (some ⟨mb, mo, none⟩) 3 y2.mc) := c11
      have d0 : wz.cell? ⟨mb, mo, none⟩ = some (.int .i64 15) := k0
      have d2 : wz.cell? ⟨mb, mo + 2, none⟩ = some (.int .i64 17) := k2
      have HSM := Lib.hid (HLN.out.same wz y2 y3 HQ.out.ok HR.out.ok HQ.out.nil HR.out.nil)
      clear c11 k0 k2 hc
      go_wp2_with (first
        | (with_reducible refine tx_at_loadP ?_
           refine wpList_load_poolG (by rfl) (.tmp 3) rfl gq y2 Q rfl HX2.out ?_)
        | (with_reducible refine tx_at_loadP ?_
           refine wpList_load_poolG (by rfl) (.tmp 7) rfl gr y3 Q rfl HX3.out ?_))
      refine HSM.out.mono ?_
      rintro ev wh ⟨rfl, bh⟩
      have HBH := Lib.hid (HB.out.trans (bh.mono HB.out.size))
      have HCN := Lib.hid (txCheck_none wh)
      clear bh HSM
      go_wp2_with fail
      refine HCN.out.mono ?_
      rintro ev wi ⟨rfl, bi⟩
      have HBI := Lib.hid (HBH.out.trans (bi.mono HBH.out.size))
      clear bi HCN
      go_wp2_with fail
      go_ret
      exact ⟨rfl, HBI.out⟩))
end Go.Proofs.YtlfmmfhiedjgeaaGreatDoor
namespace Go.Proofs.YtlfmmfhiedjgeaaGreatDoor.txgNames
open Go.ChangeShapes Go.WideShapes Go.ChangeAt Go.RowKit
set_option linter.unusedVariables false

theorem own : ownKnob Tryz.prog.godebug = none := by kernel_rfl
theorem laidOut : laidOutB Tryz.prog = true := by kernel_rfl

set_option maxRecDepth 100000 in
theorem lifted (os : Os) (started : os.Started) (H : Type) (enc : TypeId × Value → H) :
    ReturnsInHanded {} Tryz.checked os 3 .any (fun w args => (Rows.txgNamesSpec.pre enc Tryz.prog Tryz.f3 [] false w args ∧ laidMetH Tryz.prog [("charterhouse/ptr.sizes", Rows.laid_charterhouse_ptr_sizes)] w) ∧ sizedMet enc Tryz.prog Tryz.f3 (OpenSpec.ofChange Rows.txgNamesSpec) false w args)
      (Rows.txgNamesSpec.post enc Tryz.prog Tryz.f3 false true false false) := by
  refine returnsInHanded_of_change_and (C := Tryz.checked) (X := fun w _ => laidMetH Tryz.prog [("charterhouse/ptr.sizes", Rows.laid_charterhouse_ptr_sizes)] w) (fun _ _ _ hh h => h.of_heap hh) own started (by kernel_rfl) Tryz.func3
    (ChangeSpec.witness_shaped (enc := enc) (C := Tryz.checked) (os := os) (X := fun w _ => laidMetH Tryz.prog [("charterhouse/ptr.sizes", Rows.laid_charterhouse_ptr_sizes)] w) false (World.doorLaid Tryz.prog 400 os) #[] 8 rfl (World.shaped_of_RefB (by kernel_rfl) (by kernel_rfl)) (by kernel_rfl) (by kernel_rfl) (by kernel_rfl) (door_met os _)) ?_
  intro W base args ds gs before hval0 hW _ _ hL _
  have hval : ∀ (j : Nat) t v, Tryz.f3.params[j]? = some t → args[j]? = some v → Value.okWide Tryz.prog W .any base t v := hval0
  have hW' := hW
  obtain ⟨p, q, hA0, hV, rfl, hfz, hnd⟩ := hW
  have hA : DataW.TrodAll enc Tryz.prog W 0 (fun _ => true) true Tryz.f3.params.toList args.toList ds p := hA0
  rw [Tryz.params3] at hA hval
  obtain ⟨rfl, rfl, rfl⟩ := trodAll_none hA
  obtain ⟨rfl, rfl⟩ := trodVars_none hV
  clear hA0 hval0
  refine (txgNames_walk  W (szs_of_laid hL)).mono fun e W' ⟨he, bel⟩ => ?_
  subst he
  exact ⟨_, rfl, _, _, _, [], _, [], hW', trodAll_mk1 (shut_bool Tryz.underlying4 _), rfl, rfl, bel.frame _, fun h => by cases h⟩

theorem over : Rows.TxgNamesSaid :=
  OpenClaim.holds_of_wide 3 Tryz.f3 rfl rfl rfl rfl rfl rfl rfl ⟨rfl, rfl, rfl, rfl, rfl⟩ rfl rfl rfl rfl rfl (by kernel_rfl) Tryz.func3 (by kernel_rfl)
    (of_decide_eq_true (by kernel_rfl)) (by unfold Func.isWrapper; first | (rw [if_pos (by decide +kernel)]; kernel_rfl) | (rw [if_neg (by decide +kernel)]; exact ⟨rfl, rfl⟩))
    (fun os started H enc _ => lifted os started H enc)

/-- The statement. -/
theorem proved : Rows.TxgNamesCardSaid :=
  Claim7.holds_tied_plain_at .later [] [.data] true _ true
    over (fun _ h => by cases h) (by kernel_rfl) (fun _ h => by cases h) txgNames_row_tie rfl ⟨rfl, rfl⟩ (by kernel_rfl) rfl
    (fun f fn hf hfn => by
      obtain rfl : f = 3 := Option.some.inj ((show Tryz.prog.funcNamed "charterhouse/charterhouselaw17.TxgNames" = some 3 by kernel_rfl).symm.trans hf) |>.symm
      obtain rfl : fn = Tryz.f3 := (Option.some.inj (Tryz.func3.symm.trans hfn)).symm
      exact ⟨by kernel_rfl, fun j t ht => by
        rw [Tryz.params3] at ht
        simp at ht⟩)
    (by kernel_rfl)
end Go.Proofs.YtlfmmfhiedjgeaaGreatDoor.txgNames
