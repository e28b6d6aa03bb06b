/-
  DevPairsSaid: for any two disks (where one of them is great nothing is asked) they are the same just if the document's own answer says so; a copy is, and shares no memory; and what a new one is. No condition.
-/
import Derived.Test.YtgpojnhhcobcbaaRows
import Derived.Test.YtgpojnhhcobcbaaDiskOpen
import Derived.Test.YtgpojnhhcobcbaaDevLawC
import Derived.Test.YtgpojnhhcobcbaaRdNew
namespace Go.Proofs.Ytgpojnhhcobcbaa
open Go.RowKit Go.Shelf
set_option maxRecDepth 100000

theorem TwinPost.law {w w' w1 : World} {e : Ending} {D : DkL} {L g : Nat} {x : DAt} (_h : LawL w L g x D w1) (ht : TwinPost D w1 e w') : ∃ y, e = .returned (dval y D) ∧ Dsk w' w'.heap.size y D ∧ Below w1.heap.size w1 w' := by
  obtain ⟨y, h1, h2, h3⟩ := ht
  exact ⟨y, h1, h2.dsk, h3⟩
set_option maxHeartbeats 8000000 in
theorem devPairs_walk (x : DAt) (D : DkL) (y : DAt) (E : DkL) (w : World) (h : Dsk w w.heap.size x D) (hnear : Near D) (h' : Dsk w w.heap.size y E) (hnear' : Near E) :
    Calls Try.prog 6 #[dval x D, dval y E] w fun e w' => e = .returned (.bool true) ∧ Below w.heap.size w w' := by
  have hmx : Try.prog.follows Departure.mixedOrders = true := by kernel_rfl
  have hx0 := lawL_box w x D h
  have b0 := alloc_b w (.cells #[.slice x.ba D.1.length x.bc, .slice x.wa D.2.length x.wc] 25)
  have hy0 := hx0.put (h'.step b0)
  have hx1 := hx0.step (alloc_b _ (.cells #[.slice y.ba E.1.length y.bc, .slice y.wa E.2.length y.wc] 25))
  rw [World.size_alloc] at hy0
  obtain ⟨w0, hw0⟩ : ∃ w0, (w.alloc (.cells #[.slice x.ba D.1.length x.bc, .slice x.wa D.2.length x.wc] 25)).alloc (.cells #[.slice y.ba E.1.length y.bc, .slice y.wa E.2.length y.wc] 25) = w0 := ⟨_, rfl⟩
  rw [hw0] at hy0 hx1
  obtain ⟨B, hB⟩ : ∃ B, w.heap.size = B := ⟨_, rfl⟩
  rw [hB] at hx1 hy0
  have HX0 := Lib.hid hx1
  have HY0 := Lib.hid hy0
  have HBB := Lib.hid hB
  have HN := Lib.hid hnear
  have HN' := Lib.hid hnear'
  have c0 := hx1.c0
  have c1 := hx1.c1
  have HG := Lib.hid (rdGreat_any x D w0 hx1.dsk hnear)
  simp only [dval] at HG ⊢
  rw [hB]
  clear h h' hnear hnear' hx0 b0 hy0 hx1
  go_enter Try.func6, Try.ntmps6
  go_wp2_with fail
  clear hw0 hB c0 c1
  refine HG.out.mono ?_
  rintro e w1 ⟨b, rfl, hsm, b1⟩
  have HX1 := Lib.hid (HX0.out.step b1)
  have HY1 := Lib.hid (HY0.out.step b1)
  clear b1 HX0 HY0 HG
  cases b with
  | true =>
    go_wp2_with fail
    go_ret
    exact ⟨rfl, by rw [← HBB.out]; exact HX1.out.bel⟩
  | false =>
    have HSM := Lib.hid (hsm rfl)
    have HG' := Lib.hid (rdGreat_any y E w1 HY1.out.dsk HN'.out)
    have c0 := HY1.out.c0
    have c1 := HY1.out.c1
    simp only [dval] at HG'
    clear hsm
    go_wp2_with fail
    clear c0 c1
    refine HG'.out.mono ?_
    rintro e w2 ⟨b, rfl, hsm, b2⟩
    have HX2 := Lib.hid (HX1.out.step b2)
    have HY2 := Lib.hid (HY1.out.step b2)
    clear b2 HX1 HY1 HG'
    cases b with
    | true =>
      go_wp2_with fail
      go_ret
      exact ⟨rfl, by rw [← HBB.out]; exact HX2.out.bel⟩
    | false =>
      have HSM' := Lib.hid (hsm rfl)
      have HT := Lib.hid (rdTwin_any x D w2 HX2.out.dsk (small_fits HSM.out))
      have c0 := HX2.out.c0
      have c1 := HX2.out.c1
      simp only [dval] at HT
      clear hsm
      go_wp2_with fail
      clear c0 c1
      refine HT.out.mono ?_
      rintro e w3 ht
      obtain ⟨z, rfl, hz, b3⟩ := ht.law HX2.out
      have hx3 := HX2.out.step b3
      have hy3 := HY2.out.step b3
      have hz3 := hx3.put hz
      have ba3 := alloc_b w3 (.cells #[.slice z.ba D.1.length z.bc, .slice z.wa D.2.length z.wc] 25)
      have hx4 := hx3.step ba3
      have hy4 := hy3.step ba3
      obtain ⟨w4, hw4⟩ : ∃ w4, w3.alloc (.cells #[.slice z.ba D.1.length z.bc, .slice z.wa D.2.length z.wc] 25) = w4 := ⟨_, rfl⟩
      obtain ⟨g, hg⟩ : ∃ g, w3.heap.size = g := ⟨_, rfl⟩
      rw [hw4, hg] at hz3
      rw [hw4] at hx4 hy4
      have HX4 := Lib.hid (show LawL w (g + 1) B x D w4 from ⟨hx4.1, hx4.2.1, by have := hx4.2.2.1; have := hx3.2.2.2.1; omega, hz3.2.2.2.1, hx4.2.2.2.2.1.moreL (by have := hx3.2.2.2.1; omega), hx4.2.2.2.2.2⟩)
      have HZ4 := Lib.hid hz3
      have HY4 := Lib.hid hy4
      have HT2 := Lib.hid (dTwin_any z D w4 hz3.dsk (small_fits HSM.out))
      have c0 := hz3.c0
      have c1 := hz3.c1
      simp only [dval] at HT2 ⊢
      clear ht hz b3 hx3 hy3 hz3 ba3 hx4 hy4 HX2 HY2 HT
      go_wp2_with fail
      clear hw4 hg c0 c1
      refine HT2.out.mono ?_
      rintro e w5 ⟨u, rfl, hu, b5⟩
      have hM := mineL_put (.inr hu) b5.size
      have ba5 := alloc_b w5 (.cells #[.slice u.ba D.1.length u.bc, .slice u.wa D.2.length u.wc] 25)
      obtain ⟨w6, hw6⟩ : ∃ w6, w5.alloc (.cells #[.slice u.ba D.1.length u.bc, .slice u.wa D.2.length u.wc] 25) = w6 := ⟨_, rfl⟩
      obtain ⟨gu, hgu⟩ : ∃ g, w5.heap.size = g := ⟨_, rfl⟩
      obtain ⟨lo, hlo⟩ : ∃ g, w4.heap.size = g := ⟨_, rfl⟩
      rw [hw6, hgu, hlo] at hM
      have b56 := b5.trans (ba5.mono b5.size)
      rw [hw6] at b56
      obtain ⟨wd, hwd⟩ : ∃ wd, w6.drew = wd := ⟨_, rfl⟩
      have bd : Below w6.heap.size w6 wd := by rw [← hwd]; exact (Below.refl _ w6).drew
      have b4d := b56.trans (bd.mono b56.size)
      have HLO := Lib.hid (show g + 1 ≤ lo by rw [← hlo]; exact HX4.out.2.2.2.1)
      have hX := HX4.out.step b4d
      have hY := HY4.out.step b4d
      have hM6 := hM.step bd
      have HX6 := Lib.hid hX
      have HY6 := Lib.hid hY
      have HZ6 := Lib.hid (HZ4.out.step b4d)
      have HM6 := Lib.hid hM6
      have s0 := hX.c0
      have s1 := hX.c1
      have s2 := hY.c0
      have s3 := hY.c1
      have s4 := hM6.c0
      have s5 := hM6.c1
      have C0 := fun X (hX : Below wd.heap.size wd X) => (hX.cell (p := ⟨B, 0, none⟩) (World.block_lt_of_cell? wd _ s0)).trans s0
      have C1 := fun X (hX : Below wd.heap.size wd X) => (hX.cell (p := ⟨B, 1, none⟩) (World.block_lt_of_cell? wd _ s1)).trans s1
      have C2 := fun X (hX : Below wd.heap.size wd X) => (hX.cell (p := ⟨B + 1, 0, none⟩) (World.block_lt_of_cell? wd _ s2)).trans s2
      have C3 := fun X (hX : Below wd.heap.size wd X) => (hX.cell (p := ⟨B + 1, 1, none⟩) (World.block_lt_of_cell? wd _ s3)).trans s3
      have C4 := fun X (hX : Below wd.heap.size wd X) => (hX.cell (p := ⟨gu, 0, none⟩) (World.block_lt_of_cell? wd _ s4)).trans s4
      have C5 := fun X (hX : Below wd.heap.size wd X) => (hX.cell (p := ⟨gu, 1, none⟩) (World.block_lt_of_cell? wd _ s5)).trans s5
      have hS : Below wd.heap.size wd wd := Below.refl _ _
      obtain ⟨R, hR⟩ : ∃ R : Bool, (R = true ↔ D = E) := by
        by_cases e : D = E
        · exact ⟨true, fun _ => e, fun _ => rfl⟩
        · exact ⟨false, fun h => (by cases h), fun h => absurd h e⟩
      have hDl : D.1.length ≤ 1000000 ∧ D.2.length ≤ 1000000 := ⟨by have := HSM.out.1; omega, by have := HSM.out.2.2.1; omega⟩
      have HQ1 := Lib.hid (dSame_any x D y E wd hX.dsk hY.dsk R hR)
      have HQ2 := Lib.hid (fun (X : World) (hb : Below wd.heap.size wd X) => rdSame_any x D y E X (hX.step hb).dsk (hY.step hb).dsk hDl R hR)
      have HQ3 := Lib.hid (fun (X : World) (hb : Below wd.heap.size wd X) => rdSame_any u D x D X (hM6.step hb).2.2.dsk (hX.step hb).dsk hDl true ⟨fun _ => rfl, fun _ => rfl⟩)
      simp only [dval] at HQ1 HQ2 HQ3 ⊢
      clear hu b5 hM ba5 hlo b56 bd b4d hX hY hM6 s0 s1 s2 s3 s4 s5 HX4 HY4 HZ4 HT2 hR
      go_wp2_with fail
      clear hw6 hgu
      refine wpS_start [0, 1, 3, 4, 2, 5, 6, 7, 8, 9, 10, 11, 12, 13, 14, 15, 16, 17, 18] hmx rfl hwd ?_
      clear hwd
      iterate 4 (
        refine wpS_read (v := ?_) rfl (by kernel_rfl) (by kernel_rfl) (by kernel_rfl) (fun _ _ _ h => h) (.inl ⟨by rfl, ?_⟩) ?_
        rotate_left
        · intro X hX
          have hX0 := C0 X (hX _ hS)
          have hX1 := C1 X (hX _ hS)
          have hX2 := C2 X (hX _ hS)
          have hX3 := C3 X (hX _ hS)
          clear hX
          go_simp
          with_reducible rfl
        try simp only [Act.put, List.setIfInBounds_toArray, List.set_cons_zero, List.set_cons_succ])
      refine wpS_lone rfl (by kernel_rfl) (fun K' hK => ?_)
      go_simp
      refine (HQ1.out).mono ?_
      rintro e wa ⟨rfl, ba⟩
      refine hK _ _ (Stays.of_below ba) ?_
      clear hK K'
      try simp only [Act.put, List.setIfInBounds_toArray, List.set_cons_zero, List.set_cons_succ]
      refine wpS_lone rfl (by kernel_rfl) (fun K' hK => ?_)
      go_simp
      refine (HQ2.out wa ba).mono ?_
      rintro e wb ⟨rfl, bb⟩
      refine hK _ _ (Stays.of_below bb) ?_
      clear hK K'
      try simp only [Act.put, List.setIfInBounds_toArray, List.set_cons_zero, List.set_cons_succ]
      have bab := ba.trans (bb.mono ba.size)
      iterate 4 (
        refine wpS_read (v := ?_) rfl (by kernel_rfl) (by kernel_rfl) (by kernel_rfl) (fun _ _ _ h => h) (.inl ⟨by rfl, ?_⟩) ?_
        rotate_left
        · intro X hX
          have hX0 := C0 X ((Stays.of_below bab).trans hX _ hS)
          have hX1 := C1 X ((Stays.of_below bab).trans hX _ hS)
          have hX4 := C4 X ((Stays.of_below bab).trans hX _ hS)
          have hX5 := C5 X ((Stays.of_below bab).trans hX _ hS)
          clear hX
          go_simp
          with_reducible rfl
        try simp only [Act.put, List.setIfInBounds_toArray, List.set_cons_zero, List.set_cons_succ])
      clear C0 C1 C2 C3 C4 C5 hS
      refine wpS_lone rfl (by kernel_rfl) (fun K' hK => ?_)
      go_simp
      refine (HQ3.out wb bab).mono ?_
      rintro e wc ⟨rfl, bc⟩
      refine hK _ _ (Stays.of_below bc) ?_
      clear hK K'
      try simp only [Act.put, List.setIfInBounds_toArray, List.set_cons_zero, List.set_cons_succ]
      have bac := bab.trans (bc.mono bab.size)
      iterate 3 (
        refine wpS_read (v := ?_) rfl (by kernel_rfl) (by kernel_rfl) (by kernel_rfl) (fun _ _ _ h => h) (.inl ⟨by rfl, ?_⟩) ?_
        rotate_left
        · intro X hX
          clear hX
          go_simp
          with_reducible rfl
        try simp only [Act.put, List.setIfInBounds_toArray, List.set_cons_zero, List.set_cons_succ])
      refine wpS_lone rfl (by kernel_rfl) (fun K' hK => ?_)
      go_simp
      refine (dNew_any wc).mono ?_
      rintro e we ⟨p1, rfl, hn1, be⟩
      refine hK _ _ (Stays.of_below be) ?_
      clear hK K'
      have bae := bac.trans (be.mono bac.size)
      have HN1 := Lib.hid hn1.dsk
      have hnl : newD.2.length = 0 := rfl
      simp only [dval, newD_len, hnl]
      try simp only [Act.put, List.setIfInBounds_toArray, List.set_cons_zero, List.set_cons_succ]
      refine wpS_lone rfl (by kernel_rfl) (fun K' hK => ?_)
      go_simp
      refine (rdNew_any we).mono ?_
      rintro e wf ⟨p2, rfl, hn2, bf⟩
      refine hK _ _ (Stays.of_below bf) ?_
      clear hK K'
      have baf := bae.trans (bf.mono bae.size)
      have HQ4 := Lib.hid (rdSame_any p1 newD p2 newD wf (HN1.out.step bf) hn2.1 ⟨by rw [newD_len]; omega, by rw [hnl]; omega⟩ true ⟨fun _ => rfl, fun _ => rfl⟩)
      simp only [dval, newD_len, hnl] at HQ4 ⊢
      try simp only [Act.put, List.setIfInBounds_toArray, List.set_cons_zero, List.set_cons_succ]
      refine wpS_lone rfl (by kernel_rfl) (fun K' hK => ?_)
      go_simp
      refine (HQ4.out).mono ?_
      rintro e wg ⟨rfl, bg⟩
      refine hK _ _ (Stays.of_below bg) ?_
      clear hK K'
      try simp only [Act.put, List.setIfInBounds_toArray, List.set_cons_zero, List.set_cons_succ]
      have bag := baf.trans (bg.mono baf.size)
      iterate 2 (
        refine wpS_read (v := ?_) rfl (by kernel_rfl) (by kernel_rfl) (by kernel_rfl) (fun _ _ _ h => h) (.inl ⟨by rfl, ?_⟩) ?_
        rotate_left
        · intro X hX
          clear hX
          go_simp
          with_reducible rfl
        try simp only [Act.put, List.setIfInBounds_toArray, List.set_cons_zero, List.set_cons_succ])
      refine wpS_done (by kernel_rfl) ?_
      have HX7 := Lib.hid (HX6.out.step bag)
      have HZ7 := Lib.hid (HZ6.out.step bag)
      have HM7 := Lib.hid (HM6.out.step bag)
      have c0 := HM7.out.c0
      have c1 := HM7.out.c1
      have HWP := Lib.hid (wipe_any lo u D wg HM7.out.2.2 (by have := HM7.out.2.1; have := HM7.out.1.lt; omega))
      simp only [dval] at HWP
      clear ba bb bab bc bac be bae bf baf bg bag hn1 hn2 HN1 HQ1 HQ2 HQ3 HQ4 HX6 HY6 HZ6 HM6 hDl
      go_wp2_with fail
      clear c0 c1
      refine HWP.out.mono ?_
      rintro e wh ⟨rfl, bh⟩
      have bl : Below (g + 1) wg wh := bh.mono HLO.out
      have HX8 := Lib.hid (HX7.out.below bl)
      have HZ8 := Lib.hid (HZ7.out.below bl)
      have HQ5 := Lib.hid (rdSame_any z D x D wh HZ8.out.dsk HX8.out.dsk ⟨by have := HSM.out.1; omega, by have := HSM.out.2.2.1; omega⟩ true ⟨fun _ => rfl, fun _ => rfl⟩)
      have c0 := HZ8.out.c0
      have c1 := HZ8.out.c1
      have d0 := HX8.out.c0
      have d1 := HX8.out.c1
      simp only [dval] at HQ5
      clear bh bl HWP
      go_wp2_with fail
      clear c0 c1 d0 d1
      refine HQ5.out.mono ?_
      rintro e wi ⟨rfl, bi⟩
      have HX9 := Lib.hid (HX8.out.step bi)
      clear bi
      go_wp2_with fail
      go_ret
      exact ⟨rfl, by rw [← HBB.out]; exact HX9.out.bel⟩
end Go.Proofs.Ytgpojnhhcobcbaa
namespace Go.Proofs.Ytgpojnhhcobcbaa.devPairs
open Go.ChangeShapes Go.WideShapes Go.ChangeAt Go.RowKit
set_option linter.unusedVariables false

theorem own : ownKnob Try.prog.godebug = none := by kernel_rfl
theorem laidOut : laidOutB Try.prog = true := by kernel_rfl

set_option maxRecDepth 100000 in
theorem lifted (os : Os) (started : os.Started) (H : Type) (enc : TypeId × Value → H) :
    ReturnsInHanded {} Try.checked os 6 .any (Rows.devPairsSpec.pre6 enc Try.prog Try.f6 Rows.devPairsRow.domain false) (Rows.devPairsSpec.post enc Try.prog Try.f6 false true false false) := by
  refine returnsInHanded_of_change_sized (C := Try.checked) own started (by kernel_rfl) Try.func6
    (ChangeSpec.witness6 (enc := enc) (C := Try.checked) false ⟨#[], #[.agg #[.slice none 0 0, .slice none 0 0], .agg #[.slice none 0 0, .slice none 0 0]], []⟩ 8 (by kernel_rfl) (by kernel_rfl) (by kernel_rfl) (by kernel_rfl)) ?_
  intro W base args ds gs before hval0 hW hcnd hsz _
  have hval : ∀ (j : Nat) t v, Try.f6.params[j]? = some t → args[j]? = some v → Value.okWide Try.prog W .any base t v := hval0
  have hW' := hW
  obtain ⟨p, q, hA0, hV, rfl, hfz, hnd⟩ := hW
  have hA : DataW.TrodAll enc Try.prog W 0 (fun _ => true) true Try.f6.params.toList args.toList ds p := hA0
  rw [Try.params6] at hA hval
  obtain ⟨v0, vs0, d0, ds0, p0, q0, hargs, rfl, rfl, h0, r0⟩ := trodAll_cons hA
  obtain ⟨v1, vs1, d1, ds1, p1, q1, rfl, rfl, rfl, h1, r1⟩ := trodAll_cons r0
  obtain ⟨rfl, rfl, rfl⟩ := trodAll_nil r1
  obtain rfl : args = #[v0, v1] := by cases args; simp_all
  obtain ⟨rfl, rfl⟩ := trodVars_none hV
  have k0 := h0
  have lt0 : ∀ x ∈ p0, x.block < W.heap.size := by obtain ⟨m, hm⟩ := k0; exact DataW.trod_lt m _ _ _ hm
  obtain ⟨x0, D0, rfl, w0, m0⟩ := open_disk (hval 0 25 v0 rfl rfl) h0 (fun n hn => by
    have := List.all_eq_true.1 hsz n (DataW.weights_mem_each (j := 0) (t := 25) (by kernel_rfl) rfl n hn)
    simpa using this)
  have k1 := h1
  have lt1 : ∀ x ∈ p1, x.block < W.heap.size := by obtain ⟨m, hm⟩ := k1; exact DataW.trod_lt m _ _ _ hm
  obtain ⟨x1, D1, rfl, w1, m1⟩ := open_disk (hval 1 25 v1 rfl rfl) h1 (fun n hn => by
    have := List.all_eq_true.1 hsz n (DataW.weights_mem_each (j := 1) (t := 25) (by kernel_rfl) rfl n hn)
    simpa using this)
  clear hA0 hval0
  refine (devPairs_walk x0 D0 x1 D1 W w0 m0 w1 m1).mono fun e W' ⟨he, bel⟩ => ?_
  subst he
  exact ⟨_, rfl, _, _, _, [], _, [], hW', trodAll_mk1 (shut_bool Try.underlying4 _), (trodAll_cons_mk (Below.trod laidOut (by kernel_rfl) (of_decide_eq_true (by kernel_rfl)) k0 bel lt0) (trodAll_cons_mk (Below.trod laidOut (by kernel_rfl) (of_decide_eq_true (by kernel_rfl)) k1 bel lt1) trodAll_mk0)), rfl, bel.frame _, fun h => by cases h⟩

theorem over : Rows.devPairsRow.holds Try.pinned (OpenSpec.ofChange Rows.devPairsSpec) :=
  OpenClaim.holds_of_wide 6 Try.f6 rfl rfl rfl rfl rfl rfl rfl ⟨rfl, rfl, rfl, rfl, rfl⟩ rfl rfl rfl rfl rfl (by kernel_rfl) Try.func6 (by kernel_rfl)
    (of_decide_eq_true (by kernel_rfl)) (by unfold Func.isWrapper; first | (rw [if_pos (by decide +kernel)]; kernel_rfl) | (rw [if_neg (by decide +kernel)]; exact ⟨rfl, rfl⟩))
    (fun os started H enc _ => lifted os started H enc)

/-- The statement. -/
theorem proved : Rows.DevPairsSaid := over
end Go.Proofs.Ytgpojnhhcobcbaa.devPairs
