/-
  SignNamesSaid: the limits' and the error's numbers, and the chapter's examples hold: what was signed is right, another text is not; a signer that has spent all leaves, or more, is refused; 208 bytes are no signature; there is no leaf 8; 15 bytes are no key. No condition.
-/
import Derived.Test.YtoednighmdoooaaRows
import Derived.Test.YtoednighmdoooaaSignAll
import Derived.Test.YtoednighmdoooaaNought
import Derived.Deep.CutRange
import Derived.Deep.DeepCutAuto
namespace Go.Proofs.Ytoednighmdoooaa
open Go.RowKit Go.Shelf
set_option maxRecDepth 100000

theorem replicate_set (W : World) (b : Nat) (h : Blk W b 5 (Array.replicate 209 (.int .u8 0))) : Blk (W.setCell ⟨b, 0, none⟩ (.int .u8 8)) b 5 (ar (8 :: List.replicate 208 0)) := by
  have := h.set_ 0 (.int .u8 8)
  have e : (Array.replicate 209 (Value.int .u8 0)).setIfInBounds 0 (.int .u8 8) = ar (8 :: List.replicate 208 0) := by kernel_rfl
  rw [e] at this
  exact this
set_option linter.unusedSimpArgs false in
set_option maxHeartbeats 8000000 in
theorem signNames_walk (w : World) : Calls Try.prog 3 #[] w fun e w' => e = .returned (.bool true) ∧ Below w.heap.size w w' := by
  have hmx : Try.prog.follows Departure.mixedOrders = true := by kernel_rfl
  have mk15 : ∀ W : World, (Instr.makeSlice 22 (.int .i64 15) (.int .i64 15)).run Try.prog W = .ok (.slice (some ⟨W.heap.size, 0, none⟩) 15 15) (W.alloc (.cells (Array.replicate 15 (.int .u8 0)) 5)) := fun W => make_noughts 15 (by omega) W
  have mk16 : ∀ W : World, (Instr.makeSlice 22 (.int .i64 16) (.int .i64 16)).run Try.prog W = .ok (.slice (some ⟨W.heap.size, 0, none⟩) 16 16) (W.alloc (.cells (Array.replicate 16 (.int .u8 0)) 5)) := fun W => make_noughts 16 (by omega) W
  have mk208 : ∀ W : World, (Instr.makeSlice 22 (.int .i64 208) (.int .i64 208)).run Try.prog W = .ok (.slice (some ⟨W.heap.size, 0, none⟩) 208 208) (W.alloc (.cells (Array.replicate 208 (.int .u8 0)) 5)) := fun W => make_noughts 208 (by omega) W
  have mk209 : ∀ W : World, (Instr.makeSlice 22 (.int .i64 209) (.int .i64 209)).run Try.prog W = .ok (.slice (some ⟨W.heap.size, 0, none⟩) 209 209) (W.alloc (.cells (Array.replicate 209 (.int .u8 0)) 5)) := fun W => make_noughts 209 (by omega) W
  obtain ⟨w0, hw0⟩ : ∃ w0, w.alloc (.cells (Array.replicate 16 (.int .u8 0)) 5) = w0 := ⟨_, rfl⟩
  have b0 : Below w.heap.size w w0 := by rw [← hw0]; exact (Below.refl _ w).alloc (Nat.le_refl _) _
  have hs := sSign_spent (some ⟨w.heap.size, 0, none⟩) 16 (.slice none 0 0) w0
  have HS := Lib.hid hs
  have HB0 := Lib.hid b0
  clear hs b0
  go_enter Try.func3, Try.ntmps3
  go_wp2_with fail
  clear hw0
  refine HS.out.mono ?_
  rintro e w1 ⟨rfl, b1⟩
  have HB1 := Lib.hid (HB0.out.trans (b1.mono HB0.out.size))
  clear b1 HS HB0
  go_wp2_with fail
  obtain ⟨w2, hw2⟩ : ∃ w2, w1.alloc (.cells #[.slice none 0 0, .int .i64 0] 24) = w2 := ⟨_, rfl⟩
  have HB2 := Lib.hid (show Below w.heap.size w w2 by rw [← hw2]; exact HB1.out.alloc HB1.out.size _)
  rw [hw2]
  clear hw2 HB1
  go_cut [4, 5] from 21 to 26 (fun u v wx => u = .bool false ∧ v = .int .i64 8 ∧ Below w.heap.size w wx)
  case first =>
    obtain ⟨wd, hwd⟩ : ∃ wd, w2.drew = wd := ⟨_, rfl⟩
    have HBd := Lib.hid (show Below w.heap.size w wd by rw [← hwd]; exact HB2.out.drew)
    refine wpS_start [0, 1, 2, 3, 4, 5, 6, 7] hmx rfl hwd ?_
    clear hwd
    refine wpS_fork rfl rfl (by kernel_rfl) (fun K hK => ?_) (fun K hK => ?_)
    · go_simp
      refine hK _ _ (Stays.of_below ((Below.refl _ wd).alloc (Nat.le_refl _) _)) ?_
      clear hK K
      have HBa := Lib.hid (HBd.out.trans (((Below.refl _ wd).alloc (Nat.le_refl _) (.cells (Array.replicate 16 (.int .u8 0)) 5)).mono HBd.out.size))
      obtain ⟨wa, hwa⟩ : ∃ wa, wd.alloc (.cells (Array.replicate 16 (.int .u8 0)) 5) = wa := ⟨_, rfl⟩
      rw [hwa] at HBa ⊢
      clear hwa
      try simp only [Act.put, List.setIfInBounds_toArray, List.set_cons_zero, List.set_cons_succ]
      refine wpS_lone rfl (by kernel_rfl) (fun K hK => ?_)
      go_simp
      refine hK _ _ (Stays.of_below ((Below.refl _ wa).alloc (Nat.le_refl _) _)) ?_
      clear hK K
      have HBb := Lib.hid (HBa.out.trans (((Below.refl _ wa).alloc (Nat.le_refl _) (.cells (Array.replicate 208 (.int .u8 0)) 5)).mono HBa.out.size))
      obtain ⟨wb, hwb⟩ : ∃ wb, wa.alloc (.cells (Array.replicate 208 (.int .u8 0)) 5) = wb := ⟨_, rfl⟩
      rw [hwb] at HBb ⊢
      clear hwb
      try simp only [Act.put, List.setIfInBounds_toArray, List.set_cons_zero, List.set_cons_succ]
      refine wpS_lone rfl (by kernel_rfl) (fun K hK => ?_)
      go_simp
      refine (check_size _ 16 _ _ 208 208 (by omega) wb).mono ?_
      rintro e wc ⟨rfl, bc⟩
      refine hK _ _ (Stays.of_below bc) ?_
      clear hK K
      have HBc := Lib.hid (HBb.out.trans (bc.mono HBb.out.size)); clear bc
      try simp only [Act.put, List.setIfInBounds_toArray, List.set_cons_zero, List.set_cons_succ]
      iterate 5 (
        refine wpS_read (v := ?_) rfl (by kernel_rfl) (by kernel_rfl) (by kernel_rfl) (fun _ _ _ h => h) (.inl ⟨by rfl, ?_⟩) ?_
        rotate_left
        · intro W hW
          go_simp
          with_reducible rfl
        try simp only [Act.put, List.setIfInBounds_toArray, List.set_cons_zero, List.set_cons_succ])
      refine wpS_done (by kernel_rfl) ?_
      go_wp2_with fail
      go_meet
      exact ⟨rfl, rfl, HBc.out⟩
    · go_simp
      refine hK _ _ (Stays.of_below ((Below.refl _ wd).alloc (Nat.le_refl _) _)) ?_
      clear hK K
      have HBa := Lib.hid (HBd.out.trans (((Below.refl _ wd).alloc (Nat.le_refl _) (.cells (Array.replicate 208 (.int .u8 0)) 5)).mono HBd.out.size))
      obtain ⟨wa, hwa⟩ : ∃ wa, wd.alloc (.cells (Array.replicate 208 (.int .u8 0)) 5) = wa := ⟨_, rfl⟩
      rw [hwa] at HBa ⊢
      clear hwa
      try simp only [Act.put, List.setIfInBounds_toArray, List.set_cons_zero, List.set_cons_succ]
      refine wpS_lone rfl (by kernel_rfl) (fun K hK => ?_)
      go_simp
      refine hK _ _ (Stays.of_below ((Below.refl _ wa).alloc (Nat.le_refl _) _)) ?_
      clear hK K
      have HBb := Lib.hid (HBa.out.trans (((Below.refl _ wa).alloc (Nat.le_refl _) (.cells (Array.replicate 16 (.int .u8 0)) 5)).mono HBa.out.size))
      obtain ⟨wb, hwb⟩ : ∃ wb, wa.alloc (.cells (Array.replicate 16 (.int .u8 0)) 5) = wb := ⟨_, rfl⟩
      rw [hwb] at HBb ⊢
      clear hwb
      try simp only [Act.put, List.setIfInBounds_toArray, List.set_cons_zero, List.set_cons_succ]
      refine wpS_lone rfl (by kernel_rfl) (fun K hK => ?_)
      go_simp
      refine (check_size _ 16 _ _ 208 208 (by omega) wb).mono ?_
      rintro e wc ⟨rfl, bc⟩
      refine hK _ _ (Stays.of_below bc) ?_
      clear hK K
      have HBc := Lib.hid (HBb.out.trans (bc.mono HBb.out.size)); clear bc
      try simp only [Act.put, List.setIfInBounds_toArray, List.set_cons_zero, List.set_cons_succ]
      iterate 5 (
        refine wpS_read (v := ?_) rfl (by kernel_rfl) (by kernel_rfl) (by kernel_rfl) (fun _ _ _ h => h) (.inl ⟨by rfl, ?_⟩) ?_
        rotate_left
        · intro W hW
          go_simp
          with_reducible rfl
        try simp only [Act.put, List.setIfInBounds_toArray, List.set_cons_zero, List.set_cons_succ])
      refine wpS_done (by kernel_rfl) ?_
      go_wp2_with fail
      go_meet
      exact ⟨rfl, rfl, HBc.out⟩
  obtain ⟨rfl, rfl, hb⟩ := hcut
  obtain ⟨gl, hgl⟩ : ∃ gl, wc.heap.size = gl := ⟨_, rfl⟩
  obtain ⟨w3, hw3⟩ : ∃ w3, wc.alloc (.cells (Array.replicate 209 (.int .u8 0)) 5) = w3 := ⟨_, rfl⟩
  have y3 : Blk w3 gl 5 (Array.replicate 209 (.int .u8 0)) := by rw [← hw3, ← hgl]; exact Blk.new wc _ _
  have b3 : Below w.heap.size w w3 := by rw [← hw3]; exact hb.alloc hb.size _
  have c3 : w3.cell? ⟨gl, 0, none⟩ = some (.int .u8 0) := by rw [y3.cell 0]; simp
  have f3 := y3.frozen 0
  have hwg : w.heap.size ≤ gl := by rw [← hgl]; exact hb.size
  have HY3 := Lib.hid y3
  have HB3 := Lib.hid b3
  clear HB2 hb y3 b3
  go_wp2_with fail
  obtain ⟨w4, hw4⟩ : ∃ w4, w3.setCell ⟨gl, 0, none⟩ (.int .u8 8) = w4 := ⟨_, rfl⟩
  have y4 : Blk w4 gl 5 (ar (8 :: List.replicate 208 0)) := by rw [← hw4]; exact replicate_set w3 gl HY3.out
  have b4 : Below w.heap.size w w4 := by rw [← hw4]; exact HB3.out.setCell (p := ⟨gl, 0, none⟩) hwg _
  clear hw3 c3 f3 hgl HY3 HB3
  rw [hw4]
  clear hw4
  obtain ⟨w5, hw5⟩ : ∃ w5, w4.alloc (.cells (Array.replicate 16 (.int .u8 0)) 5) = w5 := ⟨_, rfl⟩
  have b45 : Below w4.heap.size w4 w5 := by rw [← hw5]; exact (Below.refl _ w4).alloc (Nat.le_refl _) _
  have q5 : Bsl w5 w5.heap.size (some ⟨gl, 0, none⟩) 209 209 (8 :: List.replicate 208 0) := (y4.bsl (by simp) (by omega)).step b45
  have HB5 := Lib.hid (b4.trans (b45.mono b4.size))
  rw [hw5]
  clear hw5 b45 y4 b4
  have hlf := check_leaf (some ⟨w3.heap.size, 0, none⟩) 16 (.slice none 0 0) gl 0 209 _ w5 q5 (by decide)
  refine hlf.mono ?_
  rintro e w6 ⟨rfl, b6⟩
  have HB6 := Lib.hid (HB5.out.trans (b6.mono HB5.out.size))
  clear b6 q5 hlf HB5
  obtain ⟨w7, hw7⟩ : ∃ w7, w6.alloc (.cells (Array.replicate 16 (.int .u8 0)) 5) = w7 := ⟨_, rfl⟩
  have HB7 := Lib.hid (show Below w.heap.size w w7 by rw [← hw7]; exact HB6.out.alloc HB6.out.size _)
  have hs := sSign_may (some ⟨w6.heap.size, 0, none⟩) 16 16 9 (.slice none 0 0) (by omega) w7
  have HS := Lib.hid hs
  clear hs HB6
  go_wp2_with fail
  clear hw7
  refine HS.out.mono ?_
  rintro e w8 ⟨rfl, b8⟩
  have HB8 := Lib.hid (HB7.out.trans (b8.mono HB7.out.size))
  clear b8 HS HB7
  obtain ⟨w10, hw10⟩ : ∃ w10, (w8.alloc (.cells #[.slice none 0 0, .int .i64 0] 24)).alloc (.cells (Array.replicate 15 (.int .u8 0)) 5) = w10 := ⟨_, rfl⟩
  have HB10 := Lib.hid (show Below w.heap.size w w10 by rw [← hw10]; exact (HB8.out.alloc HB8.out.size _).alloc (by rw [World.size_alloc]; have := HB8.out.size; omega) _)
  have hk := check_key (some ⟨w8.heap.size + 1, 0, none⟩) 15 15 (by omega) (.slice none 0 0) (.slice (some ⟨gl, 0, none⟩) 209 209) w10
  have HK := Lib.hid hk
  clear hk HB8
  go_wp2_with fail
  clear hw10
  refine HK.out.mono ?_
  rintro e w11 ⟨rfl, b11⟩
  have HB11 := Lib.hid (HB10.out.trans (b11.mono HB10.out.size))
  have HAL := Lib.hid (alive_sign w11)
  clear b11 HK HB10
  go_wp2_with fail
  refine HAL.out.mono ?_
  rintro e w12 ⟨rfl, b12⟩
  have HB12 := Lib.hid (HB11.out.trans (b12.mono HB11.out.size))
  clear b12 HAL HB11
  go_wp2_with fail
  go_ret
  exact ⟨rfl, HB12.out⟩
end Go.Proofs.Ytoednighmdoooaa

namespace Go.Proofs.Ytoednighmdoooaa.signNames
open Go.ChangeShapes Go.WideShapes Go.ChangeAt Go.RowKit
set_option linter.unusedVariables false

theorem own : ownKnob Try.prog.godebug = none := by kernel_rfl
theorem laidOut : laidOutB Try.prog = true := by kernel_rfl

set_option maxRecDepth 100000 in
theorem lifted (os : Os) (started : os.Started) (H : Type) (enc : TypeId × Value → H) :
    ReturnsInHanded {} Try.checked os 3 .any (Rows.signNamesSpec.pre6 enc Try.prog Try.f3 Rows.signNamesRow.domain false) (Rows.signNamesSpec.post enc Try.prog Try.f3 false true false false) := by
  refine returnsInHanded_of_change (C := Try.checked) own started (by kernel_rfl) Try.func3
    (ChangeSpec.witness6 (enc := enc) (C := Try.checked) false ⟨#[], #[], []⟩ 8 (by kernel_rfl) (by kernel_rfl) (by kernel_rfl) (by kernel_rfl)) ?_
  intro W base args ds gs before hval0 hW hcnd _
  have hval : ∀ (j : Nat) t v, Try.f3.params[j]? = some t → args[j]? = some v → Value.okWide Try.prog W .any base t v := hval0
  have hW' := hW
  obtain ⟨p, q, hA0, hV, rfl, hfz, hnd⟩ := hW
  have hA : DataW.TrodAll enc Try.prog W 0 (fun _ => true) true Try.f3.params.toList args.toList ds p := hA0
  rw [Try.params3] at hA hval
  obtain ⟨rfl, rfl, rfl⟩ := trodAll_none hA
  obtain ⟨rfl, rfl⟩ := trodVars_none hV
  clear hA0 hval0
  refine (signNames_walk  W).mono fun e W' ⟨he, bel⟩ => ?_
  subst he
  exact ⟨_, rfl, _, _, _, [], _, [], hW', trodAll_mk1 (shut_bool Try.underlying4 _), rfl, rfl, bel.frame _, fun h => by cases h⟩

theorem over : Rows.signNamesRow.holds Try.pinned (OpenSpec.ofChange Rows.signNamesSpec) :=
  OpenClaim.holds_of_wide 3 Try.f3 rfl rfl rfl rfl rfl rfl rfl ⟨rfl, rfl, rfl, rfl, rfl⟩ rfl rfl rfl rfl rfl (by kernel_rfl) Try.func3 (by kernel_rfl)
    (of_decide_eq_true (by kernel_rfl)) (by unfold Func.isWrapper; first | (rw [if_pos (by decide +kernel)]; kernel_rfl) | (rw [if_neg (by decide +kernel)]; exact ⟨rfl, rfl⟩))
    (fun os started H enc _ => lifted os started H enc)

/-- The statement. -/
theorem proved : Rows.SignNamesSaid := over
end Go.Proofs.Ytoednighmdoooaa.signNames
