/-
  The document's own one, May, Check, Has, With and Add of layer 16.
-/
import Derived.Test.YtadffkfalclpjaaDd
import Derived.Test.YtadffkfalclpjaaRpA
import Derived.Test.YtadffkfalclpjaaPtHi
import Derived.Test.YtadffkfalclpjaaObConc
import Derived.Test.YtadffkfalclpjaaMovI
namespace Go.Proofs.Ytadffkfalclpjaa
open Go.RowKit Go.Shelf
set_option maxRecDepth 100000

theorem ruOne_any (p : Pt) (w : World) (R : Bool) (hR : R = true ↔ OneP p) : Calls Try.prog 20 #[ptV p] w fun e w' => e = .returned (.bool R) ∧ Below w.heap.size w w' := by
  have hb1 : Below w.heap.size w (w.alloc (.cells (ptC p).toArray 25)) := (Below.refl _ w).alloc (Nat.le_refl _) _
  have HB := Lib.hid hb1; clear hb1
  have HK := Lib.hid (show Blk (w.alloc (.cells (ptC p).toArray 25)) w.heap.size 25 (ptC p).toArray from Blk.new w _ _)
  have hm := fun W => rpMay_any p W
  have hn := fun W => rpNone_any p W
  by_cases h : MayP p
  · rw [show decide (MayP p) = true from decide_eq_true h] at hm
    have HM := Lib.hid hm
    have hRn : R = !(eqP p p0) := by
      cases R with
      | true => rw [show eqP p p0 = false from decide_eq_false (hR.1 rfl).2]; rfl
      | false => rw [show eqP p p0 = true from decide_eq_true (by rcases Decidable.em (p = p0) with h' | h'; exact h'; exact absurd (hR.2 ⟨h, h'⟩) (by decide))]; rfl
    rw [hRn]
    obtain ⟨q, hq⟩ : ∃ q, eqP p p0 = q := ⟨_, rfl⟩
    rw [hq] at hn ⊢
    have HN := Lib.hid hn
    clear hm hn hR hRn h hq
    obtain ⟨a, b, c, d, e⟩ := p
    go_enter Try.func20, Try.ntmps20
    go_wp2_with fail
    refine (HM.out _).mono ?_
    rintro ev w1 ⟨rfl, b1⟩
    obtain ⟨c0, c1, c2, c3, c4⟩ := (HK.out.below b1 HK.out.lt).five
    have HB1 := Lib.hid (HB.out.trans (b1.mono (by simp))); clear b1
    go_wp2_with fail
    clear c0 c1 c2 c3 c4
    refine (HN.out _).mono ?_
    rintro ev w2 ⟨rfl, b2⟩
    have HB2 := Lib.hid (HB1.out.trans (b2.mono HB1.out.size)); clear b2
    go_wp2_with fail
    go_ret
    exact ⟨rfl, HB2.out⟩
  · rw [show decide (MayP p) = false from decide_eq_false h] at hm
    have HM := Lib.hid hm
    obtain rfl : R = false := by cases R with | false => rfl | true => exact absurd (hR.1 rfl).1 h
    clear hm hn hR h
    obtain ⟨a, b, c, d, e⟩ := p
    go_enter Try.func20, Try.ntmps20
    go_wp2_with fail
    refine (HM.out _).mono ?_
    rintro ev w1 ⟨rfl, b1⟩
    have HB1 := Lib.hid (HB.out.trans (b1.mono (by simp))); clear b1
    go_wp2_with fail
    go_ret
    exact ⟨rfl, HB1.out⟩
set_option linter.unusedSimpArgs false in
set_option maxHeartbeats 8000000 in
theorem ruMay_any (a : Option Addr) (n c : Nat) (L : List Pt) (w : World) (hL : Pts w w.heap.size a n c L) (R : Bool) (hR : R = true ↔ MayDL L) : Calls Try.prog 19 #[.slice a n c] w fun e w' => e = .returned (.bool R) ∧ Below w.heap.size w w' := by
  have hmx : Try.prog.follows Departure.mixedOrders = true := by kernel_rfl
  have n0 : (0 : Int) ≤ n := by omega
  have n1 : (n : Int) ≤ 9223372036854775807 := by have h1 := hL.2.1; have h2 := hL.2.2.1; unfold maxLen at h2; omega
  have HN := Lib.hid hL.1
  have HP := Lib.hid hL
  clear hL
  by_cases hl : n ≤ 240
  · have l1 : decide ((n : Int) > 240) = false := decide_eq_false (by omega)
    have l2 : decide ((240 : Int) < (n : Int)) = false := decide_eq_false (by omega)
    have HR := Lib.hid (hR.trans (mayDL_steps (by rw [HN.out]; exact hl)))
    clear hR hl
    go_enter Try.func19, Try.ntmps19
    go_wp2_with fail
    clear l1 l2
    go_loopw [3] (fun i wr => ∃ j : Nat, j ≤ n ∧ i = .int .i64 j ∧ (∀ t, t < j → StepDL L t) ∧ Below w.heap.size w wr) (fun i _ => n - (intOf i).toNat)
    case atStart => exact ⟨0, Nat.zero_le _, rfl, fun j hj => absurd hj (Nat.not_lt_zero _), Below.refl _ _⟩
    case round =>
      obtain ⟨j, hj, rfl, hmay, hb⟩ := hrel
      have j0 : (0 : Int) ≤ j := by omega
      have HBR := Lib.hid hb
      have HM := Lib.hid hmay
      clear hb hmay
      by_cases hlt : j < n
      · have j1 : (j : Int) < n := by omega
        obtain ⟨b2, o2, ea, _⟩ := HP.out.cells j hlt
        subst ea
        obtain ⟨⟨ya, yb, yi, yt, ys⟩, hP⟩ : ∃ P, L.getD j p0 = P := ⟨_, rfl⟩
        have HPE := Lib.hid hP
        clear hP
        by_cases h1 : OneP (ya, yb, yi, yt, ys)
        · have HW := Lib.hid (fun W => ruOne_any (ya, yb, yi, yt, ys) W true ⟨fun _ => h1, fun _ => rfl⟩)
          by_cases hj0 : j = 0
          · have d0 : decide ((j : Int) > 0) = false := decide_eq_false (by omega)
            have d0b : decide ((0 : Int) < (j : Int)) = false := decide_eq_false (by omega)
            have d0n : decide (0 < j) = false := decide_eq_false (by omega)
            have d0m : decide (j > 0) = false := decide_eq_false (by omega)
            have HST := Lib.hid (show OneP (ya, yb, yi, yt, ys) ∧ (0 < j → (L.getD (j - 1) p0).1 < (ya, yb, yi, yt, ys).1) from ⟨h1, fun h => absurd hj0 (by omega)⟩)
            clear h1 hj0
            go_wp2_with fail
            obtain ⟨wd, hwd⟩ : ∃ wd, wr.drew = wd := ⟨_, rfl⟩
            have bq : Below wr.heap.size wr wd := by rw [← hwd]; exact (Below.refl _ wr).drew
            have HPR := Lib.hid (HP.out.step (HBR.out.trans (bq.mono HBR.out.size)))
            have HBD := Lib.hid (HBR.out.trans (bq.mono HBR.out.size))
            have hwd0 := Below.refl wd.heap.size wd
            refine wpI_start (Below wd.heap.size wd) [0, 1, 2, 3, 4, 5, 6, 7, 8, 9, 10, 11, 12, 13, 14, 15, 16, 17, 18, 19, 20, 21, 22, 23] hmx rfl hwd ?_
            clear hwd bq
            iterate 4 (
              refine wpI_read (v := ?_) hwd0 rfl (by kernel_rfl) (by kernel_rfl) (by kernel_rfl) (fun _ _ _ h => h) (.inl ⟨by rfl, ?_⟩) ?_
              rotate_left
              · intro X hX
                obtain ⟨_, _, ea, _, _, v0_, v1_, v2_, v3_, v4_⟩ := (HPR.out.step hX).cells j hlt
                cases ea
                rw [HPE.out] at v0_ v1_ v2_ v3_ v4_
                simp only at v0_ v1_ v2_ v3_ v4_
                clear hX
                go_simp
                with_reducible rfl
              try simp only [Act.put, List.setIfInBounds_toArray, List.set_cons_zero, List.set_cons_succ])
            refine wpI_lone rfl (by kernel_rfl) (fun K hK => ?_)
            go_simp
            refine (HW.out wd).mono ?_
            rintro ev w1 ⟨rfl, b1⟩
            replace hwd0 := hwd0.trans b1
            refine hK _ _ hwd0 ?_
            clear hK K b1
            try simp only [Act.put, List.setIfInBounds_toArray, List.set_cons_zero, List.set_cons_succ]
            iterate 5 (
              refine wpI_read (v := ?_) hwd0 rfl (by kernel_rfl) (by kernel_rfl) (by kernel_rfl) (fun _ _ _ h => h) (.inl ⟨by rfl, ?_⟩) ?_
              rotate_left
              · intro X hX
                clear hX
                go_simp
                with_reducible rfl
              try simp only [Act.put, List.setIfInBounds_toArray, List.set_cons_zero, List.set_cons_succ])
            iterate 12 (
              refine wpI_read (v := undef) hwd0 rfl (by kernel_rfl) (by kernel_rfl) (by kernel_rfl) (fun _ _ _ h => h) (.inr ⟨by rfl, rfl⟩) ?_
              try simp only [Act.put, List.setIfInBounds_toArray, List.set_cons_zero, List.set_cons_succ])
            iterate 2 (
              refine wpI_read (v := ?_) hwd0 rfl (by kernel_rfl) (by kernel_rfl) (by kernel_rfl) (fun _ _ _ h => h) (.inl ⟨by rfl, ?_⟩) ?_
              rotate_left
              · intro X hX
                clear hX
                go_simp
                with_reducible rfl
              try simp only [Act.put, List.setIfInBounds_toArray, List.set_cons_zero, List.set_cons_succ])
            refine wpI_done (by kernel_rfl) ?_
            have HB9 := Lib.hid (HBD.out.trans (hwd0.mono HBD.out.size))
            clear hwd0
            go_wp2_with fail
            go_roundw
            case rel =>
              refine ⟨j + 1, by omega, by go_num, fun t ht => ?_, HB9.out⟩
              by_cases e : t = j
              · subst e
                rw [StepDL, HPE.out]
                exact HST.out
              · exact HM.out t (by omega)
            case measure => simp [intOf]; omega
          · have d0 : decide ((j : Int) > 0) = true := decide_eq_true (by omega)
            have d0b : decide ((0 : Int) < (j : Int)) = true := decide_eq_true (by omega)
            have d0n : decide (0 < j) = true := decide_eq_true (by omega)
            have d0m : decide (j > 0) = true := decide_eq_true (by omega)
            have HJP := Lib.hid (show 0 < j by omega)
            clear hj0
            obtain ⟨i, hi⟩ : ∃ i, i = j - 1 := ⟨_, rfl⟩
            have hjp := HJP.out
            have hii : i < n := by omega
            have e1 : (j : Int) - 1 = (i : Int) := by omega
            have i0 : (0 : Int) ≤ (i : Int) := by omega
            have i1 : (i : Int) < n := by omega
            have hwr : IntKind.i64.wrap (i : Int) = (i : Int) := by simp [IntKind.wrap, IntKind.bits, IntKind.signed]; omega
            have j9 : (j : Int) - 1 ≤ 9223372036854775807 := by omega
            clear hjp
            obtain ⟨qx, hqx⟩ : ∃ z : Int, (L.getD i p0).1 = z := ⟨_, rfl⟩
            have HQX := Lib.hid hqx
            have HI := Lib.hid hi
            clear hi hqx
            by_cases h2 : qx < ya
            · have d1 : decide (ya ≤ qx) = false := decide_eq_false (by omega)
              have HST := Lib.hid (show OneP (ya, yb, yi, yt, ys) ∧ (0 < j → (L.getD (j - 1) p0).1 < (ya, yb, yi, yt, ys).1) from ⟨h1, fun _ => by rw [← HI.out, HQX.out]; exact h2⟩)
              clear h1 h2
              go_wp2_with fail
              obtain ⟨wd, hwd⟩ : ∃ wd, wr.drew = wd := ⟨_, rfl⟩
              have bq : Below wr.heap.size wr wd := by rw [← hwd]; exact (Below.refl _ wr).drew
              have HPR := Lib.hid (HP.out.step (HBR.out.trans (bq.mono HBR.out.size)))
              have HBD := Lib.hid (HBR.out.trans (bq.mono HBR.out.size))
              have hwd0 := Below.refl wd.heap.size wd
              refine wpI_start (Below wd.heap.size wd) [0, 1, 2, 3, 4, 5, 6, 7, 8, 9, 10, 11, 12, 13, 14, 15, 16, 17, 18, 19, 20, 21, 22, 23] hmx rfl hwd ?_
              clear hwd bq
              iterate 4 (
                refine wpI_read (v := ?_) hwd0 rfl (by kernel_rfl) (by kernel_rfl) (by kernel_rfl) (fun _ _ _ h => h) (.inl ⟨by rfl, ?_⟩) ?_
                rotate_left
                · intro X hX
                  obtain ⟨_, _, ea, _, _, v0_, v1_, v2_, v3_, v4_⟩ := (HPR.out.step hX).cells j hlt
                  cases ea
                  rw [HPE.out] at v0_ v1_ v2_ v3_ v4_
                  simp only at v0_ v1_ v2_ v3_ v4_
                  clear hX
                  go_simp
                  with_reducible rfl
                try simp only [Act.put, List.setIfInBounds_toArray, List.set_cons_zero, List.set_cons_succ])
              refine wpI_lone rfl (by kernel_rfl) (fun K hK => ?_)
              go_simp
              refine (HW.out wd).mono ?_
              rintro ev w1 ⟨rfl, b1⟩
              replace hwd0 := hwd0.trans b1
              refine hK _ _ hwd0 ?_
              clear hK K b1
              try simp only [Act.put, List.setIfInBounds_toArray, List.set_cons_zero, List.set_cons_succ]
              iterate 19 (
                refine wpI_read (v := ?_) hwd0 rfl (by kernel_rfl) (by kernel_rfl) (by kernel_rfl) (fun _ _ _ h => h) (.inl ⟨by rfl, ?_⟩) ?_
                rotate_left
                · intro X hX
                  obtain ⟨_, _, ea, _, _, v0_, v1_, v2_, v3_, v4_⟩ := (HPR.out.step hX).cells j hlt
                  cases ea
                  rw [HPE.out] at v0_ v1_ v2_ v3_ v4_
                  simp only at v0_ v1_ v2_ v3_ v4_
                  obtain ⟨_, _, ea, _, _, u0_, _, _, _, _⟩ := (HPR.out.step hX).cells i hii
                  cases ea
                  rw [HQX.out] at u0_
                  clear hX
                  go_simp
                  with_reducible rfl
                try simp only [Act.put, List.setIfInBounds_toArray, List.set_cons_zero, List.set_cons_succ])
              refine wpI_done (by kernel_rfl) ?_
              have HB9 := Lib.hid (HBD.out.trans (hwd0.mono HBD.out.size))
              clear hwd0
              go_wp2_with fail
              go_roundw
              case rel =>
                refine ⟨j + 1, by omega, by go_num, fun t ht => ?_, HB9.out⟩
                by_cases e : t = j
                · subst e
                  rw [StepDL, HPE.out]
                  exact HST.out
                · exact HM.out t (by omega)
              case measure => simp [intOf]; omega
            · have d1 : decide (ya ≤ qx) = true := decide_eq_true (by omega)
              obtain rfl : R = false := by
                cases R with
                | false => rfl
                | true =>
                  have := HR.out.1 rfl j (by rw [HN.out]; exact hlt)
                  rw [StepDL, HPE.out] at this
                  exact absurd (this.2 HJP.out) (by rw [← HI.out, HQX.out]; exact h2)
              clear h1 h2
              go_wp2_with fail
              obtain ⟨wd, hwd⟩ : ∃ wd, wr.drew = wd := ⟨_, rfl⟩
              have bq : Below wr.heap.size wr wd := by rw [← hwd]; exact (Below.refl _ wr).drew
              have HPR := Lib.hid (HP.out.step (HBR.out.trans (bq.mono HBR.out.size)))
              have HBD := Lib.hid (HBR.out.trans (bq.mono HBR.out.size))
              have hwd0 := Below.refl wd.heap.size wd
              refine wpI_start (Below wd.heap.size wd) [0, 1, 2, 3, 4, 5, 6, 7, 8, 9, 10, 11, 12, 13, 14, 15, 16, 17, 18, 19, 20, 21, 22, 23] hmx rfl hwd ?_
              clear hwd bq
              iterate 4 (
                refine wpI_read (v := ?_) hwd0 rfl (by kernel_rfl) (by kernel_rfl) (by kernel_rfl) (fun _ _ _ h => h) (.inl ⟨by rfl, ?_⟩) ?_
                rotate_left
                · intro X hX
                  obtain ⟨_, _, ea, _, _, v0_, v1_, v2_, v3_, v4_⟩ := (HPR.out.step hX).cells j hlt
                  cases ea
                  rw [HPE.out] at v0_ v1_ v2_ v3_ v4_
                  simp only at v0_ v1_ v2_ v3_ v4_
                  clear hX
                  go_simp
                  with_reducible rfl
                try simp only [Act.put, List.setIfInBounds_toArray, List.set_cons_zero, List.set_cons_succ])
              refine wpI_lone rfl (by kernel_rfl) (fun K hK => ?_)
              go_simp
              refine (HW.out wd).mono ?_
              rintro ev w1 ⟨rfl, b1⟩
              replace hwd0 := hwd0.trans b1
              refine hK _ _ hwd0 ?_
              clear hK K b1
              try simp only [Act.put, List.setIfInBounds_toArray, List.set_cons_zero, List.set_cons_succ]
              iterate 19 (
                refine wpI_read (v := ?_) hwd0 rfl (by kernel_rfl) (by kernel_rfl) (by kernel_rfl) (fun _ _ _ h => h) (.inl ⟨by rfl, ?_⟩) ?_
                rotate_left
                · intro X hX
                  obtain ⟨_, _, ea, _, _, v0_, v1_, v2_, v3_, v4_⟩ := (HPR.out.step hX).cells j hlt
                  cases ea
                  rw [HPE.out] at v0_ v1_ v2_ v3_ v4_
                  simp only at v0_ v1_ v2_ v3_ v4_
                  obtain ⟨_, _, ea, _, _, u0_, _, _, _, _⟩ := (HPR.out.step hX).cells i hii
                  cases ea
                  rw [HQX.out] at u0_
                  clear hX
                  go_simp
                  with_reducible rfl
                try simp only [Act.put, List.setIfInBounds_toArray, List.set_cons_zero, List.set_cons_succ])
              refine wpI_done (by kernel_rfl) ?_
              have HB9 := Lib.hid (HBD.out.trans (hwd0.mono HBD.out.size))
              clear hwd0
              go_wp2_with fail
              go_ret
              exact ⟨rfl, HB9.out⟩
        · have HW := Lib.hid (fun W => ruOne_any (ya, yb, yi, yt, ys) W false ⟨fun x => (by cases x), fun x => absurd x h1⟩)
          obtain rfl : R = false := by
            cases R with
            | false => rfl
            | true =>
              have := HR.out.1 rfl j (by rw [HN.out]; exact hlt)
              rw [StepDL, HPE.out] at this
              exact absurd this.1 h1
          clear h1
          go_wp2_with fail
          obtain ⟨wd, hwd⟩ : ∃ wd, wr.drew = wd := ⟨_, rfl⟩
          have bq : Below wr.heap.size wr wd := by rw [← hwd]; exact (Below.refl _ wr).drew
          have HPR := Lib.hid (HP.out.step (HBR.out.trans (bq.mono HBR.out.size)))
          have HBD := Lib.hid (HBR.out.trans (bq.mono HBR.out.size))
          have hwd0 := Below.refl wd.heap.size wd
          refine wpI_start (Below wd.heap.size wd) [0, 1, 2, 3, 4, 5, 6, 7, 8, 9, 10, 11, 12, 13, 14, 15, 16, 17, 18, 19, 20, 21, 22, 23] hmx rfl hwd ?_
          clear hwd bq
          iterate 4 (
            refine wpI_read (v := ?_) hwd0 rfl (by kernel_rfl) (by kernel_rfl) (by kernel_rfl) (fun _ _ _ h => h) (.inl ⟨by rfl, ?_⟩) ?_
            rotate_left
            · intro X hX
              obtain ⟨_, _, ea, _, _, v0_, v1_, v2_, v3_, v4_⟩ := (HPR.out.step hX).cells j hlt
              cases ea
              rw [HPE.out] at v0_ v1_ v2_ v3_ v4_
              simp only at v0_ v1_ v2_ v3_ v4_
              clear hX
              go_simp
              with_reducible rfl
            try simp only [Act.put, List.setIfInBounds_toArray, List.set_cons_zero, List.set_cons_succ])
          refine wpI_lone rfl (by kernel_rfl) (fun K hK => ?_)
          go_simp
          refine (HW.out wd).mono ?_
          rintro ev w1 ⟨rfl, b1⟩
          replace hwd0 := hwd0.trans b1
          refine hK _ _ hwd0 ?_
          clear hK K b1
          try simp only [Act.put, List.setIfInBounds_toArray, List.set_cons_zero, List.set_cons_succ]
          iterate 2 (
            refine wpI_read (v := ?_) hwd0 rfl (by kernel_rfl) (by kernel_rfl) (by kernel_rfl) (fun _ _ _ h => h) (.inl ⟨by rfl, ?_⟩) ?_
            rotate_left
            · intro X hX
              clear hX
              go_simp
              with_reducible rfl
            try simp only [Act.put, List.setIfInBounds_toArray, List.set_cons_zero, List.set_cons_succ])
          iterate 16 (
            refine wpI_read (v := undef) hwd0 rfl (by kernel_rfl) (by kernel_rfl) (by kernel_rfl) (fun _ _ _ h => h) (.inr ⟨by rfl, rfl⟩) ?_
            try simp only [Act.put, List.setIfInBounds_toArray, List.set_cons_zero, List.set_cons_succ])
          iterate 1 (
            refine wpI_read (v := ?_) hwd0 rfl (by kernel_rfl) (by kernel_rfl) (by kernel_rfl) (fun _ _ _ h => h) (.inl ⟨by rfl, ?_⟩) ?_
            rotate_left
            · intro X hX
              clear hX
              go_simp
              with_reducible rfl
            try simp only [Act.put, List.setIfInBounds_toArray, List.set_cons_zero, List.set_cons_succ])
          refine wpI_done (by kernel_rfl) ?_
          have HB9 := Lib.hid (HBD.out.trans (hwd0.mono HBD.out.size))
          clear hwd0
          go_wp2_with fail
          go_ret
          exact ⟨rfl, HB9.out⟩
      · obtain rfl : j = n := by omega
        obtain rfl : R = true := HR.out.2 fun i hi => HM.out i (by rw [HN.out] at hi; exact hi)
        clear hlt hj
        go_wp2_with fail
        go_ret
        exact ⟨rfl, HBR.out⟩
  · have l1 : decide ((n : Int) > 240) = true := decide_eq_true (by omega)
    have l2 : decide ((240 : Int) < (n : Int)) = true := decide_eq_true (by omega)
    obtain rfl : R = false := by cases R with | false => rfl | true => exact absurd (hR.1 rfl).1 (by rw [HN.out]; exact hl)
    clear hR hl
    go_enter Try.func19, Try.ntmps19
    go_wp2_with fail
    go_ret
    exact ⟨rfl, Below.refl _ _⟩
theorem ruCheck_any (a : Option Addr) (n c : Nat) (L : List Pt) (w : World) (hL : Pts w w.heap.size a n c L) (z : Nat) (hz : (MayDL L → z = 0) ∧ (¬ MayDL L → z = 8)) : Calls Try.prog 15 #[.slice a n c] w fun e w' => e = .returned (.int .i64 z) ∧ Below w.heap.size w w' := by
  by_cases h : MayDL L
  · obtain rfl : z = 0 := hz.1 h
    have HM := Lib.hid (ruMay_any a n c L w hL true ⟨fun _ => h, fun _ => rfl⟩)
    clear h hL hz
    go_enter Try.func15, Try.ntmps15
    go_wp2_with (go_at_call 19; refine HM.out.mono ?_; rintro ev w1 ⟨rfl, b1⟩; have HB1 := Lib.hid b1; clear b1)
    go_ret
    exact ⟨rfl, HB1.out⟩
  · obtain rfl : z = 8 := hz.2 h
    have HM := Lib.hid (ruMay_any a n c L w hL false ⟨fun x => (by cases x), fun x => absurd x h⟩)
    clear h hL hz
    go_enter Try.func15, Try.ntmps15
    go_wp2_with (go_at_call 19; refine HM.out.mono ?_; rintro ev w1 ⟨rfl, b1⟩; have HB1 := Lib.hid b1; clear b1)
    go_ret
    exact ⟨rfl, HB1.out⟩
set_option maxHeartbeats 2000000 in
theorem ruHas_any (a : Option Addr) (n c : Nat) (L : List Pt) (x : Int) (w : World) (hL : Pts w w.heap.size a n c L) (R : Bool) (hR : R = true ↔ HasAt L x) : Calls Try.prog 21 #[.slice a n c, .int .i64 x] w fun e w' => e = .returned (.bool R) ∧ Below w.heap.size w w' := by
  have n0 : (0 : Int) ≤ n := by omega
  have n1 : (n : Int) ≤ 9223372036854775807 := by have h1 := hL.2.1; have h2 := hL.2.2.1; unfold maxLen at h2; omega
  have HN := Lib.hid hL.1
  have HP := Lib.hid hL
  have HR := Lib.hid hR
  clear hL hR
  go_enter Try.func21, Try.ntmps21
  go_wp2_with fail
  go_loopw [5] (fun i wr => ∃ j : Nat, j ≤ n ∧ i = .int .i64 j ∧ (∀ t, t < j → (L.getD t p0).1 ≠ x) ∧ Below w.heap.size w wr) (fun i _ => n - (intOf i).toNat)
  case atStart => exact ⟨0, Nat.zero_le _, rfl, fun j hj => absurd hj (Nat.not_lt_zero _), Below.refl _ _⟩
  case round =>
    obtain ⟨j, hj, rfl, hmay, hb⟩ := hrel
    have j0 : (0 : Int) ≤ j := by omega
    have HBR := Lib.hid hb
    have HM := Lib.hid hmay
    clear hb hmay
    by_cases hlt : j < n
    · have j1 : (j : Int) < n := by omega
      obtain ⟨bp, op_, ea, hblt, hwf, p0_, p1_, p2_, p3_, p4_⟩ := (HP.out.below HBR.out).cells j hlt
      obtain ⟨z, hz⟩ : ∃ z : Int, (L.getD j p0).1 = z := ⟨_, rfl⟩
      rw [hz] at p0_
      subst ea
      have HZ := Lib.hid hz
      clear hz hblt hwf p1_ p2_ p3_ p4_
      by_cases h : z = x
      · subst h
        obtain rfl : R = true := HR.out.2 ⟨L.getD j p0, by rw [ddGetD (by rw [HN.out]; exact hlt)]; exact List.getElem_mem _, HZ.out⟩
        go_wp2_with fail
        go_ret
        exact ⟨rfl, HBR.out⟩
      · have d1 : (z == x) = false := by simpa using h
        have HH := Lib.hid h
        clear h
        go_wp2_with fail
        go_roundw
        case rel =>
          refine ⟨j + 1, by omega, by go_num, fun t ht => ?_, HBR.out⟩
          by_cases e : t = j
          · subst e
            rw [HZ.out]
            exact HH.out
          · exact HM.out t (by omega)
        case measure => simp [intOf]; omega
    · obtain rfl : j = n := by omega
      obtain rfl : R = false := by
        cases R with
        | false => rfl
        | true =>
          obtain ⟨p, hp, e⟩ := HR.out.1 rfl
          obtain ⟨i, hi, rfl⟩ := List.getElem_of_mem hp
          have := HM.out i (by rw [HN.out] at hi; exact hi)
          rw [ddGetD hi] at this
          exact absurd e this
      clear hlt hj
      go_wp2_with fail
      go_ret
      exact ⟨rfl, HBR.out⟩
/-- As With's loop has it. -/
def wthL (b : Bool) (l : List Pt) (p : Pt) : List Pt := if b then inDL l p else l
theorem wthL_len (b : Bool) (l : List Pt) (p : Pt) : (wthL b l p).length ≤ l.length + 1 := by
  unfold wthL
  split
  · rw [inDL_length]; omega
  · omega
set_option linter.unusedSimpArgs false in
set_option maxHeartbeats 8000000 in
theorem ruWith_any (a : Option Addr) (n c : Nat) (L : List Pt) (p : Pt) (w : World) (hL : Pts w w.heap.size a n c L) (hp : WfP p) (hn : n ≤ 1000) : Calls Try.prog 22 #[.slice a n c, ptV p] w (POwn (inDL L p) w) := by
  have hmx : Try.prog.follows Departure.mixedOrders = true := by kernel_rfl
  have n0 : (0 : Int) ≤ n := by omega
  have n1 : (n : Int) ≤ 1000 := by omega
  have HN := Lib.hid hL.1
  have HWL := Lib.hid (fun q (hq : q ∈ L) => hL.wf hq)
  have HWP := Lib.hid hp
  obtain ⟨pa, pb, pi, pt, ps⟩ := p
  obtain ⟨w0, hw0⟩ : ∃ w0, w.alloc (.cells (ptC (pa, pb, pi, pt, ps)).toArray 25) = w0 := ⟨_, rfl⟩
  obtain ⟨g, hg⟩ : ∃ g, w.heap.size = g := ⟨_, rfl⟩
  have hb0 : Below w.heap.size w w0 := by rw [← hw0]; exact (Below.refl _ w).alloc (Nat.le_refl _) _
  have hk0 : Blk w0 w.heap.size 25 (ptC (pa, pb, pi, pt, ps)).toArray := by rw [← hw0]; exact Blk.new w _ _
  have HP := Lib.hid (hL.step hb0)
  have HB0 := Lib.hid hb0
  rw [hg] at hk0
  have HK := Lib.hid hk0
  simp only [ptC] at hw0
  clear hL hp hb0 hk0 hn
  go_enter Try.func22, Try.ntmps22
  go_wp2_with fail
  try rw [hw0]
  try rw [hg]
  clear hw0 hg
  go_loopw [5, 6, 7] (fun v pb' i wr => ∃ (j : Nat) (bb : Bool), j ≤ n ∧ i = .int .i64 j ∧ pb' = .bool bb ∧ (bb = true ↔ ∃ t, t < j ∧ pa < (L.getD t p0).1) ∧ PRow wr w0.heap.size v (wthL bb (L.take j) (pa, pb, pi, pt, ps)) ∧ Below w0.heap.size w0 wr) (fun _ _ i _ => n - (intOf i).toNat)
  case atStart => exact ⟨0, false, Nat.zero_le _, rfl, rfl, ⟨fun h => (by cases h), fun ⟨_, h, _⟩ => absurd h (Nat.not_lt_zero _)⟩, prow_nil _ _, Below.refl _ _⟩
  case round =>
    obtain ⟨j, bb, hj, rfl, rfl, hbb, hro, hb⟩ := hrel
    obtain ⟨v, hv⟩ : ∃ v : Value, u5 = v := ⟨_, rfl⟩
    rw [hv] at hro ⊢
    clear hv
    have j0 : (0 : Int) ≤ j := by omega
    have HBR := Lib.hid hb
    have HRO := Lib.hid hro
    have HBB := Lib.hid hbb
    clear hb hro hbb
    by_cases hlt : j < n
    · have hjl : j < L.length := by rw [HN.out]; exact hlt
      obtain ⟨⟨ya, yb, yi, yt, ys⟩, hP⟩ : ∃ P, L.getD j p0 = P := ⟨_, rfl⟩
      have HPE := Lib.hid hP
      have HWJ := Lib.hid (show WfP (ya, yb, yi, yt, ys) from HWL.out _ (by rw [← hP, ddGetD hjl]; exact List.getElem_mem _))
      clear hP
      have j1 : (j : Int) < n := by omega
      cases bb with
      | true =>
        have HEX := Lib.hid (HBB.out.1 rfl)
        have HLN := Lib.hid (show (wthL true (L.take j) (pa, pb, pi, pt, ps)).length + 2 ≤ 1000000 by have := wthL_len true (L.take j) (pa, pb, pi, pt, ps); rw [List.length_take] at this; omega)
        obtain ⟨_, _, ea, _, _, v0_, v1_, v2_, v3_, v4_⟩ := (HP.out.below HBR.out).cells j hlt
        cases ea
        rw [HPE.out] at v0_ v1_ v2_ v3_ v4_
        simp only at v0_ v1_ v2_ v3_ v4_
        obtain ⟨c0, c1, c2, c3, c4⟩ := (HK.out.below HBR.out HK.out.lt).five
        go_wp2_with fail
        go_quiet (fail)
        obtain ⟨wq, hwq⟩ : ∃ X, wr.drewN nq = X := ⟨_, rfl⟩
        rw [hwq]
        have bq : Below w0.heap.size w0 wq := by rw [← hwq]; exact below_drewN HBR.out _
        have HRQ := Lib.hid (show PRow wq w0.heap.size v _ by rw [← hwq]; exact HRO.out.below (below_drewN (Below.refl _ wr) _))
        have HBQ := Lib.hid bq
        clear bq hwq v0_ v1_ v2_ v3_ v4_ c0 c1 c2 c3 c4
        obtain ⟨_, _, ea, _, _, v0_, v1_, v2_, v3_, v4_⟩ := (HP.out.below HBQ.out).cells j hlt
        cases ea
        rw [HPE.out] at v0_ v1_ v2_ v3_ v4_
        simp only at v0_ v1_ v2_ v3_ v4_
        have hbb := (Below.refl wq.heap.size wq).alloc (Nat.le_refl _) (.cells (ptC (ya, yb, yi, yt, ys)).toArray 25)
        have HAR := Lib.hid (HRQ.out.below hbb)
        have HAB := Lib.hid (HBQ.out.trans (hbb.mono HBQ.out.size))
        have HPT := Lib.hid (one_pts wq (ya, yb, yi, yt, ys) HWJ.out)
        clear hbb
        go_wp2_with (
          at_builtin
          refine wpList_append_prow rfl (.tmp 30) (.tmp 35) rfl w0.heap.size v _ rfl HAR.out _ _ 1 1 [(ya, yb, yi, yt, ys)] rfl HPT.out (by have := HLN.out; omega) HAB.out.size ?_
          intro v9 wn9 hp' hg'
          have hbn := app_below HAB.out HAR.out.1 hg' HAB.out.size
          have HRN9 := Lib.hid hp'
          have HBN9 := Lib.hid hbn
          clear hp' hg' hbn)
        clear HAR HAB HPT v0_ v1_ v2_ v3_ v4_
        go_roundw
        case rel =>
          have htk := inDL_take (l := L) (p := (pa, pb, pi, pt, ps)) (i := j) (by rw [HN.out]; exact hlt)
          rw [HPE.out] at htk
          refine ⟨j + 1, true, by omega, by go_num, rfl, ?_, ?_, HBN9.out⟩
          · exact ⟨fun _ => by obtain ⟨t, ht, h⟩ := HEX.out; exact ⟨t, by omega, h⟩, fun _ => rfl⟩
          · have hrn := HRN9.out
            have he := htk.2.2 HEX.out
            simp only [wthL, if_true] at hrn ⊢
            rw [← he]
            exact hrn
        case measure => simp [intOf]; omega
      | false =>
        by_cases hpy : pa < ya
        · have hnx : ∀ t, t < j → ¬ pa < (L.getD t p0).1 := fun t ht h => Bool.false_ne_true (HBB.out.2 ⟨t, ht, h⟩)
          have HNX := Lib.hid hnx
          clear hnx
          have d1 : decide (ya > pa) = true := decide_eq_true (by omega)
          have d2 : decide (pa < ya) = true := decide_eq_true (by omega)
          have HLT := Lib.hid hpy
          clear hpy
          have HLN := Lib.hid (show (wthL false (L.take j) (pa, pb, pi, pt, ps)).length + 2 ≤ 1000000 by have := wthL_len false (L.take j) (pa, pb, pi, pt, ps); rw [List.length_take] at this; omega)
          obtain ⟨_, _, ea, _, _, v0_, v1_, v2_, v3_, v4_⟩ := (HP.out.below HBR.out).cells j hlt
          cases ea
          rw [HPE.out] at v0_ v1_ v2_ v3_ v4_
          simp only at v0_ v1_ v2_ v3_ v4_
          obtain ⟨c0, c1, c2, c3, c4⟩ := (HK.out.below HBR.out HK.out.lt).five
          go_wp2_with fail
          go_quiet (fail)
          obtain ⟨wq, hwq⟩ : ∃ X, wr.drewN nq = X := ⟨_, rfl⟩
          rw [hwq]
          have bq : Below w0.heap.size w0 wq := by rw [← hwq]; exact below_drewN HBR.out _
          have HRQ := Lib.hid (show PRow wq w0.heap.size v _ by rw [← hwq]; exact HRO.out.below (below_drewN (Below.refl _ wr) _))
          have HBQ := Lib.hid bq
          clear bq hwq v0_ v1_ v2_ v3_ v4_ c0 c1 c2 c3 c4
          obtain ⟨c0, c1, c2, c3, c4⟩ := (HK.out.below HBQ.out HK.out.lt).five
          have hbb := (Below.refl wq.heap.size wq).alloc (Nat.le_refl _) (.cells (ptC (pa, pb, pi, pt, ps)).toArray 25)
          have HAR := Lib.hid (HRQ.out.below hbb)
          have HAB := Lib.hid (HBQ.out.trans (hbb.mono HBQ.out.size))
          have HPT := Lib.hid (one_pts wq (pa, pb, pi, pt, ps) HWP.out)
          clear hbb
          go_wp2_with (first
            | (at_builtin
               refine wpList_append_prow rfl (.tmp 26) (.tmp 28) rfl w0.heap.size v _ rfl HAR.out _ _ 1 1 [(pa, pb, pi, pt, ps)] rfl HPT.out (by have := HLN.out; omega) HAB.out.size ?_
               intro v7 wn7 hp' hg'
               have hbn := app_below HAB.out HAR.out.1 hg' HAB.out.size
               have HRN7 := Lib.hid hp'
               have HBN7 := Lib.hid hbn
               clear hp' hg' hbn
               obtain ⟨_, _, ea, _, _, v0_, v1_, v2_, v3_, v4_⟩ := (HP.out.below HBN7.out).cells j hlt
               cases ea
               rw [HPE.out] at v0_ v1_ v2_ v3_ v4_
               simp only at v0_ v1_ v2_ v3_ v4_
               have hbb := (Below.refl wn7.heap.size wn7).alloc (Nat.le_refl _) (.cells (ptC (ya, yb, yi, yt, ys)).toArray 25)
               have HAR2 := Lib.hid (HRN7.out.below hbb)
               have HAB2 := Lib.hid (HBN7.out.trans (hbb.mono HBN7.out.size))
               have HPT2 := Lib.hid (one_pts wn7 (ya, yb, yi, yt, ys) HWJ.out)
               clear hbb)
            | (at_builtin
               refine wpList_append_prow rfl (.tmp 30) (.tmp 35) rfl w0.heap.size v7 _ rfl HAR2.out _ _ 1 1 [(ya, yb, yi, yt, ys)] rfl HPT2.out (by have := HLN.out; simp only [List.length_append, List.length_singleton]; omega) HAB2.out.size ?_
               intro v9 wn9 hp' hg'
               have hbn := app_below HAB2.out HAR2.out.1 hg' HAB2.out.size
               have HRN9 := Lib.hid hp'
               have HBN9 := Lib.hid hbn
               clear hp' hg' hbn))
          clear HRQ HBQ c0 c1 c2 c3 c4 HAR2 HAB2 HPT2
          clear HAR HAB HPT v0_ v1_ v2_ v3_ v4_
          go_roundw
          case rel =>
            have htk := inDL_take (l := L) (p := (pa, pb, pi, pt, ps)) (i := j) (by rw [HN.out]; exact hlt)
            rw [HPE.out] at htk
            refine ⟨j + 1, true, by omega, by go_num, rfl, ?_, ?_, HBN9.out⟩
            · exact ⟨fun _ => ⟨j, by omega, by rw [HPE.out]; exact HLT.out⟩, fun _ => rfl⟩
            · have hrn := HRN9.out
              have he := htk.2.1 (fun t ht => by have := HNX.out t ht; omega) HLT.out
              simp only [wthL, if_true, Bool.false_eq_true, if_false] at hrn ⊢
              rw [← he]
              exact hrn
          case measure => simp [intOf]; omega
        · have hnx : ∀ t, t < j → ¬ pa < (L.getD t p0).1 := fun t ht h => Bool.false_ne_true (HBB.out.2 ⟨t, ht, h⟩)
          have HNX := Lib.hid hnx
          clear hnx
          have d1 : decide (ya > pa) = false := decide_eq_false (by omega)
          have d2 : decide (pa < ya) = false := decide_eq_false (by omega)
          have HLT := Lib.hid hpy
          clear hpy
          have HLN := Lib.hid (show (wthL false (L.take j) (pa, pb, pi, pt, ps)).length + 2 ≤ 1000000 by have := wthL_len false (L.take j) (pa, pb, pi, pt, ps); rw [List.length_take] at this; omega)
          obtain ⟨_, _, ea, _, _, v0_, v1_, v2_, v3_, v4_⟩ := (HP.out.below HBR.out).cells j hlt
          cases ea
          rw [HPE.out] at v0_ v1_ v2_ v3_ v4_
          simp only at v0_ v1_ v2_ v3_ v4_
          obtain ⟨c0, c1, c2, c3, c4⟩ := (HK.out.below HBR.out HK.out.lt).five
          go_wp2_with fail
          go_quiet (fail)
          obtain ⟨wq, hwq⟩ : ∃ X, wr.drewN nq = X := ⟨_, rfl⟩
          rw [hwq]
          have bq : Below w0.heap.size w0 wq := by rw [← hwq]; exact below_drewN HBR.out _
          have HRQ := Lib.hid (show PRow wq w0.heap.size v _ by rw [← hwq]; exact HRO.out.below (below_drewN (Below.refl _ wr) _))
          have HBQ := Lib.hid bq
          clear bq hwq v0_ v1_ v2_ v3_ v4_ c0 c1 c2 c3 c4
          obtain ⟨_, _, ea, _, _, v0_, v1_, v2_, v3_, v4_⟩ := (HP.out.below HBQ.out).cells j hlt
          cases ea
          rw [HPE.out] at v0_ v1_ v2_ v3_ v4_
          simp only at v0_ v1_ v2_ v3_ v4_
          have hbb := (Below.refl wq.heap.size wq).alloc (Nat.le_refl _) (.cells (ptC (ya, yb, yi, yt, ys)).toArray 25)
          have HAR := Lib.hid (HRQ.out.below hbb)
          have HAB := Lib.hid (HBQ.out.trans (hbb.mono HBQ.out.size))
          have HPT := Lib.hid (one_pts wq (ya, yb, yi, yt, ys) HWJ.out)
          clear hbb
          go_wp2_with (
            at_builtin
            refine wpList_append_prow rfl (.tmp 30) (.tmp 35) rfl w0.heap.size v _ rfl HAR.out _ _ 1 1 [(ya, yb, yi, yt, ys)] rfl HPT.out (by have := HLN.out; omega) HAB.out.size ?_
            intro v9 wn9 hp' hg'
            have hbn := app_below HAB.out HAR.out.1 hg' HAB.out.size
            have HRN9 := Lib.hid hp'
            have HBN9 := Lib.hid hbn
            clear hp' hg' hbn)
          clear HAR HAB HPT v0_ v1_ v2_ v3_ v4_
          go_roundw
          case rel =>
            have htk := inDL_take (l := L) (p := (pa, pb, pi, pt, ps)) (i := j) (by rw [HN.out]; exact hlt)
            rw [HPE.out] at htk
            refine ⟨j + 1, false, by omega, by go_num, rfl, ?_, ?_, HBN9.out⟩
            · refine ⟨fun h => (by cases h), fun ⟨t, ht, h⟩ => ?_⟩
              by_cases e : t = j
              · subst e
                rw [HPE.out] at h
                have := HLT.out
                omega
              · have := HNX.out t (by omega)
                omega
            · have hrn := HRN9.out
              have he := htk.1 (fun t ht => by have := HNX.out t ht; omega) (by have := HLT.out; omega)
              simp only [wthL, Bool.false_eq_true, if_false] at hrn ⊢
              rw [← he]
              exact hrn
          case measure => simp [intOf]; omega
    · cases bb with
      | true =>
        obtain rfl : j = n := by omega
        have htn : L.take j = L := List.take_of_length_le (by rw [HN.out]; exact Nat.le_refl _)
        have hro := HRO.out
        rw [htn] at hro
        simp only [wthL, if_true] at hro
        have HRX := Lib.hid hro
        clear hro htn
        go_wp2_with fail
        go_ret
        exact ⟨_, rfl, HRX.out.mono HB0.out.size, HB0.out.trans (HBR.out.mono HB0.out.size)⟩
      | false =>
        obtain rfl : j = n := by omega
        have htn : L.take j = L := List.take_of_length_le (by rw [HN.out]; exact Nat.le_refl _)
        have hro := HRO.out
        rw [htn] at hro
        simp only [wthL, Bool.false_eq_true, if_false] at hro
        have HRX := Lib.hid hro
        have HLN := Lib.hid (show L.length + 1 ≤ 1000000 by rw [HN.out]; omega)
        have he : L ++ [(pa, pb, pi, pt, ps)] = inDL L (pa, pb, pi, pt, ps) := inDL_end fun q hq h => by
          obtain ⟨i, hi, rfl⟩ := List.getElem_of_mem hq
          exact Bool.false_ne_true (HBB.out.2 ⟨i, by rw [← HN.out]; exact hi, by rw [ddGetD hi]; exact h⟩)
        have HE := Lib.hid he
        clear hro htn he
        obtain ⟨c0, c1, c2, c3, c4⟩ := (HK.out.below HBR.out HK.out.lt).five
        have hbb := (Below.refl wr.heap.size wr).alloc (Nat.le_refl _) (.cells (ptC (pa, pb, pi, pt, ps)).toArray 25)
        have HAR := Lib.hid (HRX.out.below hbb)
        have HAB := Lib.hid (HBR.out.trans (hbb.mono HBR.out.size))
        have HPT := Lib.hid (one_pts wr (pa, pb, pi, pt, ps) HWP.out)
        clear hbb
        go_wp2_with (
          at_builtin
          refine wpList_append_prow rfl (.tmp 39) (.tmp 41) rfl w0.heap.size v _ rfl HAR.out _ _ 1 1 [(pa, pb, pi, pt, ps)] rfl HPT.out HLN.out HAB.out.size ?_
          intro v9 wn9 hp' hg'
          have hbn := app_below HAB.out HAR.out.1 hg' HAB.out.size
          have HRN9 := Lib.hid hp'
          have HBN9 := Lib.hid hbn
          clear hp' hg' hbn)
        clear HAR HAB HPT c0 c1 c2 c3 c4
        go_ret
        refine ⟨_, rfl, ?_, HB0.out.trans (HBN9.out.mono HB0.out.size)⟩
        rw [← HE.out]
        exact HRN9.out.mono HB0.out.size
/-- Pointers, a row of the call's own, and an error's number: the document's. -/
def OutPr' (o : List Pt × Nat) (w : World) (e : Ending) (w' : World) : Prop := ∃ v, e = .returned (.tuple #[v, .int .i64 o.2]) ∧ PRow w' w.heap.size v o.1 ∧ Below w.heap.size w w'
theorem outPr_no' (c : Nat) {w w' : World} (hb : Below w.heap.size w w') : OutPr' ([], c) w (.returned (.tuple #[.slice none 0 0, .int .i64 c])) w' := ⟨_, rfl, prow_nil _ _, hb⟩
set_option maxHeartbeats 4000000 in
theorem ruAdd_any (a : Option Addr) (n c : Nat) (L : List Pt) (p : Pt) (w : World) (hL : Pts w w.heap.size a n c L) (hp : WfP p) : Calls Try.prog 8 #[.slice a n c, ptV p] w (OutPr' (addO L p) w) := by
  have n0 : (0 : Int) ≤ n := by omega
  have HN := Lib.hid hL.1
  have HWP := Lib.hid hp
  obtain ⟨pa, pb, pi, pt, ps⟩ := p
  obtain ⟨w0, hw0⟩ : ∃ w0, w.alloc (.cells (ptC (pa, pb, pi, pt, ps)).toArray 25) = w0 := ⟨_, rfl⟩
  obtain ⟨g, hg⟩ : ∃ g, w.heap.size = g := ⟨_, rfl⟩
  have hb0 : Below w.heap.size w w0 := by rw [← hw0]; exact (Below.refl _ w).alloc (Nat.le_refl _) _
  have hk0 : Blk w0 w.heap.size 25 (ptC (pa, pb, pi, pt, ps)).toArray := by rw [← hw0]; exact Blk.new w _ _
  have HP := Lib.hid (hL.step hb0)
  have HB := Lib.hid hb0
  rw [hg] at hk0
  have HK := Lib.hid hk0
  simp only [ptC] at hw0
  clear hL hp hb0 hk0
  by_cases hl : MayDL L
  · by_cases ho : OneP (pa, pb, pi, pt, ps)
    · by_cases hh : HasAt L pa
      · have HM := Lib.hid (fun W hW => ruMay_any a n c L W hW true ⟨fun _ => hl, fun _ => rfl⟩)
        have HO1 := Lib.hid (fun W => ruOne_any (pa, pb, pi, pt, ps) W true ⟨fun _ => ho, fun _ => rfl⟩)
        have HH := Lib.hid (fun W hW => ruHas_any a n c L pa W hW true ⟨fun _ => hh, fun _ => rfl⟩)
        have HO := Lib.hid (show addO L (pa, pb, pi, pt, ps) = ([], 2) by unfold addO; rw [if_pos ⟨hl, ho⟩, if_pos hh])
        clear hl ho hh
        go_enter Try.func8, Try.ntmps8
        go_wp2_with fail
        try rw [hw0]
        try rw [hg]
        clear hw0 hg
        refine (HM.out w0 HP.out).mono ?_
        rintro ev w1 ⟨rfl, b1⟩
        replace HP := Lib.hid (HP.out.step b1)
        replace HK := Lib.hid (HK.out.below b1 HK.out.lt)
        replace HB := Lib.hid (HB.out.trans (b1.mono HB.out.size))
        clear b1
        obtain ⟨c0, c1, c2, c3, c4⟩ := HK.out.five
        go_wp2_with fail
        clear c0 c1 c2 c3 c4
        refine (HO1.out w1).mono ?_
        rintro ev w2 ⟨rfl, b2⟩
        replace HP := Lib.hid (HP.out.step b2)
        replace HK := Lib.hid (HK.out.below b2 HK.out.lt)
        replace HB := Lib.hid (HB.out.trans (b2.mono HB.out.size))
        clear b2
        obtain ⟨c0, c1, c2, c3, c4⟩ := HK.out.five
        go_wp2_with fail
        clear c0 c1 c2 c3 c4
        refine (HH.out w2 HP.out).mono ?_
        rintro ev w3 ⟨rfl, b3⟩
        replace HP := Lib.hid (HP.out.step b3)
        replace HK := Lib.hid (HK.out.below b3 HK.out.lt)
        replace HB := Lib.hid (HB.out.trans (b3.mono HB.out.size))
        clear b3
        go_wp2_with fail
        go_ret2
        rw [HO.out]
        exact outPr_no' 2 HB.out
      · by_cases hf : 240 ≤ n
        · have HM := Lib.hid (fun W hW => ruMay_any a n c L W hW true ⟨fun _ => hl, fun _ => rfl⟩)
          have HO1 := Lib.hid (fun W => ruOne_any (pa, pb, pi, pt, ps) W true ⟨fun _ => ho, fun _ => rfl⟩)
          have HH := Lib.hid (fun W hW => ruHas_any a n c L pa W hW false ⟨fun x => (by cases x), fun x => absurd x hh⟩)
          have HO := Lib.hid (show addO L (pa, pb, pi, pt, ps) = ([], 9) by unfold addO; rw [if_pos ⟨hl, ho⟩, if_neg hh, if_pos (by rw [HN.out]; exact hf)])
          have d1 : decide ((n : Int) ≥ 240) = true := decide_eq_true (by omega)
          have d2 : decide ((240 : Int) ≤ (n : Int)) = true := decide_eq_true (by omega)
          clear hf
          clear hl ho hh
          go_enter Try.func8, Try.ntmps8
          go_wp2_with fail
          try rw [hw0]
          try rw [hg]
          clear hw0 hg
          refine (HM.out w0 HP.out).mono ?_
          rintro ev w1 ⟨rfl, b1⟩
          replace HP := Lib.hid (HP.out.step b1)
          replace HK := Lib.hid (HK.out.below b1 HK.out.lt)
          replace HB := Lib.hid (HB.out.trans (b1.mono HB.out.size))
          clear b1
          obtain ⟨c0, c1, c2, c3, c4⟩ := HK.out.five
          go_wp2_with fail
          clear c0 c1 c2 c3 c4
          refine (HO1.out w1).mono ?_
          rintro ev w2 ⟨rfl, b2⟩
          replace HP := Lib.hid (HP.out.step b2)
          replace HK := Lib.hid (HK.out.below b2 HK.out.lt)
          replace HB := Lib.hid (HB.out.trans (b2.mono HB.out.size))
          clear b2
          obtain ⟨c0, c1, c2, c3, c4⟩ := HK.out.five
          go_wp2_with fail
          clear c0 c1 c2 c3 c4
          refine (HH.out w2 HP.out).mono ?_
          rintro ev w3 ⟨rfl, b3⟩
          replace HP := Lib.hid (HP.out.step b3)
          replace HK := Lib.hid (HK.out.below b3 HK.out.lt)
          replace HB := Lib.hid (HB.out.trans (b3.mono HB.out.size))
          clear b3
          go_wp2_with fail
          go_ret2
          rw [HO.out]
          exact outPr_no' 9 HB.out
        · have HM := Lib.hid (fun W hW => ruMay_any a n c L W hW true ⟨fun _ => hl, fun _ => rfl⟩)
          have HO1 := Lib.hid (fun W => ruOne_any (pa, pb, pi, pt, ps) W true ⟨fun _ => ho, fun _ => rfl⟩)
          have HH := Lib.hid (fun W hW => ruHas_any a n c L pa W hW false ⟨fun x => (by cases x), fun x => absurd x hh⟩)
          have HO := Lib.hid (show addO L (pa, pb, pi, pt, ps) = (inDL L (pa, pb, pi, pt, ps), 0) by unfold addO; rw [if_pos ⟨hl, ho⟩, if_neg hh, if_neg (by rw [HN.out]; exact hf)])
          have d1 : decide ((n : Int) ≥ 240) = false := decide_eq_false (by omega)
          have d2 : decide ((240 : Int) ≤ (n : Int)) = false := decide_eq_false (by omega)
          have HN240 := Lib.hid hf
          clear hf
          clear hl ho hh
          go_enter Try.func8, Try.ntmps8
          go_wp2_with fail
          try rw [hw0]
          try rw [hg]
          clear hw0 hg
          refine (HM.out w0 HP.out).mono ?_
          rintro ev w1 ⟨rfl, b1⟩
          replace HP := Lib.hid (HP.out.step b1)
          replace HK := Lib.hid (HK.out.below b1 HK.out.lt)
          replace HB := Lib.hid (HB.out.trans (b1.mono HB.out.size))
          clear b1
          obtain ⟨c0, c1, c2, c3, c4⟩ := HK.out.five
          go_wp2_with fail
          clear c0 c1 c2 c3 c4
          refine (HO1.out w1).mono ?_
          rintro ev w2 ⟨rfl, b2⟩
          replace HP := Lib.hid (HP.out.step b2)
          replace HK := Lib.hid (HK.out.below b2 HK.out.lt)
          replace HB := Lib.hid (HB.out.trans (b2.mono HB.out.size))
          clear b2
          obtain ⟨c0, c1, c2, c3, c4⟩ := HK.out.five
          go_wp2_with fail
          clear c0 c1 c2 c3 c4
          refine (HH.out w2 HP.out).mono ?_
          rintro ev w3 ⟨rfl, b3⟩
          replace HP := Lib.hid (HP.out.step b3)
          replace HK := Lib.hid (HK.out.below b3 HK.out.lt)
          replace HB := Lib.hid (HB.out.trans (b3.mono HB.out.size))
          clear b3
          obtain ⟨c0, c1, c2, c3, c4⟩ := HK.out.five
          go_wp2_with fail
          clear c0 c1 c2 c3 c4
          refine (ruWith_any a n c L (pa, pb, pi, pt, ps) w3 HP.out HWP.out (by have := HN240.out; omega)).mono ?_
          rintro ev w4 ⟨v, rfl, hr, b4⟩
          have HR := Lib.hid (hr.mono HB.out.size)
          have HB4 := Lib.hid (HB.out.trans (b4.mono HB.out.size))
          clear hr b4
          go_wp2_with fail
          go_ret2
          rw [HO.out]
          exact ⟨_, rfl, HR.out, HB4.out⟩
    · have HM := Lib.hid (fun W hW => ruMay_any a n c L W hW true ⟨fun _ => hl, fun _ => rfl⟩)
      have HO1 := Lib.hid (fun W => ruOne_any (pa, pb, pi, pt, ps) W false ⟨fun x => (by cases x), fun x => absurd x ho⟩)
      have HO := Lib.hid (show addO L (pa, pb, pi, pt, ps) = ([], 8) by unfold addO; rw [if_neg fun h => ho h.2])
      clear hl ho
      go_enter Try.func8, Try.ntmps8
      go_wp2_with fail
      try rw [hw0]
      try rw [hg]
      clear hw0 hg
      refine (HM.out w0 HP.out).mono ?_
      rintro ev w1 ⟨rfl, b1⟩
      replace HP := Lib.hid (HP.out.step b1)
      replace HK := Lib.hid (HK.out.below b1 HK.out.lt)
      replace HB := Lib.hid (HB.out.trans (b1.mono HB.out.size))
      clear b1
      obtain ⟨c0, c1, c2, c3, c4⟩ := HK.out.five
      go_wp2_with fail
      clear c0 c1 c2 c3 c4
      refine (HO1.out w1).mono ?_
      rintro ev w2 ⟨rfl, b2⟩
      replace HP := Lib.hid (HP.out.step b2)
      replace HK := Lib.hid (HK.out.below b2 HK.out.lt)
      replace HB := Lib.hid (HB.out.trans (b2.mono HB.out.size))
      clear b2
      go_wp2_with fail
      go_ret2
      rw [HO.out]
      exact outPr_no' 8 HB.out
  · have HM := Lib.hid (fun W hW => ruMay_any a n c L W hW false ⟨fun x => (by cases x), fun x => absurd x hl⟩)
    have HO := Lib.hid (show addO L (pa, pb, pi, pt, ps) = ([], 8) by unfold addO; rw [if_neg fun h => hl h.1])
    clear hl
    go_enter Try.func8, Try.ntmps8
    go_wp2_with fail
    try rw [hw0]
    try rw [hg]
    clear hw0 hg
    refine (HM.out w0 HP.out).mono ?_
    rintro ev w1 ⟨rfl, b1⟩
    replace HP := Lib.hid (HP.out.step b1)
    replace HK := Lib.hid (HK.out.below b1 HK.out.lt)
    replace HB := Lib.hid (HB.out.trans (b1.mono HB.out.size))
    clear b1
    go_wp2_with fail
    go_ret2
    rw [HO.out]
    exact outPr_no' 8 HB.out
end Go.Proofs.Ytadffkfalclpjaa
