/-
  Texts of one seat, one behind the other.
-/
import Derived.Laws.CopyRow
import Derived.Test.YtafbidhbmfdlkaaGreatDoorPkMN4
/-
  txg's own mayNext, mayBe, Check, wrongToSync of pools without lines and changes that may be; Check of none.
-/
namespace Go.Proofs.YtafbidhbmfdlkaaGreatDoor
open Go.RowKit Go.Shelf
set_option maxRecDepth 100000

theorem txMayNext_yes (x : PoA) (p : PoN) (w : World) (hn : 1 ≤ p.nextId ∧ p.nextId ≤ 256) : Calls Tryz.prog 109 #[poV x p] w fun e w' => e = .returned (.bool true) ∧ Below w.heap.size w w' := by
  obtain ⟨w0, g, hw0, hg, b0, hb⟩ := new_pool w x p
  have HX := Lib.hid hb
  have HB := Lib.hid b0
  simp only [poC] at hw0
  have c9 := hb.c17
  have c4 := hb.c12
  have HC := Lib.hid (txContainsL_nil x.la x.lc (.func (.func 176) #[] #[.pointer (some ⟨g, 0, none⟩)]) w0)
  have HWI := txWithin_any p.nextId 1 256 w0
  rw [show decide ((1 : Int) ≤ p.nextId ∧ p.nextId ≤ 256) = true from decide_eq_true hn] at HWI
  replace HWI := Lib.hid HWI
  clear hb b0
  go_enter Tryz.func109, Tryz.ntmps109
  go_wp2_with fail
  try rw [hw0]
  try rw [hg]
  refine HWI.out.mono ?_
  rintro e w1 ⟨rfl, rfl⟩
  go_wp2_with fail
  refine HC.out.mono ?_
  rintro e w1 ⟨rfl, rfl⟩
  go_wp2_with fail
  go_ret
  exact ⟨by simp, by first | exact HB.out | (rw [← hg]; exact HB.out)⟩
set_option maxHeartbeats 8000000 in
theorem txMayBe_yes (L : Nat) (x : PoA) (p : PoN) (w : World) (hp : PoOk L w x p) (hL : L ≤ w.heap.size) (hm : MayN p) : Calls Tryz.prog 53 #[poV x p] w fun e w' => e = .returned (.bool true) ∧ Below w.heap.size w w' := by
  have hmx : Tryz.prog.follows Departure.mixedOrders = true := by kernel_rfl
  obtain ⟨w0, g, hw0, hg, b0, hb⟩ := new_pool w x p
  have HX := Lib.hid hb
  have HB := Lib.hid b0
  simp only [poC] at hw0
  have HP := Lib.hid (hp.step b0)
  have HM := Lib.hid hm
  have HLW := Lib.hid hL
  have HPC : Hid (∀ W : World, Calls Tryz.prog 100 #[ptV p.root] W fun e w' => e = .returned (.int .i64 0) ∧ Below W.heap.size W w') := Lib.hid (fun W => by
    have := Check_any p.root W
    rw [show pcheckO p.root = 0 by unfold pcheckO; rw [if_pos hm.root.1]] at this
    exact this)
  have HK1 : Hid (∀ W : World, Bls W W.heap.size x.ka p.keys.length x.kc p.keys → Calls Tryz.prog 104 #[.slice x.ka p.keys.length x.kc, .func (.func 105) #[] #[]] W fun e w' => e = .returned (.bool true) ∧ Below W.heap.size W w') := Lib.hid (fun W h => by
    have := txMayKeys_any _ _ tellsK_wrap x.ka p.keys.length x.kc p.keys W h
    rw [hm.keys.2, decide_eq_true hm.keys.1] at this
    exact this)
  have HK2 : Hid (∀ W : World, Bls W W.heap.size x.da p.loaded.length x.dc p.loaded → Calls Tryz.prog 104 #[.slice x.da p.loaded.length x.dc, .func (.func 106) #[] #[]] W fun e w' => e = .returned (.bool true) ∧ Below W.heap.size W w') := Lib.hid (fun W h => by
    have := txMayKeys_any _ _ tellsK_isKey x.da p.loaded.length x.dc p.loaded W h
    rw [hm.loaded.2, decide_eq_true hm.loaded.1] at this
    exact this)
  have HLG : Hid (∀ W : World, Calls Tryz.prog 108 #[.int .i64 p.logged, .int .i64 0, .int .i64 8] W fun e w' => e = .returned (.bool true) ∧ W = w') := Lib.hid (fun W => by
    have := txWithin_any p.logged 0 8 W
    rw [show decide ((0 : Int) ≤ p.logged ∧ p.logged ≤ 8) = true from decide_eq_true hm.logged] at this
    exact this)
  have n5 : (p.gen : Int) ≤ 16777215 := by have := hm.gen; omega
  have hgr := hm.root.2
  clear hb b0 hp hm hL
  by_cases hg0 : p.gen = 0
  · have HRR := Lib.hid (show false = true ↔ p.root ≠ p0 from ⟨fun h => (by cases h), fun h => absurd (hgr.1 h) (by omega)⟩)
    clear hgr
    go_enter Tryz.func53, Tryz.ntmps53
    go_wp2_with fail
    try rw [hw0]
    try rw [hg]
    clear hw0
    obtain ⟨wd, hwd⟩ : ∃ wd, w0.drew = wd := ⟨_, rfl⟩
    have bq : Below w0.heap.size w0 wd := by rw [← hwd]; exact (Below.refl _ w0).drew
    replace HX := Lib.hid (HX.out.below bq HX.out.lt)
    replace HP := Lib.hid (HP.out.step bq)
    replace HB := Lib.hid (HB.out.trans (bq.mono HB.out.size))
    refine wpI_start (fun X => PBox X g x p) [0, 1, 2, 3, 4, 5, 6, 7, 8, 9, 10, 11, 12, 13, 14, 15, 16, 17, 19, 20, 21, 18, 22, 23, 24, 25, 26, 27, 28, 29, 30, 31, 32, 33, 34, 35, 36, 37, 38, 39, 40, 41, 42, 43, 44, 45, 46, 47, 48, 49, 50, 51, 52, 53, 54, 55, 56, 57, 58, 59, 60, 61, 62, 63] hmx rfl hwd ?_
    clear hwd bq
    iterate 2 (
      refine wpI_read (v := ?_) HX.out rfl (by kernel_rfl) (by kernel_rfl) (by kernel_rfl) (fun _ _ _ h => h) (.inl ⟨by rfl, ?_⟩) ?_
      rotate_left
      · intro X hX
        have j0 := hX.c0
        have j1 := hX.c1
        have j2 := hX.c2
        have j3 := hX.c3
        have j4 := hX.c4
        have j5 := hX.c5
        have j6 := hX.c6
        have j7 := hX.c7
        have j8 := hX.c8
        have j9 := hX.c9
        have j10 := hX.c10
        have j11 := hX.c11
        have j12 := hX.c12
        have j13 := hX.c13
        have j14 := hX.c14
        have j15 := hX.c15
        have j16 := hX.c16
        have j17 := hX.c17
        have j18 := hX.c18
        clear hX
        go_simp
        with_reducible rfl
      try simp only [Act.put, List.setIfInBounds_toArray, List.set_cons_zero, List.set_cons_succ])
    have HC := Lib.hid (stCheck_all L x.x p.S wd HP.out.st (Nat.le_trans HLW.out HB.out.size) 0 ⟨fun _ => rfl, fun h => absurd HM.out.st h⟩)
    refine wpI_lone rfl (by kernel_rfl) (fun K hK => ?_)
    go_simp
    refine HC.out.mono ?_
    rintro ev w1 ⟨rfl, bq⟩
    replace HX := Lib.hid (HX.out.below bq HX.out.lt)
    replace HP := Lib.hid (HP.out.step bq)
    replace HB := Lib.hid (HB.out.trans (bq.mono HB.out.size))
    refine hK _ _ HX.out ?_
    clear hK K bq HC
    try simp only [Act.put, List.setIfInBounds_toArray, List.set_cons_zero, List.set_cons_succ]
    iterate 9 (
      refine wpI_read (v := ?_) HX.out rfl (by kernel_rfl) (by kernel_rfl) (by kernel_rfl) (fun _ _ _ h => h) (.inl ⟨by rfl, ?_⟩) ?_
      rotate_left
      · intro X hX
        have j0 := hX.c0
        have j1 := hX.c1
        have j2 := hX.c2
        have j3 := hX.c3
        have j4 := hX.c4
        have j5 := hX.c5
        have j6 := hX.c6
        have j7 := hX.c7
        have j8 := hX.c8
        have j9 := hX.c9
        have j10 := hX.c10
        have j11 := hX.c11
        have j12 := hX.c12
        have j13 := hX.c13
        have j14 := hX.c14
        have j15 := hX.c15
        have j16 := hX.c16
        have j17 := hX.c17
        have j18 := hX.c18
        clear hX
        go_simp
        with_reducible rfl
      try simp only [Act.put, List.setIfInBounds_toArray, List.set_cons_zero, List.set_cons_succ])
    have HC := Lib.hid ((show Calls Tryz.prog 100 #[ptV p.root] w1 _ from (HPC.out w1)))
    refine wpI_lone rfl (by kernel_rfl) (fun K hK => ?_)
    go_simp
    refine HC.out.mono ?_
    rintro ev w2 ⟨rfl, bq⟩
    replace HX := Lib.hid (HX.out.below bq HX.out.lt)
    replace HP := Lib.hid (HP.out.step bq)
    replace HB := Lib.hid (HB.out.trans (bq.mono HB.out.size))
    refine hK _ _ HX.out ?_
    clear hK K bq HC
    try simp only [Act.put, List.setIfInBounds_toArray, List.set_cons_zero, List.set_cons_succ]
    iterate 8 (
      refine wpI_read (v := ?_) HX.out rfl (by kernel_rfl) (by kernel_rfl) (by kernel_rfl) (fun _ _ _ h => h) (.inl ⟨by rfl, ?_⟩) ?_
      rotate_left
      · intro X hX
        have j0 := hX.c0
        have j1 := hX.c1
        have j2 := hX.c2
        have j3 := hX.c3
        have j4 := hX.c4
        have j5 := hX.c5
        have j6 := hX.c6
        have j7 := hX.c7
        have j8 := hX.c8
        have j9 := hX.c9
        have j10 := hX.c10
        have j11 := hX.c11
        have j12 := hX.c12
        have j13 := hX.c13
        have j14 := hX.c14
        have j15 := hX.c15
        have j16 := hX.c16
        have j17 := hX.c17
        have j18 := hX.c18
        clear hX
        go_simp
        with_reducible rfl
      try simp only [Act.put, List.setIfInBounds_toArray, List.set_cons_zero, List.set_cons_succ])
    have HC := Lib.hid (txThere_any p.root w2 false HRR.out)
    refine wpI_lone rfl (by kernel_rfl) (fun K hK => ?_)
    go_simp
    refine HC.out.mono ?_
    rintro ev w3 ⟨rfl, bq⟩
    replace HX := Lib.hid (HX.out.below bq HX.out.lt)
    replace HP := Lib.hid (HP.out.step bq)
    replace HB := Lib.hid (HB.out.trans (bq.mono HB.out.size))
    refine hK _ _ HX.out ?_
    clear hK K bq HC
    try simp only [Act.put, List.setIfInBounds_toArray, List.set_cons_zero, List.set_cons_succ]
    iterate 8 (
      refine wpI_read (v := ?_) HX.out rfl (by kernel_rfl) (by kernel_rfl) (by kernel_rfl) (fun _ _ _ h => h) (.inl ⟨by rfl, ?_⟩) ?_
      rotate_left
      · intro X hX
        have j0 := hX.c0
        have j1 := hX.c1
        have j2 := hX.c2
        have j3 := hX.c3
        have j4 := hX.c4
        have j5 := hX.c5
        have j6 := hX.c6
        have j7 := hX.c7
        have j8 := hX.c8
        have j9 := hX.c9
        have j10 := hX.c10
        have j11 := hX.c11
        have j12 := hX.c12
        have j13 := hX.c13
        have j14 := hX.c14
        have j15 := hX.c15
        have j16 := hX.c16
        have j17 := hX.c17
        have j18 := hX.c18
        clear hX
        go_simp
        with_reducible rfl
      try simp only [Act.put, List.setIfInBounds_toArray, List.set_cons_zero, List.set_cons_succ])
    have HC := Lib.hid (txMayMeta_yes x.ma p.own.length x.mc p.own x.x.a x.x.c p.S.2.1 w3 HP.out.own HP.out.st.now.2 HM.out.st.2.1 HM.out.own.1 HM.out.own.2)
    refine wpI_lone rfl (by kernel_rfl) (fun K hK => ?_)
    go_simp
    refine HC.out.mono ?_
    rintro ev w4 ⟨rfl, bq⟩
    have bq2 : Below w3.heap.size w3 w4 := by rw [bq]; exact Below.refl _ _
    clear bq
    have bq := bq2
    clear bq2
    replace HX := Lib.hid (HX.out.below bq HX.out.lt)
    replace HP := Lib.hid (HP.out.step bq)
    replace HB := Lib.hid (HB.out.trans (bq.mono HB.out.size))
    refine hK _ _ HX.out ?_
    clear hK K bq HC
    try simp only [Act.put, List.setIfInBounds_toArray, List.set_cons_zero, List.set_cons_succ]
    iterate 4 (
      refine wpI_read (v := ?_) HX.out rfl (by kernel_rfl) (by kernel_rfl) (by kernel_rfl) (fun _ _ _ h => h) (.inl ⟨by rfl, ?_⟩) ?_
      rotate_left
      · intro X hX
        have j0 := hX.c0
        have j1 := hX.c1
        have j2 := hX.c2
        have j3 := hX.c3
        have j4 := hX.c4
        have j5 := hX.c5
        have j6 := hX.c6
        have j7 := hX.c7
        have j8 := hX.c8
        have j9 := hX.c9
        have j10 := hX.c10
        have j11 := hX.c11
        have j12 := hX.c12
        have j13 := hX.c13
        have j14 := hX.c14
        have j15 := hX.c15
        have j16 := hX.c16
        have j17 := hX.c17
        have j18 := hX.c18
        clear hX
        go_simp
        with_reducible rfl
      try simp only [Act.put, List.setIfInBounds_toArray, List.set_cons_zero, List.set_cons_succ])
    have HC := Lib.hid (txMayLines_nil x.la x.lc w4)
    refine wpI_lone rfl (by kernel_rfl) (fun K hK => ?_)
    go_simp
    refine HC.out.mono ?_
    rintro ev w5 ⟨rfl, bq⟩
    have bq2 : Below w4.heap.size w4 w5 := by rw [bq]; exact Below.refl _ _
    clear bq
    have bq := bq2
    clear bq2
    replace HX := Lib.hid (HX.out.below bq HX.out.lt)
    replace HP := Lib.hid (HP.out.step bq)
    replace HB := Lib.hid (HB.out.trans (bq.mono HB.out.size))
    refine hK _ _ HX.out ?_
    clear hK K bq HC
    try simp only [Act.put, List.setIfInBounds_toArray, List.set_cons_zero, List.set_cons_succ]
    iterate 4 (
      refine wpI_read (v := ?_) HX.out rfl (by kernel_rfl) (by kernel_rfl) (by kernel_rfl) (fun _ _ _ h => h) (.inl ⟨by rfl, ?_⟩) ?_
      rotate_left
      · intro X hX
        have j0 := hX.c0
        have j1 := hX.c1
        have j2 := hX.c2
        have j3 := hX.c3
        have j4 := hX.c4
        have j5 := hX.c5
        have j6 := hX.c6
        have j7 := hX.c7
        have j8 := hX.c8
        have j9 := hX.c9
        have j10 := hX.c10
        have j11 := hX.c11
        have j12 := hX.c12
        have j13 := hX.c13
        have j14 := hX.c14
        have j15 := hX.c15
        have j16 := hX.c16
        have j17 := hX.c17
        have j18 := hX.c18
        clear hX
        go_simp
        with_reducible rfl
      try simp only [Act.put, List.setIfInBounds_toArray, List.set_cons_zero, List.set_cons_succ])
    have HC := Lib.hid (HK1.out w5 HP.out.keys)
    refine wpI_lone rfl (by kernel_rfl) (fun K hK => ?_)
    go_simp
    refine HC.out.mono ?_
    rintro ev w6 ⟨rfl, bq⟩
    replace HX := Lib.hid (HX.out.below bq HX.out.lt)
    replace HP := Lib.hid (HP.out.step bq)
    replace HB := Lib.hid (HB.out.trans (bq.mono HB.out.size))
    refine hK _ _ HX.out ?_
    clear hK K bq HC
    try simp only [Act.put, List.setIfInBounds_toArray, List.set_cons_zero, List.set_cons_succ]
    iterate 4 (
      refine wpI_read (v := ?_) HX.out rfl (by kernel_rfl) (by kernel_rfl) (by kernel_rfl) (fun _ _ _ h => h) (.inl ⟨by rfl, ?_⟩) ?_
      rotate_left
      · intro X hX
        have j0 := hX.c0
        have j1 := hX.c1
        have j2 := hX.c2
        have j3 := hX.c3
        have j4 := hX.c4
        have j5 := hX.c5
        have j6 := hX.c6
        have j7 := hX.c7
        have j8 := hX.c8
        have j9 := hX.c9
        have j10 := hX.c10
        have j11 := hX.c11
        have j12 := hX.c12
        have j13 := hX.c13
        have j14 := hX.c14
        have j15 := hX.c15
        have j16 := hX.c16
        have j17 := hX.c17
        have j18 := hX.c18
        clear hX
        go_simp
        with_reducible rfl
      try simp only [Act.put, List.setIfInBounds_toArray, List.set_cons_zero, List.set_cons_succ])
    have HC := Lib.hid (HK2.out w6 HP.out.loaded)
    refine wpI_lone rfl (by kernel_rfl) (fun K hK => ?_)
    go_simp
    refine HC.out.mono ?_
    rintro ev w7 ⟨rfl, bq⟩
    replace HX := Lib.hid (HX.out.below bq HX.out.lt)
    replace HP := Lib.hid (HP.out.step bq)
    replace HB := Lib.hid (HB.out.trans (bq.mono HB.out.size))
    refine hK _ _ HX.out ?_
    clear hK K bq HC
    try simp only [Act.put, List.setIfInBounds_toArray, List.set_cons_zero, List.set_cons_succ]
    iterate 6 (
      refine wpI_read (v := ?_) HX.out rfl (by kernel_rfl) (by kernel_rfl) (by kernel_rfl) (fun _ _ _ h => h) (.inl ⟨by rfl, ?_⟩) ?_
      rotate_left
      · intro X hX
        have j0 := hX.c0
        have j1 := hX.c1
        have j2 := hX.c2
        have j3 := hX.c3
        have j4 := hX.c4
        have j5 := hX.c5
        have j6 := hX.c6
        have j7 := hX.c7
        have j8 := hX.c8
        have j9 := hX.c9
        have j10 := hX.c10
        have j11 := hX.c11
        have j12 := hX.c12
        have j13 := hX.c13
        have j14 := hX.c14
        have j15 := hX.c15
        have j16 := hX.c16
        have j17 := hX.c17
        have j18 := hX.c18
        clear hX
        go_simp
        with_reducible rfl
      try simp only [Act.put, List.setIfInBounds_toArray, List.set_cons_zero, List.set_cons_succ])
    have HC := Lib.hid (txMayChanges_nil x.ca x.cc x.la 0 x.lc w7)
    refine wpI_lone rfl (by kernel_rfl) (fun K hK => ?_)
    go_simp
    refine HC.out.mono ?_
    rintro ev w8 ⟨rfl, bq⟩
    have bq2 : Below w7.heap.size w7 w8 := by rw [bq]; exact Below.refl _ _
    clear bq
    have bq := bq2
    clear bq2
    replace HX := Lib.hid (HX.out.below bq HX.out.lt)
    replace HP := Lib.hid (HP.out.step bq)
    replace HB := Lib.hid (HB.out.trans (bq.mono HB.out.size))
    refine hK _ _ HX.out ?_
    clear hK K bq HC
    try simp only [Act.put, List.setIfInBounds_toArray, List.set_cons_zero, List.set_cons_succ]
    iterate 4 (
      refine wpI_read (v := ?_) HX.out rfl (by kernel_rfl) (by kernel_rfl) (by kernel_rfl) (fun _ _ _ h => h) (.inl ⟨by rfl, ?_⟩) ?_
      rotate_left
      · intro X hX
        have j0 := hX.c0
        have j1 := hX.c1
        have j2 := hX.c2
        have j3 := hX.c3
        have j4 := hX.c4
        have j5 := hX.c5
        have j6 := hX.c6
        have j7 := hX.c7
        have j8 := hX.c8
        have j9 := hX.c9
        have j10 := hX.c10
        have j11 := hX.c11
        have j12 := hX.c12
        have j13 := hX.c13
        have j14 := hX.c14
        have j15 := hX.c15
        have j16 := hX.c16
        have j17 := hX.c17
        have j18 := hX.c18
        clear hX
        go_simp
        with_reducible rfl
      try simp only [Act.put, List.setIfInBounds_toArray, List.set_cons_zero, List.set_cons_succ])
    have HC := Lib.hid (HLG.out w8)
    refine wpI_lone rfl (by kernel_rfl) (fun K hK => ?_)
    go_simp
    refine HC.out.mono ?_
    rintro ev w9 ⟨rfl, bq⟩
    have bq2 : Below w8.heap.size w8 w9 := by rw [bq]; exact Below.refl _ _
    clear bq
    have bq := bq2
    clear bq2
    replace HX := Lib.hid (HX.out.below bq HX.out.lt)
    replace HP := Lib.hid (HP.out.step bq)
    replace HB := Lib.hid (HB.out.trans (bq.mono HB.out.size))
    refine hK _ _ HX.out ?_
    clear hK K bq HC
    try simp only [Act.put, List.setIfInBounds_toArray, List.set_cons_zero, List.set_cons_succ]
    iterate 2 (
      refine wpI_read (v := ?_) HX.out rfl (by kernel_rfl) (by kernel_rfl) (by kernel_rfl) (fun _ _ _ h => h) (.inl ⟨by rfl, ?_⟩) ?_
      rotate_left
      · intro X hX
        have j0 := hX.c0
        have j1 := hX.c1
        have j2 := hX.c2
        have j3 := hX.c3
        have j4 := hX.c4
        have j5 := hX.c5
        have j6 := hX.c6
        have j7 := hX.c7
        have j8 := hX.c8
        have j9 := hX.c9
        have j10 := hX.c10
        have j11 := hX.c11
        have j12 := hX.c12
        have j13 := hX.c13
        have j14 := hX.c14
        have j15 := hX.c15
        have j16 := hX.c16
        have j17 := hX.c17
        have j18 := hX.c18
        clear hX
        go_simp
        with_reducible rfl
      try simp only [Act.put, List.setIfInBounds_toArray, List.set_cons_zero, List.set_cons_succ])
    refine wpI_read (v := poV x p) HX.out rfl (by kernel_rfl) (by kernel_rfl) (by kernel_rfl) (fun _ _ _ h => h) (.inl ⟨by rfl, fun X hX => exec_loadPool rfl rfl hX⟩) ?_
    try simp only [Act.put, List.setIfInBounds_toArray, List.set_cons_zero, List.set_cons_succ]
    have HC := Lib.hid (txMayNext_yes x p w9 HM.out.next)
    refine wpI_lone rfl (by kernel_rfl) (fun K hK => ?_)
    go_simp
    refine HC.out.mono ?_
    rintro ev wa ⟨rfl, bq⟩
    replace HX := Lib.hid (HX.out.below bq HX.out.lt)
    replace HP := Lib.hid (HP.out.step bq)
    replace HB := Lib.hid (HB.out.trans (bq.mono HB.out.size))
    refine hK _ _ HX.out ?_
    clear hK K bq HC
    try simp only [Act.put, List.setIfInBounds_toArray, List.set_cons_zero, List.set_cons_succ]
    iterate 2 (
      refine wpI_read (v := ?_) HX.out rfl (by kernel_rfl) (by kernel_rfl) (by kernel_rfl) (fun _ _ _ h => h) (.inl ⟨by rfl, ?_⟩) ?_
      rotate_left
      · intro X hX
        have j0 := hX.c0
        have j1 := hX.c1
        have j2 := hX.c2
        have j3 := hX.c3
        have j4 := hX.c4
        have j5 := hX.c5
        have j6 := hX.c6
        have j7 := hX.c7
        have j8 := hX.c8
        have j9 := hX.c9
        have j10 := hX.c10
        have j11 := hX.c11
        have j12 := hX.c12
        have j13 := hX.c13
        have j14 := hX.c14
        have j15 := hX.c15
        have j16 := hX.c16
        have j17 := hX.c17
        have j18 := hX.c18
        clear hX
        go_simp
        with_reducible rfl
      try simp only [Act.put, List.setIfInBounds_toArray, List.set_cons_zero, List.set_cons_succ])
    refine wpI_done (by kernel_rfl) ?_
    go_wp2_with fail
    go_ret
    exact ⟨rfl, by first | exact HB.out | (rw [← hg]; exact HB.out)⟩
  · have HRR := Lib.hid (show p.root ≠ p0 from hgr.2 (by omega))
    have hg1 : 0 < p.gen := by omega
    have hg2 : (0 : Int) < (p.gen : Int) := by omega
    clear hgr hg0
    go_enter Tryz.func53, Tryz.ntmps53
    go_wp2_with fail
    try rw [hw0]
    try rw [hg]
    clear hw0
    obtain ⟨wd, hwd⟩ : ∃ wd, w0.drew = wd := ⟨_, rfl⟩
    have bq : Below w0.heap.size w0 wd := by rw [← hwd]; exact (Below.refl _ w0).drew
    replace HX := Lib.hid (HX.out.below bq HX.out.lt)
    replace HP := Lib.hid (HP.out.step bq)
    replace HB := Lib.hid (HB.out.trans (bq.mono HB.out.size))
    refine wpI_start (fun X => PBox X g x p) [0, 1, 2, 3, 4, 5, 6, 7, 8, 9, 10, 11, 12, 13, 14, 15, 16, 17, 19, 20, 21, 18, 22, 23, 24, 25, 26, 27, 28, 29, 30, 31, 32, 33, 34, 35, 36, 37, 38, 39, 40, 41, 42, 43, 44, 45, 46, 47, 48, 49, 50, 51, 52, 53, 54, 55, 56, 57, 58, 59, 60, 61, 62, 63] hmx rfl hwd ?_
    clear hwd bq
    iterate 2 (
      refine wpI_read (v := ?_) HX.out rfl (by kernel_rfl) (by kernel_rfl) (by kernel_rfl) (fun _ _ _ h => h) (.inl ⟨by rfl, ?_⟩) ?_
      rotate_left
      · intro X hX
        have j0 := hX.c0
        have j1 := hX.c1
        have j2 := hX.c2
        have j3 := hX.c3
        have j4 := hX.c4
        have j5 := hX.c5
        have j6 := hX.c6
        have j7 := hX.c7
        have j8 := hX.c8
        have j9 := hX.c9
        have j10 := hX.c10
        have j11 := hX.c11
        have j12 := hX.c12
        have j13 := hX.c13
        have j14 := hX.c14
        have j15 := hX.c15
        have j16 := hX.c16
        have j17 := hX.c17
        have j18 := hX.c18
        clear hX
        go_simp
        with_reducible rfl
      try simp only [Act.put, List.setIfInBounds_toArray, List.set_cons_zero, List.set_cons_succ])
    have HC := Lib.hid (stCheck_all L x.x p.S wd HP.out.st (Nat.le_trans HLW.out HB.out.size) 0 ⟨fun _ => rfl, fun h => absurd HM.out.st h⟩)
    refine wpI_lone rfl (by kernel_rfl) (fun K hK => ?_)
    go_simp
    refine HC.out.mono ?_
    rintro ev w1 ⟨rfl, bq⟩
    replace HX := Lib.hid (HX.out.below bq HX.out.lt)
    replace HP := Lib.hid (HP.out.step bq)
    replace HB := Lib.hid (HB.out.trans (bq.mono HB.out.size))
    refine hK _ _ HX.out ?_
    clear hK K bq HC
    try simp only [Act.put, List.setIfInBounds_toArray, List.set_cons_zero, List.set_cons_succ]
    iterate 9 (
      refine wpI_read (v := ?_) HX.out rfl (by kernel_rfl) (by kernel_rfl) (by kernel_rfl) (fun _ _ _ h => h) (.inl ⟨by rfl, ?_⟩) ?_
      rotate_left
      · intro X hX
        have j0 := hX.c0
        have j1 := hX.c1
        have j2 := hX.c2
        have j3 := hX.c3
        have j4 := hX.c4
        have j5 := hX.c5
        have j6 := hX.c6
        have j7 := hX.c7
        have j8 := hX.c8
        have j9 := hX.c9
        have j10 := hX.c10
        have j11 := hX.c11
        have j12 := hX.c12
        have j13 := hX.c13
        have j14 := hX.c14
        have j15 := hX.c15
        have j16 := hX.c16
        have j17 := hX.c17
        have j18 := hX.c18
        clear hX
        go_simp
        with_reducible rfl
      try simp only [Act.put, List.setIfInBounds_toArray, List.set_cons_zero, List.set_cons_succ])
    have HC := Lib.hid ((show Calls Tryz.prog 100 #[ptV p.root] w1 _ from (HPC.out w1)))
    refine wpI_lone rfl (by kernel_rfl) (fun K hK => ?_)
    go_simp
    refine HC.out.mono ?_
    rintro ev w2 ⟨rfl, bq⟩
    replace HX := Lib.hid (HX.out.below bq HX.out.lt)
    replace HP := Lib.hid (HP.out.step bq)
    replace HB := Lib.hid (HB.out.trans (bq.mono HB.out.size))
    refine hK _ _ HX.out ?_
    clear hK K bq HC
    try simp only [Act.put, List.setIfInBounds_toArray, List.set_cons_zero, List.set_cons_succ]
    iterate 8 (
      refine wpI_read (v := ?_) HX.out rfl (by kernel_rfl) (by kernel_rfl) (by kernel_rfl) (fun _ _ _ h => h) (.inl ⟨by rfl, ?_⟩) ?_
      rotate_left
      · intro X hX
        have j0 := hX.c0
        have j1 := hX.c1
        have j2 := hX.c2
        have j3 := hX.c3
        have j4 := hX.c4
        have j5 := hX.c5
        have j6 := hX.c6
        have j7 := hX.c7
        have j8 := hX.c8
        have j9 := hX.c9
        have j10 := hX.c10
        have j11 := hX.c11
        have j12 := hX.c12
        have j13 := hX.c13
        have j14 := hX.c14
        have j15 := hX.c15
        have j16 := hX.c16
        have j17 := hX.c17
        have j18 := hX.c18
        clear hX
        go_simp
        with_reducible rfl
      try simp only [Act.put, List.setIfInBounds_toArray, List.set_cons_zero, List.set_cons_succ])
    have HC := Lib.hid (txThere_any p.root w2 true ⟨fun _ => HRR.out, fun _ => rfl⟩)
    refine wpI_lone rfl (by kernel_rfl) (fun K hK => ?_)
    go_simp
    refine HC.out.mono ?_
    rintro ev w3 ⟨rfl, bq⟩
    replace HX := Lib.hid (HX.out.below bq HX.out.lt)
    replace HP := Lib.hid (HP.out.step bq)
    replace HB := Lib.hid (HB.out.trans (bq.mono HB.out.size))
    refine hK _ _ HX.out ?_
    clear hK K bq HC
    try simp only [Act.put, List.setIfInBounds_toArray, List.set_cons_zero, List.set_cons_succ]
    iterate 8 (
      refine wpI_read (v := ?_) HX.out rfl (by kernel_rfl) (by kernel_rfl) (by kernel_rfl) (fun _ _ _ h => h) (.inl ⟨by rfl, ?_⟩) ?_
      rotate_left
      · intro X hX
        have j0 := hX.c0
        have j1 := hX.c1
        have j2 := hX.c2
        have j3 := hX.c3
        have j4 := hX.c4
        have j5 := hX.c5
        have j6 := hX.c6
        have j7 := hX.c7
        have j8 := hX.c8
        have j9 := hX.c9
        have j10 := hX.c10
        have j11 := hX.c11
        have j12 := hX.c12
        have j13 := hX.c13
        have j14 := hX.c14
        have j15 := hX.c15
        have j16 := hX.c16
        have j17 := hX.c17
        have j18 := hX.c18
        clear hX
        go_simp
        with_reducible rfl
      try simp only [Act.put, List.setIfInBounds_toArray, List.set_cons_zero, List.set_cons_succ])
    have HC := Lib.hid (txMayMeta_yes x.ma p.own.length x.mc p.own x.x.a x.x.c p.S.2.1 w3 HP.out.own HP.out.st.now.2 HM.out.st.2.1 HM.out.own.1 HM.out.own.2)
    refine wpI_lone rfl (by kernel_rfl) (fun K hK => ?_)
    go_simp
    refine HC.out.mono ?_
    rintro ev w4 ⟨rfl, bq⟩
    have bq2 : Below w3.heap.size w3 w4 := by rw [bq]; exact Below.refl _ _
    clear bq
    have bq := bq2
    clear bq2
    replace HX := Lib.hid (HX.out.below bq HX.out.lt)
    replace HP := Lib.hid (HP.out.step bq)
    replace HB := Lib.hid (HB.out.trans (bq.mono HB.out.size))
    refine hK _ _ HX.out ?_
    clear hK K bq HC
    try simp only [Act.put, List.setIfInBounds_toArray, List.set_cons_zero, List.set_cons_succ]
    iterate 4 (
      refine wpI_read (v := ?_) HX.out rfl (by kernel_rfl) (by kernel_rfl) (by kernel_rfl) (fun _ _ _ h => h) (.inl ⟨by rfl, ?_⟩) ?_
      rotate_left
      · intro X hX
        have j0 := hX.c0
        have j1 := hX.c1
        have j2 := hX.c2
        have j3 := hX.c3
        have j4 := hX.c4
        have j5 := hX.c5
        have j6 := hX.c6
        have j7 := hX.c7
        have j8 := hX.c8
        have j9 := hX.c9
        have j10 := hX.c10
        have j11 := hX.c11
        have j12 := hX.c12
        have j13 := hX.c13
        have j14 := hX.c14
        have j15 := hX.c15
        have j16 := hX.c16
        have j17 := hX.c17
        have j18 := hX.c18
        clear hX
        go_simp
        with_reducible rfl
      try simp only [Act.put, List.setIfInBounds_toArray, List.set_cons_zero, List.set_cons_succ])
    have HC := Lib.hid (txMayLines_nil x.la x.lc w4)
    refine wpI_lone rfl (by kernel_rfl) (fun K hK => ?_)
    go_simp
    refine HC.out.mono ?_
    rintro ev w5 ⟨rfl, bq⟩
    have bq2 : Below w4.heap.size w4 w5 := by rw [bq]; exact Below.refl _ _
    clear bq
    have bq := bq2
    clear bq2
    replace HX := Lib.hid (HX.out.below bq HX.out.lt)
    replace HP := Lib.hid (HP.out.step bq)
    replace HB := Lib.hid (HB.out.trans (bq.mono HB.out.size))
    refine hK _ _ HX.out ?_
    clear hK K bq HC
    try simp only [Act.put, List.setIfInBounds_toArray, List.set_cons_zero, List.set_cons_succ]
    iterate 4 (
      refine wpI_read (v := ?_) HX.out rfl (by kernel_rfl) (by kernel_rfl) (by kernel_rfl) (fun _ _ _ h => h) (.inl ⟨by rfl, ?_⟩) ?_
      rotate_left
      · intro X hX
        have j0 := hX.c0
        have j1 := hX.c1
        have j2 := hX.c2
        have j3 := hX.c3
        have j4 := hX.c4
        have j5 := hX.c5
        have j6 := hX.c6
        have j7 := hX.c7
        have j8 := hX.c8
        have j9 := hX.c9
        have j10 := hX.c10
        have j11 := hX.c11
        have j12 := hX.c12
        have j13 := hX.c13
        have j14 := hX.c14
        have j15 := hX.c15
        have j16 := hX.c16
        have j17 := hX.c17
        have j18 := hX.c18
        clear hX
        go_simp
        with_reducible rfl
      try simp only [Act.put, List.setIfInBounds_toArray, List.set_cons_zero, List.set_cons_succ])
    have HC := Lib.hid (HK1.out w5 HP.out.keys)
    refine wpI_lone rfl (by kernel_rfl) (fun K hK => ?_)
    go_simp
    refine HC.out.mono ?_
    rintro ev w6 ⟨rfl, bq⟩
    replace HX := Lib.hid (HX.out.below bq HX.out.lt)
    replace HP := Lib.hid (HP.out.step bq)
    replace HB := Lib.hid (HB.out.trans (bq.mono HB.out.size))
    refine hK _ _ HX.out ?_
    clear hK K bq HC
    try simp only [Act.put, List.setIfInBounds_toArray, List.set_cons_zero, List.set_cons_succ]
    iterate 4 (
      refine wpI_read (v := ?_) HX.out rfl (by kernel_rfl) (by kernel_rfl) (by kernel_rfl) (fun _ _ _ h => h) (.inl ⟨by rfl, ?_⟩) ?_
      rotate_left
      · intro X hX
        have j0 := hX.c0
        have j1 := hX.c1
        have j2 := hX.c2
        have j3 := hX.c3
        have j4 := hX.c4
        have j5 := hX.c5
        have j6 := hX.c6
        have j7 := hX.c7
        have j8 := hX.c8
        have j9 := hX.c9
        have j10 := hX.c10
        have j11 := hX.c11
        have j12 := hX.c12
        have j13 := hX.c13
        have j14 := hX.c14
        have j15 := hX.c15
        have j16 := hX.c16
        have j17 := hX.c17
        have j18 := hX.c18
        clear hX
        go_simp
        with_reducible rfl
      try simp only [Act.put, List.setIfInBounds_toArray, List.set_cons_zero, List.set_cons_succ])
    have HC := Lib.hid (HK2.out w6 HP.out.loaded)
    refine wpI_lone rfl (by kernel_rfl) (fun K hK => ?_)
    go_simp
    refine HC.out.mono ?_
    rintro ev w7 ⟨rfl, bq⟩
    replace HX := Lib.hid (HX.out.below bq HX.out.lt)
    replace HP := Lib.hid (HP.out.step bq)
    replace HB := Lib.hid (HB.out.trans (bq.mono HB.out.size))
    refine hK _ _ HX.out ?_
    clear hK K bq HC
    try simp only [Act.put, List.setIfInBounds_toArray, List.set_cons_zero, List.set_cons_succ]
    iterate 6 (
      refine wpI_read (v := ?_) HX.out rfl (by kernel_rfl) (by kernel_rfl) (by kernel_rfl) (fun _ _ _ h => h) (.inl ⟨by rfl, ?_⟩) ?_
      rotate_left
      · intro X hX
        have j0 := hX.c0
        have j1 := hX.c1
        have j2 := hX.c2
        have j3 := hX.c3
        have j4 := hX.c4
        have j5 := hX.c5
        have j6 := hX.c6
        have j7 := hX.c7
        have j8 := hX.c8
        have j9 := hX.c9
        have j10 := hX.c10
        have j11 := hX.c11
        have j12 := hX.c12
        have j13 := hX.c13
        have j14 := hX.c14
        have j15 := hX.c15
        have j16 := hX.c16
        have j17 := hX.c17
        have j18 := hX.c18
        clear hX
        go_simp
        with_reducible rfl
      try simp only [Act.put, List.setIfInBounds_toArray, List.set_cons_zero, List.set_cons_succ])
    have HC := Lib.hid (txMayChanges_nil x.ca x.cc x.la 0 x.lc w7)
    refine wpI_lone rfl (by kernel_rfl) (fun K hK => ?_)
    go_simp
    refine HC.out.mono ?_
    rintro ev w8 ⟨rfl, bq⟩
    have bq2 : Below w7.heap.size w7 w8 := by rw [bq]; exact Below.refl _ _
    clear bq
    have bq := bq2
    clear bq2
    replace HX := Lib.hid (HX.out.below bq HX.out.lt)
    replace HP := Lib.hid (HP.out.step bq)
    replace HB := Lib.hid (HB.out.trans (bq.mono HB.out.size))
    refine hK _ _ HX.out ?_
    clear hK K bq HC
    try simp only [Act.put, List.setIfInBounds_toArray, List.set_cons_zero, List.set_cons_succ]
    iterate 4 (
      refine wpI_read (v := ?_) HX.out rfl (by kernel_rfl) (by kernel_rfl) (by kernel_rfl) (fun _ _ _ h => h) (.inl ⟨by rfl, ?_⟩) ?_
      rotate_left
      · intro X hX
        have j0 := hX.c0
        have j1 := hX.c1
        have j2 := hX.c2
        have j3 := hX.c3
        have j4 := hX.c4
        have j5 := hX.c5
        have j6 := hX.c6
        have j7 := hX.c7
        have j8 := hX.c8
        have j9 := hX.c9
        have j10 := hX.c10
        have j11 := hX.c11
        have j12 := hX.c12
        have j13 := hX.c13
        have j14 := hX.c14
        have j15 := hX.c15
        have j16 := hX.c16
        have j17 := hX.c17
        have j18 := hX.c18
        clear hX
        go_simp
        with_reducible rfl
      try simp only [Act.put, List.setIfInBounds_toArray, List.set_cons_zero, List.set_cons_succ])
    have HC := Lib.hid (HLG.out w8)
    refine wpI_lone rfl (by kernel_rfl) (fun K hK => ?_)
    go_simp
    refine HC.out.mono ?_
    rintro ev w9 ⟨rfl, bq⟩
    have bq2 : Below w8.heap.size w8 w9 := by rw [bq]; exact Below.refl _ _
    clear bq
    have bq := bq2
    clear bq2
    replace HX := Lib.hid (HX.out.below bq HX.out.lt)
    replace HP := Lib.hid (HP.out.step bq)
    replace HB := Lib.hid (HB.out.trans (bq.mono HB.out.size))
    refine hK _ _ HX.out ?_
    clear hK K bq HC
    try simp only [Act.put, List.setIfInBounds_toArray, List.set_cons_zero, List.set_cons_succ]
    iterate 2 (
      refine wpI_read (v := ?_) HX.out rfl (by kernel_rfl) (by kernel_rfl) (by kernel_rfl) (fun _ _ _ h => h) (.inl ⟨by rfl, ?_⟩) ?_
      rotate_left
      · intro X hX
        have j0 := hX.c0
        have j1 := hX.c1
        have j2 := hX.c2
        have j3 := hX.c3
        have j4 := hX.c4
        have j5 := hX.c5
        have j6 := hX.c6
        have j7 := hX.c7
        have j8 := hX.c8
        have j9 := hX.c9
        have j10 := hX.c10
        have j11 := hX.c11
        have j12 := hX.c12
        have j13 := hX.c13
        have j14 := hX.c14
        have j15 := hX.c15
        have j16 := hX.c16
        have j17 := hX.c17
        have j18 := hX.c18
        clear hX
        go_simp
        with_reducible rfl
      try simp only [Act.put, List.setIfInBounds_toArray, List.set_cons_zero, List.set_cons_succ])
    refine wpI_read (v := poV x p) HX.out rfl (by kernel_rfl) (by kernel_rfl) (by kernel_rfl) (fun _ _ _ h => h) (.inl ⟨by rfl, fun X hX => exec_loadPool rfl rfl hX⟩) ?_
    try simp only [Act.put, List.setIfInBounds_toArray, List.set_cons_zero, List.set_cons_succ]
    have HC := Lib.hid (txMayNext_yes x p w9 HM.out.next)
    refine wpI_lone rfl (by kernel_rfl) (fun K hK => ?_)
    go_simp
    refine HC.out.mono ?_
    rintro ev wa ⟨rfl, bq⟩
    replace HX := Lib.hid (HX.out.below bq HX.out.lt)
    replace HP := Lib.hid (HP.out.step bq)
    replace HB := Lib.hid (HB.out.trans (bq.mono HB.out.size))
    refine hK _ _ HX.out ?_
    clear hK K bq HC
    try simp only [Act.put, List.setIfInBounds_toArray, List.set_cons_zero, List.set_cons_succ]
    iterate 2 (
      refine wpI_read (v := ?_) HX.out rfl (by kernel_rfl) (by kernel_rfl) (by kernel_rfl) (fun _ _ _ h => h) (.inl ⟨by rfl, ?_⟩) ?_
      rotate_left
      · intro X hX
        have j0 := hX.c0
        have j1 := hX.c1
        have j2 := hX.c2
        have j3 := hX.c3
        have j4 := hX.c4
        have j5 := hX.c5
        have j6 := hX.c6
        have j7 := hX.c7
        have j8 := hX.c8
        have j9 := hX.c9
        have j10 := hX.c10
        have j11 := hX.c11
        have j12 := hX.c12
        have j13 := hX.c13
        have j14 := hX.c14
        have j15 := hX.c15
        have j16 := hX.c16
        have j17 := hX.c17
        have j18 := hX.c18
        clear hX
        go_simp
        with_reducible rfl
      try simp only [Act.put, List.setIfInBounds_toArray, List.set_cons_zero, List.set_cons_succ])
    refine wpI_done (by kernel_rfl) ?_
    go_wp2_with fail
    go_ret
    exact ⟨rfl, by first | exact HB.out | (rw [← hg]; exact HB.out)⟩
end Go.Proofs.YtafbidhbmfdlkaaGreatDoor
/-
  Store's own: Same, New; with Lay, Raw, Seal, Look, Open, Give, Twin, Check all that layer 13 tells.
-/
namespace Go.Proofs.YtafbidhbmfdlkaaGreatDoor
open Go.RowKit Go.Shelf
set_option maxRecDepth 100000

set_option maxHeartbeats 1000000 in
theorem stNew_any (w : World) : Calls Tryz.prog 19 #[] w (NewS newS w) := by
  have xb := Blk.new w 29 stZ
  have b0 := (Below.refl w.heap.size w).alloc (Nat.le_refl _) (.cells stZ 29)
  obtain ⟨w0, hw0⟩ : ∃ w0, w.alloc (.cells stZ 29) = w0 := ⟨_, rfl⟩
  rw [hw0] at xb b0
  obtain ⟨g, hg⟩ : ∃ g, w.heap.size = g := ⟨_, rfl⟩
  rw [hg] at xb b0
  have HG := Lib.hid hg
  have HX := Lib.hid xb
  have HB := Lib.hid b0
  have HW := Lib.hid (show g ≤ w0.heap.size by rw [← hg]; rw [← hw0, World.size_alloc]; omega)
  have HN := Lib.hid (dNew_any w0)
  simp only [stZ] at hw0
  clear xb b0
  go_enter Tryz.func19, Tryz.ntmps19
  go_wp2_with fail
  refine HN.out.mono ?_
  rintro e w1 ⟨y, rfl, hd, b1⟩
  replace HX := Lib.hid (HX.out.below b1 HX.out.lt)
  replace HB := Lib.hid (HB.out.trans (b1.mono HW.out))
  have HD := Lib.hid (show OutD w1 w0.heap.size y newD from .inr hd)
  have HW1 := Lib.hid (Nat.le_trans HW.out b1.size)
  clear hd b1 HN hw0
  simp only [dval, show newD.1.length = 256 from newD_len, show newD.2.length = 0 from rfl]
  have HN2 := Lib.hid (spNew_any w1)
  go_wp2_with fail
  refine HN2.out.mono ?_
  rintro e w2 ⟨v, rfl, ho, b2⟩
  obtain ⟨a, c, rfl⟩ := own_slice ho
  have x2 := HX.out.below b2 HX.out.lt
  have HD2 := Lib.hid (HD.out.below b2)
  have HO2 := Lib.hid (own_mono ho HW1.out)
  have HB2 := Lib.hid (HB.out.trans (b2.mono HW1.out))
  have d0 := stZ0 x2
  have d1 := stZ1 x2
  have d2 := stZ2 x2
  have d3 := stZ3 x2
  have d4 := stZ4 x2
  have hfz := fun i => x2.frozen i
  have HX2 := Lib.hid x2
  clear b2 ho HX HB HD x2
  go_wp2_with fail
  clear d0 d1 d2 d3 d4 hfz
  obtain ⟨xf, kf, bf⟩ := box_five (L := 0) HX2.out (by decide) (Nat.zero_le _) HB2.out (Nat.le_refl _) (.slice y.ba 256 y.bc) (.slice y.wa 0 y.wc) (.slice a 256 c) (.int .u32 1) (.int .u32 0)
  obtain ⟨wf, hwf⟩ : ∃ wf, set5 w2 g (.slice y.ba 256 y.bc) (.slice y.wa 0 y.wc) (.slice a 256 c) (.int .u32 1) (.int .u32 0) = wf := ⟨_, rfl⟩
  rw [hwf] at xf kf bf
  simp only [set5] at hwf
  rw [hwf]
  have e0 := bx0 xf
  have e1 := bx1 xf
  have e2 := bx2 xf
  have e3 := bx3 xf
  have e4 := bx4 xf
  refine bodyPost_ret (v := .agg #[.slice y.ba 256 y.bc, .slice y.wa 0 y.wc, .slice a 256 c, .int .u32 1, .int .u32 0]) (by simp [results, Tryz.f19, go_sem, e0, e1, e2, e3, e4]) rfl ?_
  have hn := newS_of (B'' := w.heap.size) HD2.out HO2.out (newTo_length (show 12 ≤ 256 by omega)) kf kf (by rw [HG.out]; exact HW.out) (by rw [HG.out]; exact Nat.le_refl _) 1 0
  refine ⟨⟨y, a, c⟩, ?_, hn.1, hn.2, by rw [HG.out]; exact bf⟩
  simp only [stV, show newD.1.length = 256 from newD_len, show newD.2.length = 0 from rfl, newTo_length (show 12 ≤ 256 by omega)]
  rfl
end Go.Proofs.YtafbidhbmfdlkaaGreatDoor
/-
  txg's own New; Check and wrongToSync of pools without lines and changes that may be, and of no pool.
-/
namespace Go.Proofs.YtafbidhbmfdlkaaGreatDoor
open Go.RowKit Go.Shelf
set_option maxRecDepth 100000

theorem make8 (w : World) : (Instr.makeSlice 22 (.int .i64 8) (.int .i64 8)).run Tryz.prog w = .ok (.slice (some ⟨w.heap.size, 0, none⟩) 8 8) (w.alloc (.cells #[.slice none 0 0, .slice none 0 0, .slice none 0 0, .slice none 0 0, .slice none 0 0, .slice none 0 0, .slice none 0 0, .slice none 0 0] 26)) := by kernel_rfl
theorem nil8_brow {w : World} {g B : Nat} (h : Blk w g 26 #[.slice none 0 0, .slice none 0 0, .slice none 0 0, .slice none 0 0, .slice none 0 0, .slice none 0 0, .slice none 0 0, .slice none 0 0]) (hB : B ≤ g) : BRowC w 0 B (.slice (some ⟨g, 0, none⟩) 8 8) (List.replicate 8 []) :=
  ⟨List.replicate 8 (.slice none 0 0), ⟨rfl, .inr ⟨g, 8, _, rfl, hB, h, Nat.le_refl _, by unfold maxLen; omega, rfl, rfl⟩⟩, fun i hi => by
    have e1 : (List.replicate 8 (Value.slice none 0 0)).getD i undef = .slice none 0 0 := by
      rw [List.length_replicate] at hi
      rw [List.getD_eq_getElem?_getD, List.getElem?_replicate, if_pos hi]
      rfl
    have e2 : (List.replicate 8 ([] : List UInt8)).getD i [] = [] := by
      rw [List.getD_eq_getElem?_getD, List.getElem?_replicate]
      split <;> rfl
    rw [e1, e2]
    exact ⟨none, 0, rfl, rfl, Nat.le_refl _, Nat.zero_le _, fun _ => rfl, fun h => absurd h (Nat.lt_irrefl _)⟩⟩
/-- A pool that was never synced. -/
def newN : PoN := ⟨newS, 0, p0, [], List.replicate 8 [], List.replicate 8 [], 0, 1, 1⟩
theorem newN_may : MayN newN := by
  refine ⟨newS_may, by decide, ⟨may_p0, fun h => absurd rfl h, fun h => absurd h (by decide)⟩, ⟨⟨fun k hk => (by cases hk), List.Pairwise.nil⟩, by decide⟩, ⟨rfl, by decide⟩, ⟨rfl, by decide⟩, by decide, by decide⟩
theorem newN_fit : FitN newN := by
  refine ⟨by decide, by decide, trivial, by decide, by decide, by decide, fun s hs => ?_, fun s hs => ?_⟩
  · rw [(List.mem_replicate.1 hs).2]; decide
  · rw [(List.mem_replicate.1 hs).2]; decide
set_option maxHeartbeats 8000000 in
theorem txNew_any (w : World) : Calls Tryz.prog 12 #[] w (NewPo newN w) := by
  have hmx : Tryz.prog.follows Departure.mixedOrders = true := by kernel_rfl
  obtain ⟨w0, gr, hw0, hgr, b0, q0⟩ := new_blk w poZ 36
  have HR := Lib.hid q0
  have HB := Lib.hid b0
  have HGR := Lib.hid (show w.heap.size ≤ gr by omega)
  simp only [poZ] at hw0
  clear b0 q0
  go_enter Tryz.func12, Tryz.ntmps12
  go_wp2_with fail
  try rw [hw0]
  try rw [hgr]
  clear hw0
  obtain ⟨wd, hwd⟩ : ∃ wd, w0.drew = wd := ⟨_, rfl⟩
  have bq : Below w0.heap.size w0 wd := by rw [← hwd]; exact (Below.refl _ w0).drew
  replace HR := Lib.hid (HR.out.below bq HR.out.lt)
  replace HB := Lib.hid (HB.out.trans (bq.mono HB.out.size))
  refine wpI_start (Below w.heap.size w) [0, 1, 2, 3, 4] hmx rfl hwd ?_
  clear hwd bq
  refine wpI_turn [0, 1, 2, 3, 4] rfl ?_
  refine wpI_fork3 rfl rfl rfl (by kernel_rfl) (fun K hK => ?_) (fun K hK => ?_) (fun K hK => ?_)
  go_simp
  have HC := Lib.hid (stNew_any wd)
  refine HC.out.mono ?_
  rintro ev v1 ⟨y, rfl, hy, _, b9⟩
  replace HR := Lib.hid (HR.out.below b9 HR.out.lt)
  replace HB := Lib.hid (HB.out.trans (b9.mono HB.out.size))
  have HS := Lib.hid hy
  refine hK _ _ HB.out ?_
  clear hK K b9 HC hy
  try simp only [Act.put, List.setIfInBounds_toArray, List.set_cons_zero, List.set_cons_succ]
  refine wpI_turn [1, 2, 3, 4] rfl ?_
  refine wpI_fork rfl rfl (by kernel_rfl) (fun K hK => ?_) (fun K hK => ?_)
  have hm8 := make8 v1
  go_simp
  obtain ⟨v2, gA, hn, hg_, bq, xq⟩ := new_blk v1 #[.slice none 0 0, .slice none 0 0, .slice none 0 0, .slice none 0 0, .slice none 0 0, .slice none 0 0, .slice none 0 0, .slice none 0 0] 26
  have HLHA := Lib.hid (show w.heap.size ≤ gA from hg_ ▸ HB.out.size)
  try rw [hn]
  try rw [hg_]
  replace HR := Lib.hid (HR.out.below bq HR.out.lt)
  replace HB := Lib.hid (HB.out.trans (bq.mono HB.out.size))
  replace HS := Lib.hid (HS.out.bel bq)
  have HA := Lib.hid xq
  refine hK _ _ HB.out ?_
  clear hK K hn hg_ xq bq hm8
  try simp only [Act.put, List.setIfInBounds_toArray, List.set_cons_zero, List.set_cons_succ]
  refine wpI_turn [2, 3, 4] rfl ?_
  refine wpI_lone rfl (by kernel_rfl) (fun K hK => ?_)
  have hm8 := make8 v2
  go_simp
  obtain ⟨v3, gE, hn, hg_, bq, xq⟩ := new_blk v2 #[.slice none 0 0, .slice none 0 0, .slice none 0 0, .slice none 0 0, .slice none 0 0, .slice none 0 0, .slice none 0 0, .slice none 0 0] 26
  have HLHE := Lib.hid (show w.heap.size ≤ gE from hg_ ▸ HB.out.size)
  try rw [hn]
  try rw [hg_]
  replace HR := Lib.hid (HR.out.below bq HR.out.lt)
  replace HB := Lib.hid (HB.out.trans (bq.mono HB.out.size))
  replace HS := Lib.hid (HS.out.bel bq)
  replace HA := Lib.hid (HA.out.below bq HA.out.lt)
  have HE := Lib.hid xq
  refine hK _ _ HB.out ?_
  clear hK K hn hg_ xq bq hm8
  try simp only [Act.put, List.setIfInBounds_toArray, List.set_cons_zero, List.set_cons_succ]
  rotate_left
  have hm8 := make8 v1
  go_simp
  obtain ⟨v2, gE, hn, hg_, bq, xq⟩ := new_blk v1 #[.slice none 0 0, .slice none 0 0, .slice none 0 0, .slice none 0 0, .slice none 0 0, .slice none 0 0, .slice none 0 0, .slice none 0 0] 26
  have HLHE := Lib.hid (show w.heap.size ≤ gE from hg_ ▸ HB.out.size)
  try rw [hn]
  try rw [hg_]
  replace HR := Lib.hid (HR.out.below bq HR.out.lt)
  replace HB := Lib.hid (HB.out.trans (bq.mono HB.out.size))
  replace HS := Lib.hid (HS.out.bel bq)
  have HE := Lib.hid xq
  refine hK _ _ HB.out ?_
  clear hK K hn hg_ xq bq hm8
  try simp only [Act.put, List.setIfInBounds_toArray, List.set_cons_zero, List.set_cons_succ]
  refine wpI_turn [1, 3, 4] rfl ?_
  refine wpI_lone rfl (by kernel_rfl) (fun K hK => ?_)
  have hm8 := make8 v2
  go_simp
  obtain ⟨v3, gA, hn, hg_, bq, xq⟩ := new_blk v2 #[.slice none 0 0, .slice none 0 0, .slice none 0 0, .slice none 0 0, .slice none 0 0, .slice none 0 0, .slice none 0 0, .slice none 0 0] 26
  have HLHA := Lib.hid (show w.heap.size ≤ gA from hg_ ▸ HB.out.size)
  try rw [hn]
  try rw [hg_]
  replace HR := Lib.hid (HR.out.below bq HR.out.lt)
  replace HB := Lib.hid (HB.out.trans (bq.mono HB.out.size))
  replace HS := Lib.hid (HS.out.bel bq)
  replace HE := Lib.hid (HE.out.below bq HE.out.lt)
  have HA := Lib.hid xq
  refine hK _ _ HB.out ?_
  clear hK K hn hg_ xq bq hm8
  try simp only [Act.put, List.setIfInBounds_toArray, List.set_cons_zero, List.set_cons_succ]
  rotate_left
  have hm8 := make8 wd
  go_simp
  obtain ⟨v1, gA, hn, hg_, bq, xq⟩ := new_blk wd #[.slice none 0 0, .slice none 0 0, .slice none 0 0, .slice none 0 0, .slice none 0 0, .slice none 0 0, .slice none 0 0, .slice none 0 0] 26
  have HLHA := Lib.hid (show w.heap.size ≤ gA from hg_ ▸ HB.out.size)
  try rw [hn]
  try rw [hg_]
  replace HR := Lib.hid (HR.out.below bq HR.out.lt)
  replace HB := Lib.hid (HB.out.trans (bq.mono HB.out.size))
  have HA := Lib.hid xq
  refine hK _ _ HB.out ?_
  clear hK K hn hg_ xq bq hm8
  try simp only [Act.put, List.setIfInBounds_toArray, List.set_cons_zero, List.set_cons_succ]
  refine wpI_turn [0, 2, 3, 4] rfl ?_
  refine wpI_fork rfl rfl (by kernel_rfl) (fun K hK => ?_) (fun K hK => ?_)
  go_simp
  have HC := Lib.hid (stNew_any v1)
  refine HC.out.mono ?_
  rintro ev v2 ⟨y, rfl, hy, _, b9⟩
  replace HR := Lib.hid (HR.out.below b9 HR.out.lt)
  replace HB := Lib.hid (HB.out.trans (b9.mono HB.out.size))
  replace HA := Lib.hid (HA.out.below b9 HA.out.lt)
  have HS := Lib.hid hy
  refine hK _ _ HB.out ?_
  clear hK K b9 HC hy
  try simp only [Act.put, List.setIfInBounds_toArray, List.set_cons_zero, List.set_cons_succ]
  refine wpI_turn [2, 3, 4] rfl ?_
  refine wpI_lone rfl (by kernel_rfl) (fun K hK => ?_)
  have hm8 := make8 v2
  go_simp
  obtain ⟨v3, gE, hn, hg_, bq, xq⟩ := new_blk v2 #[.slice none 0 0, .slice none 0 0, .slice none 0 0, .slice none 0 0, .slice none 0 0, .slice none 0 0, .slice none 0 0, .slice none 0 0] 26
  have HLHE := Lib.hid (show w.heap.size ≤ gE from hg_ ▸ HB.out.size)
  try rw [hn]
  try rw [hg_]
  replace HR := Lib.hid (HR.out.below bq HR.out.lt)
  replace HB := Lib.hid (HB.out.trans (bq.mono HB.out.size))
  replace HA := Lib.hid (HA.out.below bq HA.out.lt)
  replace HS := Lib.hid (HS.out.bel bq)
  have HE := Lib.hid xq
  refine hK _ _ HB.out ?_
  clear hK K hn hg_ xq bq hm8
  try simp only [Act.put, List.setIfInBounds_toArray, List.set_cons_zero, List.set_cons_succ]
  rotate_left
  have hm8 := make8 v1
  go_simp
  obtain ⟨v2, gE, hn, hg_, bq, xq⟩ := new_blk v1 #[.slice none 0 0, .slice none 0 0, .slice none 0 0, .slice none 0 0, .slice none 0 0, .slice none 0 0, .slice none 0 0, .slice none 0 0] 26
  have HLHE := Lib.hid (show w.heap.size ≤ gE from hg_ ▸ HB.out.size)
  try rw [hn]
  try rw [hg_]
  replace HR := Lib.hid (HR.out.below bq HR.out.lt)
  replace HB := Lib.hid (HB.out.trans (bq.mono HB.out.size))
  replace HA := Lib.hid (HA.out.below bq HA.out.lt)
  have HE := Lib.hid xq
  refine hK _ _ HB.out ?_
  clear hK K hn hg_ xq bq hm8
  try simp only [Act.put, List.setIfInBounds_toArray, List.set_cons_zero, List.set_cons_succ]
  refine wpI_turn [0, 3, 4] rfl ?_
  refine wpI_lone rfl (by kernel_rfl) (fun K hK => ?_)
  go_simp
  have HC := Lib.hid (stNew_any v2)
  refine HC.out.mono ?_
  rintro ev v3 ⟨y, rfl, hy, _, b9⟩
  replace HR := Lib.hid (HR.out.below b9 HR.out.lt)
  replace HB := Lib.hid (HB.out.trans (b9.mono HB.out.size))
  replace HA := Lib.hid (HA.out.below b9 HA.out.lt)
  replace HE := Lib.hid (HE.out.below b9 HE.out.lt)
  have HS := Lib.hid hy
  refine hK _ _ HB.out ?_
  clear hK K b9 HC hy
  try simp only [Act.put, List.setIfInBounds_toArray, List.set_cons_zero, List.set_cons_succ]
  rotate_left
  have hm8 := make8 wd
  go_simp
  obtain ⟨v1, gE, hn, hg_, bq, xq⟩ := new_blk wd #[.slice none 0 0, .slice none 0 0, .slice none 0 0, .slice none 0 0, .slice none 0 0, .slice none 0 0, .slice none 0 0, .slice none 0 0] 26
  have HLHE := Lib.hid (show w.heap.size ≤ gE from hg_ ▸ HB.out.size)
  try rw [hn]
  try rw [hg_]
  replace HR := Lib.hid (HR.out.below bq HR.out.lt)
  replace HB := Lib.hid (HB.out.trans (bq.mono HB.out.size))
  have HE := Lib.hid xq
  refine hK _ _ HB.out ?_
  clear hK K hn hg_ xq bq hm8
  try simp only [Act.put, List.setIfInBounds_toArray, List.set_cons_zero, List.set_cons_succ]
  refine wpI_turn [0, 1, 3, 4] rfl ?_
  refine wpI_fork rfl rfl (by kernel_rfl) (fun K hK => ?_) (fun K hK => ?_)
  go_simp
  have HC := Lib.hid (stNew_any v1)
  refine HC.out.mono ?_
  rintro ev v2 ⟨y, rfl, hy, _, b9⟩
  replace HR := Lib.hid (HR.out.below b9 HR.out.lt)
  replace HB := Lib.hid (HB.out.trans (b9.mono HB.out.size))
  replace HE := Lib.hid (HE.out.below b9 HE.out.lt)
  have HS := Lib.hid hy
  refine hK _ _ HB.out ?_
  clear hK K b9 HC hy
  try simp only [Act.put, List.setIfInBounds_toArray, List.set_cons_zero, List.set_cons_succ]
  refine wpI_turn [1, 3, 4] rfl ?_
  refine wpI_lone rfl (by kernel_rfl) (fun K hK => ?_)
  have hm8 := make8 v2
  go_simp
  obtain ⟨v3, gA, hn, hg_, bq, xq⟩ := new_blk v2 #[.slice none 0 0, .slice none 0 0, .slice none 0 0, .slice none 0 0, .slice none 0 0, .slice none 0 0, .slice none 0 0, .slice none 0 0] 26
  have HLHA := Lib.hid (show w.heap.size ≤ gA from hg_ ▸ HB.out.size)
  try rw [hn]
  try rw [hg_]
  replace HR := Lib.hid (HR.out.below bq HR.out.lt)
  replace HB := Lib.hid (HB.out.trans (bq.mono HB.out.size))
  replace HE := Lib.hid (HE.out.below bq HE.out.lt)
  replace HS := Lib.hid (HS.out.bel bq)
  have HA := Lib.hid xq
  refine hK _ _ HB.out ?_
  clear hK K hn hg_ xq bq hm8
  try simp only [Act.put, List.setIfInBounds_toArray, List.set_cons_zero, List.set_cons_succ]
  rotate_left
  have hm8 := make8 v1
  go_simp
  obtain ⟨v2, gA, hn, hg_, bq, xq⟩ := new_blk v1 #[.slice none 0 0, .slice none 0 0, .slice none 0 0, .slice none 0 0, .slice none 0 0, .slice none 0 0, .slice none 0 0, .slice none 0 0] 26
  have HLHA := Lib.hid (show w.heap.size ≤ gA from hg_ ▸ HB.out.size)
  try rw [hn]
  try rw [hg_]
  replace HR := Lib.hid (HR.out.below bq HR.out.lt)
  replace HB := Lib.hid (HB.out.trans (bq.mono HB.out.size))
  replace HE := Lib.hid (HE.out.below bq HE.out.lt)
  have HA := Lib.hid xq
  refine hK _ _ HB.out ?_
  clear hK K hn hg_ xq bq hm8
  try simp only [Act.put, List.setIfInBounds_toArray, List.set_cons_zero, List.set_cons_succ]
  refine wpI_turn [0, 3, 4] rfl ?_
  refine wpI_lone rfl (by kernel_rfl) (fun K hK => ?_)
  go_simp
  have HC := Lib.hid (stNew_any v2)
  refine HC.out.mono ?_
  rintro ev v3 ⟨y, rfl, hy, _, b9⟩
  replace HR := Lib.hid (HR.out.below b9 HR.out.lt)
  replace HB := Lib.hid (HB.out.trans (b9.mono HB.out.size))
  replace HE := Lib.hid (HE.out.below b9 HE.out.lt)
  replace HA := Lib.hid (HA.out.below b9 HA.out.lt)
  have HS := Lib.hid hy
  refine hK _ _ HB.out ?_
  clear hK K b9 HC hy
  try simp only [Act.put, List.setIfInBounds_toArray, List.set_cons_zero, List.set_cons_succ]
  rotate_left
  all_goals (
    refine wpI_read (v := poV { x := y, ma := none, mc := 0, la := none, lc := 0, ka := some ⟨gA, 0, none⟩, kc := 8, da := some ⟨gE, 0, none⟩, dc := 8, ca := none, cc := 0 } newN) HB.out rfl (by kernel_rfl) (by kernel_rfl) (by kernel_rfl) (fun _ _ _ h => h) (.inl ⟨by rfl, ?_⟩) ?_
    · intro X hX
      clear hX
      simp only [stV]
      go_simp
      repeat' (first | rfl | refine ⟨rfl, ?_⟩)
    try simp only [Act.put, List.setIfInBounds_toArray, List.set_cons_zero, List.set_cons_succ]
    refine wpI_lone rfl (by kernel_rfl) (fun K hK => ?_)
    rw [if_pos (by simp [Region.wanted])]
    refine wp_store_row 36 (.tmp 0) (.tmp 4) rfl gr (poC { x := y, ma := none, mc := 0, la := none, lc := 0, ka := some ⟨gA, 0, none⟩, kc := 8, da := some ⟨gE, 0, none⟩, dc := 8, ca := none, cc := 0 } newN) rfl rfl 36 poZ HR.out infoPo rfl (by simp [poC, Value.oneCell']) ?_
    have hgz := setRow_only (g := gr) v3 (poC { x := y, ma := none, mc := 0, la := none, lc := 0, ka := some ⟨gA, 0, none⟩, kc := 8, da := some ⟨gE, 0, none⟩, dc := 8, ca := none, cc := 0 } newN)
    have hrr := Blk.setRow (cs := poC { x := y, ma := none, mc := 0, la := none, lc := 0, ka := some ⟨gA, 0, none⟩, kc := 8, da := some ⟨gE, 0, none⟩, dc := 8, ca := none, cc := 0 } newN) HR.out
    have hkp : Keeps 0 v3 _ := Keeps.of_box hgz HR.out (by decide) (Nat.zero_le _)
    have hba := below_only HB.out HGR.out hgz HB.out.size
    have HN := Lib.hid (show PoNew w.heap.size (v3.setRow gr (poC { x := y, ma := none, mc := 0, la := none, lc := 0, ka := some ⟨gA, 0, none⟩, kc := 8, da := some ⟨gE, 0, none⟩, dc := 8, ca := none, cc := 0 } newN)) { x := y, ma := none, mc := 0, la := none, lc := 0, ka := some ⟨gA, 0, none⟩, kc := 8, da := some ⟨gE, 0, none⟩, dc := 8, ca := none, cc := 0 } newN from ⟨HS.out.step hkp, World.ownsRow_nil _ _ _ _, brow_keeps (nil8_brow HA.out HLHA.out) hkp.to3, brow_keeps (nil8_brow HE.out HLHE.out) hkp.to3, rfl, rfl, rfl, rfl⟩)
    obtain ⟨wz, hwz⟩ : ∃ X, v3.setRow gr (poC { x := y, ma := none, mc := 0, la := none, lc := 0, ka := some ⟨gA, 0, none⟩, kc := 8, da := some ⟨gE, 0, none⟩, dc := 8, ca := none, cc := 0 } newN) = X := ⟨_, rfl⟩
    rw [hwz] at hrr hba HN ⊢
    have HRR := Lib.hid hrr
    have HBA := Lib.hid hba
    refine hK _ _ hba ?_
    clear hK K hgz hrr hkp hba hwz
    try simp only [Act.put]
    refine wpI_done (by kernel_rfl) ?_
    go_wp2_with fail
    refine bodyPost_ret (results_cell_row rfl _ _ gr 36 (poC { x := y, ma := none, mc := 0, la := none, lc := 0, ka := some ⟨gA, 0, none⟩, kc := 8, da := some ⟨gE, 0, none⟩, dc := 8, ca := none, cc := 0 } newN) (0, 0) _ rfl HRR.out Tryz.underlying36 rfl infoPo) rfl ?_
    exact ⟨_, rfl, HN.out, HBA.out⟩)
theorem txCheck_yes (L : Nat) (x : PoA) (p : PoN) (w : World) (hp : PoOk L w x p) (hL : L ≤ w.heap.size) (hm : MayN p) : Calls Tryz.prog 46 #[poV x p] w fun e w' => e = .returned (.int .i64 0) ∧ Below w.heap.size w w' := by
  obtain ⟨w0, g, hw0, hg, b0, hb⟩ := new_pool w x p
  have HX := Lib.hid hb
  have HB := Lib.hid b0
  have HM := Lib.hid (txMayBe_yes L x p w0 (hp.step b0) (Nat.le_trans hL b0.size) hm)
  simp only [poC] at hw0
  clear hp hL hm b0 hb
  go_enter Tryz.func46, Tryz.ntmps46
  go_wp2_with (with_reducible refine tx_at_load ?_
               try rw [hw0]
               try rw [hg]
               refine wpList_load_pool rfl (.tmp 1) rfl g x p rfl HX.out ?_)
  refine HM.out.mono ?_
  rintro e w1 ⟨rfl, b1⟩
  have HB1 := Lib.hid (HB.out.trans (b1.mono HB.out.size))
  clear b1
  go_wp2_with fail
  go_ret
  exact ⟨rfl, by first | exact HB1.out | (rw [← hg]; exact HB1.out)⟩
theorem txWrong_no (L : Nat) (x : PoA) (p : PoN) (w : World) (hp : PoOk L w x p) (hL : L ≤ w.heap.size) (hm : MayN p) (hg9 : p.gen < 16777215) : Calls Tryz.prog 31 #[poV x p] w fun e w' => e = .returned (.int .i64 0) ∧ Below w.heap.size w w' := by
  obtain ⟨w0, g, hw0, hg, b0, hb⟩ := new_pool w x p
  have HX := Lib.hid hb
  have HB := Lib.hid b0
  have HM := Lib.hid (txMayBe_yes L x p w0 (hp.step b0) (Nat.le_trans hL b0.size) hm)
  simp only [poC] at hw0
  have n0 : (0 : Int) ≤ (p.gen : Int) := by omega
  have n1 : ((p.gen : Int) == 16777215) = false := by simp; omega
  clear hp hL hm b0 hb hg9
  go_enter Tryz.func31, Tryz.ntmps31
  go_wp2_with (with_reducible refine tx_at_load ?_
               try rw [hw0]
               try rw [hg]
               refine wpList_load_pool rfl (.tmp 1) rfl g x p rfl HX.out ?_)
  refine HM.out.mono ?_
  rintro e w1 ⟨rfl, b1⟩
  have HB1 := Lib.hid (HB.out.trans (b1.mono HB.out.size))
  have c5 := (HX.out.bel b1).c5
  clear b1
  go_wp2_with fail
  go_ret
  exact ⟨rfl, by first | exact HB1.out | (rw [← hg]; exact HB1.out)⟩
end Go.Proofs.YtafbidhbmfdlkaaGreatDoor
/-
  txg's own trunk.block: the root's block; linesBlock of no lines.
-/
namespace Go.Proofs.YtafbidhbmfdlkaaGreatDoor
open Go.RowKit Go.Shelf
set_option maxRecDepth 100000

theorem make6p (w : World) : (Instr.makeSlice 100 (.int .i64 6) (.int .i64 6)).run Tryz.prog w = .ok (.slice (some ⟨w.heap.size, 0, none⟩) 6 6) (w.alloc (.cells (ptCs (List.replicate 6 p0)).toArray 31)) := by kernel_rfl
theorem infoPt5 : (Tryz.prog.info? 31).map (·.size) = some 5 := by kernel_rfl
theorem run_copy_pts {P : Program} (w : World) (dT sT ty elem : TypeId) (g o dLen dCap : Nat) (a : Addr) (m sCap : Nat) (cur : Array Value) (t : TypeId) (cs : List Value)
    (hu : P.underlying dT = some (.slice elem)) (hs : (P.info? elem).map (·.size) = some 5) (hg : w.heap[g]? = some (.cells cur t (0, 0))) (hn : cs.length = m * 5) (hmd : m ≤ dLen)
    (hsrc : ∀ j v, cs[j]? = some v → w.cell? (a.add j) = some v) (hfit : o + cs.length ≤ cur.size) (h1 : ∀ v ∈ cs, v.oneCell' = true) :
    (Builtin.copy_ #[dT, sT] ty #[.slice (some ⟨g, o, none⟩) dLen dCap, .slice (some a) m sCap]).run P w =
      .ok (goInt m) (w.setRow g (cur.toList.take o ++ cs ++ cur.toList.drop (o + cs.length)).toArray) := by
  have hl := run_loadCells_list (P := P) w a cs hsrc
  have hst := run_storeCells_at P g o t cs 0 cur w hg (by simpa using hfit) h1
  have hmin : Nat.min m dLen = m := Nat.min_eq_left hmd
  cases hq : P.info? elem with
  | none => simp [hq] at hs
  | some i =>
    have hi : i.size = 5 := by simpa [hq] using hs
    simp [Builtin.copy_, run_underlying hu, Builtin.lenOf, Builtin.firstCells, sizeOf, typeInfo, hq, hi, hmin, ← hn, hl, hst]
theorem wp_copy_pts {o : Oper} {a : Act} {w : World} {K : Act → World → Prop} {Q : Exit → Act → World → Prop} (d s : Operand) (ho : o.op = .call { callee := .builtin .copy, args := #[d, s], argTypes := #[100, 100] })
    (g off dLen dCap : Nat) (cur : Array Value) (hd : a.eval d = .slice (some ⟨g, off, none⟩) dLen dCap) (hg : Blk w g 31 cur) (B : Nat) (A : Option Addr) (m c : Nat) (L : List Pt) (hs : a.eval s = .slice A m c) (hp : Pts w B A m c L) (hm : 0 < m) (hmd : m ≤ dLen) (hfit : off + m * 5 ≤ cur.size)
    (h : ∀ w', Blk w' g 31 (cur.toList.take off ++ ptCs L ++ cur.toList.drop (off + m * 5)).toArray → w.grownBy w' (some g) → K (a.put o.dst (.int .i64 m)) w') : o.wp Tryz.prog a w K Q := by
  obtain ⟨h1, h2, h3, h4, h5⟩ := hp
  obtain ⟨b, off', rfl, _, hc⟩ := h5 hm
  have hl : (ptCs L).length = m * 5 := by rw [ptCs_length, h1]
  have hrun := run_copy_pts (P := Tryz.prog) w 100 100 o.type 31 g off dLen dCap ⟨b, off', none⟩ m c cur 31 (ptCs L) Tryz.underlying100 infoPt5 hg hl hmd (fun j v hv => by
    have hj : j < m * 5 := by
      rcases Nat.lt_or_ge j (ptCs L).length with hj | hj
      · omega
      · rw [List.getElem?_eq_none hj] at hv; cases hv
    have hi : j / 5 < L.length := by omega
    have hlen : (ptC L[j / 5]).length = 5 := rfl
    have hr : j % 5 < (ptC L[j / 5]).length := by rw [hlen]; omega
    have hgt := ptCs_get L (j / 5) hi (j % 5) _ (List.getElem?_eq_getElem hr)
    have ej : j / 5 * 5 + j % 5 = j := by omega
    rw [ej, hv] at hgt
    have := (hc (j / 5) hi).2 (j % 5) _ (List.getElem?_eq_getElem hr)
    rw [Nat.add_assoc, ej] at this
    have e1 : (⟨b, off', none⟩ : Addr).add j = ⟨b, off' + j, none⟩ := by unfold Addr.add; split <;> simp_all
    rw [e1, this, hgt]) (by rw [hl]; exact hfit) (fun v hv => by
    obtain ⟨p, _, hu⟩ := List.mem_flatMap.1 hv
    simp only [ptC, List.mem_cons, List.not_mem_nil, or_false] at hu
    rcases hu with rfl | rfl | rfl | rfl | rfl <;> rfl)
  have hx : (goInt m) = .int .i64 m := rfl
  rw [hl, hx] at hrun
  unfold Oper.wp
  simp [execOp, ho, resolve, invoke, builtin, hd, hs, hrun, Result.andThen]
  refine h _ ?_ (setRow_only w _)
  simpa using Blk.setRow (cs := (cur.toList.take off ++ ptCs L ++ cur.toList.drop (off + m * 5)).toArray) hg
/-- The root's block's struct, by value. -/
@[reducible] def trC (a : Option Addr) (c : Nat) (t : TrL) : Array Value := #[.int .i64 (t.nextId : Int), .int .u32 (t.nextGuid : Int), .int .i64 (t.many : Int), .slice a t.ls.length c, .int .i64 t.keys.1, .int .u32 (t.keys.2.1 : Int), .int .u32 (t.keys.2.2.1 : Int), .int .u32 (t.keys.2.2.2.1 : Int), .int .u32 (t.keys.2.2.2.2 : Int)]
@[reducible] def trV (a : Option Addr) (c : Nat) (t : TrL) : Value := .agg (trC a c t)
theorem pts_blk {w : World} {g n : Nat} {L : List Pt} (h : Blk w g 31 (ptCs L).toArray) (hn : L.length = n) (h9 : n ≤ 1000) (hw : ∀ q ∈ L, WfP q) : Pts w w.heap.size (some ⟨g, 0, none⟩) n n L :=
  ⟨hn, Nat.le_refl _, by unfold maxLen; omega, fun e => (by cases e), fun _ => ⟨g, 0, rfl, h.lt, fun i hi => ⟨hw _ (List.getElem_mem hi), fun j u hu => by
    rw [Nat.zero_add, h.cell]
    have := ptCs_get L i hi j u hu
    simpa using this⟩⟩⟩
theorem ptCs_cons (p : Pt) (L : List Pt) : ptCs (p :: L) = ptC p ++ ptCs L := by simp [ptCs]
theorem ptCs_take : ∀ (i : Nat) (L : List Pt), (ptCs L).take (i * 5) = ptCs (L.take i)
  | 0, L => by simp [ptCs]
  | i + 1, [] => by simp [ptCs]
  | i + 1, p :: L => by
    have hl : (ptC p).length = 5 := rfl
    rw [ptCs_cons, List.take_succ_cons, ptCs_cons, List.take_append, hl, List.take_of_length_le (by omega), show (i + 1) * 5 - 5 = i * 5 by omega, ptCs_take i L]
theorem ptCs_drop : ∀ (i : Nat) (L : List Pt), (ptCs L).drop (i * 5) = ptCs (L.drop i)
  | 0, L => by simp
  | i + 1, [] => by simp [ptCs]
  | i + 1, p :: L => by
    have hl : (ptC p).length = 5 := rfl
    rw [ptCs_cons, List.drop_succ_cons, List.drop_append, hl, List.drop_eq_nil_of_le (by omega), List.nil_append, show (i + 1) * 5 - 5 = i * 5 by omega, ptCs_drop i L]
/-- The row, step by step. -/
def trunkR0 (t : TrL) : List Pt := p0 :: (t.ls ++ List.replicate (5 - t.ls.length) p0)
theorem trunkR_cp {t : TrL} : ((ptCs (List.replicate 6 p0)).toArray.toList.take 5 ++ ptCs t.ls ++ (ptCs (List.replicate 6 p0)).toArray.toList.drop (5 + t.ls.length * 5)).toArray = (ptCs (trunkR0 t)).toArray := by
  congr 1
  have h1 := ptCs_take 1 (List.replicate 6 p0)
  have h2 := ptCs_drop (1 + t.ls.length) (List.replicate 6 p0)
  rw [Nat.one_mul] at h1
  rw [show (1 + t.ls.length) * 5 = 5 + t.ls.length * 5 by omega] at h2
  rw [List.toList_toArray, h1, h2, List.take_replicate, List.drop_replicate, ← ptCs_append, ← ptCs_append]
  unfold trunkR0
  rw [show min 1 6 = 1 by decide, show 6 - (1 + t.ls.length) = 5 - t.ls.length by omega]
  rfl
theorem set_five (X : List Value) (hX : X.length = 25) (a b c d f v0 v1 v2 v3 v4 : Value) :
    ((((((X ++ [a, b, c, d, f]).toArray.setIfInBounds 25 v0).setIfInBounds 26 v1).setIfInBounds 27 v2).setIfInBounds 28 v3).setIfInBounds 29 v4) = (X ++ [v0, v1, v2, v3, v4]).toArray := by
  have e : ∀ (i : Nat) (l : List Value) (v : Value), (X ++ l).set (25 + i) v = X ++ l.set i v := fun i l v => by
    rw [List.set_append_right _ _ (by omega), hX, show 25 + i - 25 = i by omega]
  rw [List.setIfInBounds_toArray, List.setIfInBounds_toArray, List.setIfInBounds_toArray, List.setIfInBounds_toArray, List.setIfInBounds_toArray]
  rw [e 0 [a, b, c, d, f] v0, e 1, e 2, e 3, e 4]
  rfl
theorem trunkR_set {w : World} {g : Nat} {t : TrL} (h : 1 ≤ t.ls.length ∧ t.ls.length ≤ 4) (hb : Blk w g 31 (ptCs (trunkR0 t)).toArray) :
    Blk (((((w.setCell ⟨g, 25, none⟩ (.int .i64 t.keys.1)).setCell ⟨g, 26, none⟩ (.int .u32 (t.keys.2.1 : Int))).setCell ⟨g, 27, none⟩ (.int .u32 (t.keys.2.2.1 : Int))).setCell ⟨g, 28, none⟩ (.int .u32 (t.keys.2.2.2.1 : Int))).setCell ⟨g, 29, none⟩ (.int .u32 (t.keys.2.2.2.2 : Int))) g 31 (ptCs (trunkR t)).toArray := by
  have hs := Blk.set_ (Blk.set_ (Blk.set_ (Blk.set_ (Blk.set_ hb 25 (.int .i64 t.keys.1)) 26 (.int .u32 (t.keys.2.1 : Int))) 27 (.int .u32 (t.keys.2.2.1 : Int))) 28 (.int .u32 (t.keys.2.2.2.1 : Int))) 29 (.int .u32 (t.keys.2.2.2.2 : Int))
  have e1 : trunkR0 t = (p0 :: (t.ls ++ List.replicate (4 - t.ls.length) p0)) ++ [p0] := by
    unfold trunkR0
    rw [show 5 - t.ls.length = (4 - t.ls.length) + 1 by omega, List.replicate_succ']
    simp
  have e2 : trunkR t = (p0 :: (t.ls ++ List.replicate (4 - t.ls.length) p0)) ++ [t.keys] := rfl
  have hX : (ptCs (p0 :: (t.ls ++ List.replicate (4 - t.ls.length) p0))).length = 25 := by
    rw [ptCs_length]
    simp
    omega
  rw [e1, ptCs_append, show ptCs [p0] = [.int .i64 0, .int .u32 0, .int .u32 0, .int .u32 0, .int .u32 0] from rfl, set_five _ hX] at hs
  rw [e2, ptCs_append]
  exact hs
theorem slice_ptr6 (W : World) (g : Nat) : (Instr.slice 100 (.slice (some ⟨g, 0, none⟩) 6 6) (some (.int .i64 1)) none none).run Tryz.prog W = .ok (.slice (some ⟨g, 5, none⟩) 5 5) W := by kernel_rfl
theorem putN_tr (t : TrL) : putN trSz [82, t.nextId, t.nextGuid, t.many] 4 = headTr t := by
  unfold putN headTr trSz
  simp [List.range_succ]
set_option maxHeartbeats 8000000 in
theorem txBlock_any (la : Option Addr) (lc : Nat) (t : TrL) (w : World) (hm : MayTr t) (hp : Pts w w.heap.size la t.ls.length lc t.ls) (hz : Szs w) :
    Calls Tryz.prog 71 #[trV la lc t] w fun e w' => ∃ v, e = .returned v ∧ w'.ownsRow w.heap.size 5 1 v 256 (vals (trunkB t)) ∧ Below w.heap.size w w' := by
  have hmx : Tryz.prog.follows Departure.mixedOrders = true := by kernel_rfl
  have hb4 := blocksN_le hm.many
  have hln := hm.len
  obtain ⟨w0, gt, hw0, hgt, b0, q0⟩ := new_blk w (trC la lc t) 118
  obtain ⟨wd, hwd⟩ : ∃ wd, w0.drew = wd := ⟨_, rfl⟩
  have bq : Below w0.heap.size w0 wd := by rw [← hwd]; exact (Below.refl _ w0).drew
  have HT := Lib.hid (q0.below bq q0.lt)
  have HB0 := Lib.hid (b0.trans (bq.mono b0.size))
  have HP := Lib.hid hp
  have HZ := Lib.hid hz
  have HM := Lib.hid hm
  have HLS := Lib.hid (show 1 ≤ t.ls.length ∧ t.ls.length ≤ 4 by omega)
  have g0 : (0 : Int) ≤ (t.nextGuid : Int) := by omega
  have g9 : (t.nextGuid : Int) ≤ 4294967295 := by have := hm.guid; omega
  have hwg : IntKind.i64.wrap (t.nextGuid : Int) = (t.nextGuid : Int) := by simp [IntKind.wrap, IntKind.bits, IntKind.signed]; omega
  have HB := Lib.hid (Below.refl wd.heap.size wd)
  have HGT := Lib.hid hgt
  simp only [trC] at hw0
  clear b0 q0 bq hp hz hm hb4 hln
  go_enter Tryz.func71, Tryz.ntmps71
  go_wp2_with fail
  try rw [hw0]
  try rw [hgt]
  refine wpI_start (Below wd.heap.size wd) [1, 2, 3, 4, 5, 6, 7, 0, 8, 9, 10, 11, 12, 13, 14] hmx rfl hwd ?_
  clear hwd hw0
  iterate 7 (
    refine wpI_read (v := ?_) HB.out rfl (by kernel_rfl) (by kernel_rfl) (by kernel_rfl) (fun _ _ _ h => h) (.inl ⟨by rfl, ?_⟩) ?_
    rotate_left
    · intro X hX
      have hk := HT.out.below hX HT.out.lt
      have a0 : X.cell? ⟨gt, 0, none⟩ = some (.int .i64 (t.nextId : Int)) := hk.cell 0
      have a1 : X.cell? ⟨gt, 1, none⟩ = some (.int .u32 (t.nextGuid : Int)) := hk.cell 1
      have a2 : X.cell? ⟨gt, 2, none⟩ = some (.int .i64 (t.many : Int)) := hk.cell 2
      clear hk
      clear hX
      go_simp
      with_reducible rfl
    try simp only [Act.put, List.setIfInBounds_toArray, List.set_cons_zero, List.set_cons_succ])
  refine wpI_turn [0, 8, 9, 10, 11, 12, 13, 14] rfl ?_
  refine wpI_fork rfl rfl (by kernel_rfl) (fun K hK => ?_) (fun K hK => ?_)
  go_simp
  have HC := Lib.hid (txTrunkSizes_any wd)
  refine HC.out.mono ?_
  rintro ev v1 ⟨gz, rfl, _, hsz, b9⟩
  replace HB := Lib.hid (HB.out.trans (b9.mono HB.out.size))
  have HSZ := Lib.hid hsz
  refine hK _ _ HB.out ?_
  clear hK K b9 HC hsz
  try simp only [Act.put, List.setIfInBounds_toArray, List.set_cons_zero, List.set_cons_succ]
  refine wpI_turn [8, 9, 10, 11, 12, 13, 14] rfl ?_
  refine wpI_lone rfl (by kernel_rfl) (fun K hK => ?_)
  go_simp
  obtain ⟨v2, gN, hn, hg, bq, xq⟩ := new_box v1 #[.int .i64 82, .int .i64 (t.nextId : Int), .int .i64 (t.nextGuid : Int), .int .i64 (t.many : Int)] 3
  have HLHN := Lib.hid (show wd.heap.size ≤ gN from hg ▸ HB.out.size)
  rw [hn, hg]
  replace HB := Lib.hid (HB.out.trans (bq.mono HB.out.size))
  replace HSZ := Lib.hid (HSZ.out.step bq)
  have HN := Lib.hid xq
  refine hK _ _ HB.out ?_
  clear hK K hn hg xq bq
  try simp only [Act.put, List.setIfInBounds_toArray, List.set_cons_zero, List.set_cons_succ]
  rotate_left
  go_simp
  obtain ⟨v1, gN, hn, hg, bq, xq⟩ := new_box wd #[.int .i64 82, .int .i64 (t.nextId : Int), .int .i64 (t.nextGuid : Int), .int .i64 (t.many : Int)] 3
  have HLHN := Lib.hid (show wd.heap.size ≤ gN from hg ▸ HB.out.size)
  rw [hn, hg]
  replace HB := Lib.hid (HB.out.trans (bq.mono HB.out.size))
  have HN := Lib.hid xq
  refine hK _ _ HB.out ?_
  clear hK K hn hg xq bq
  try simp only [Act.put, List.setIfInBounds_toArray, List.set_cons_zero, List.set_cons_succ]
  refine wpI_turn [0, 9, 10, 11, 12, 13, 14] rfl ?_
  refine wpI_lone rfl (by kernel_rfl) (fun K hK => ?_)
  go_simp
  have HC := Lib.hid (txTrunkSizes_any v1)
  refine HC.out.mono ?_
  rintro ev v2 ⟨gz, rfl, _, hsz, b9⟩
  replace HB := Lib.hid (HB.out.trans (b9.mono HB.out.size))
  replace HN := Lib.hid (HN.out.below b9 HN.out.lt)
  have HSZ := Lib.hid hsz
  refine hK _ _ HB.out ?_
  clear hK K b9 HC hsz
  try simp only [Act.put, List.setIfInBounds_toArray, List.set_cons_zero, List.set_cons_succ]
  rotate_left
  all_goals (
    have HNN := Lib.hid (nsl_blk (s := [82, t.nextId, t.nextGuid, t.many]) HN.out (by simp))
    have HPU := Lib.hid (txPut_any (some ⟨gz, 0, none⟩) 4 4 trSz (some ⟨gN, 0, none⟩) 4 [82, t.nextId, t.nextGuid, t.many] v2 HSZ.out HNN.out (by decide) (fun i hi => by
      have h1 := HM.out.id
      have h2 := HM.out.guid
      have h3 := HM.out.many
      match i, hi with
      | 0, _ => show 82 < 256; decide
      | 1, _ => exact h1
      | 2, _ => exact h2
      | 3, _ => exact Nat.lt_of_le_of_lt h3 (by decide)) (by decide))
    refine wpI_lone rfl (by kernel_rfl) (fun K hK => ?_)
    go_simp
    refine HPU.out.mono ?_
    rintro ev w5 ⟨vh, rfl, hoh, b5⟩
    rw [putN_tr, headTr_length] at hoh
    have HOH := Lib.hid (own_mono hoh (Nat.le_trans HB0.out.size HB.out.size))
    replace HB := Lib.hid (HB.out.trans (b5.mono HB.out.size))
    refine hK _ _ HB.out ?_
    clear hK K hoh b5 HPU
    try simp only [Act.put, List.setIfInBounds_toArray, List.set_cons_zero, List.set_cons_succ]
    iterate 5 (
      refine wpI_read (v := ?_) HB.out rfl (by kernel_rfl) (by kernel_rfl) (by kernel_rfl) (fun _ _ _ h => h) (.inl ⟨by rfl, ?_⟩) ?_
      rotate_left
      · intro X hX
        clear hX
        go_simp
        with_reducible rfl
      try simp only [Act.put, List.setIfInBounds_toArray, List.set_cons_zero, List.set_cons_succ])
    refine wpI_done (by kernel_rfl) ?_
    obtain ⟨ha, hc_, rfl⟩ := own_slice HOH.out
    have hm6 := make6p w5
    obtain ⟨w6, gr, hw6, hgr, b6, q6⟩ := new_blk w5 (ptCs (List.replicate 6 p0)).toArray 31
    rw [hw6, hgr] at hm6
    have hszg : wd.heap.size ≤ gr := by have := HB.out.size; omega
    replace HB := Lib.hid (HB.out.trans (b6.mono HB.out.size))
    replace HOH := Lib.hid (own_below HOH.out b6)
    have HR := Lib.hid q6
    have HGR := Lib.hid (show wd.heap.size ≤ gr from hszg)
    clear b6 q6 hw6
    go_wp2_with fail
    try rw [hgr]
    clear hm6
    obtain ⟨wf, hwf⟩ : ∃ wf, w6.drew = wf := ⟨_, rfl⟩
    have bf : Below w6.heap.size w6 wf := by rw [← hwf]; exact (Below.refl _ w6).drew
    replace HB := Lib.hid (HB.out.trans (bf.mono HB.out.size))
    replace HOH := Lib.hid (own_below HOH.out bf)
    replace HR := Lib.hid (HR.out.below bf HR.out.lt)
    have hcl : wf.cell? ⟨gt, 3, none⟩ = some (.slice la t.ls.length lc) := (HT.out.below HB.out HT.out.lt).cell 3
    have hsl : ∀ W : World, (Instr.slice 100 (.slice (some ⟨gr, 0, none⟩) 6 6) (some (.int .i64 1)) none none).run Tryz.prog W = .ok (.slice (some ⟨gr, 5, none⟩) 5 5) W := fun W => slice_ptr6 W gr
    refine wpJ_start (fun X => X.cell? ⟨gt, 3, none⟩ = some (.slice la t.ls.length lc)) [0, 1, 2, 3, 4] hmx rfl hwf ?_
    clear hwf bf
    iterate 4 (
      refine wpJ_read (v := ?_) hcl rfl (by kernel_rfl) (by kernel_rfl) (by kernel_rfl) (fun _ _ _ h => h) (.inl ⟨by rfl, ?_⟩) ?_
      rotate_left
      · intro X hX
        go_simp
        with_reducible rfl
      try simp only [Act.put, List.setIfInBounds_toArray, List.set_cons_zero, List.set_cons_succ])
    clear hsl
    refine wpJ_last rfl (by kernel_rfl) (by kernel_rfl) (fun K hK => ?_)
    rw [if_pos (by simp [Region.wanted])]
    refine wp_copy_pts (.tmp 23) (.tmp 25) rfl gr 5 5 5 (ptCs (List.replicate 6 p0)).toArray rfl HR.out _ la t.ls.length lc t.ls rfl (HP.out.step (HB0.out.trans (HB.out.mono HB0.out.size))) (by have := HLS.out; omega) (by have := HLS.out; omega) (by have := HLS.out; simp [ptCs_length]; omega) ?_
    intro w7 hr7 hg7
    rw [trunkR_cp] at hr7
    replace HB := Lib.hid (below_only HB.out HGR.out hg7 HB.out.size)
    replace HOH := Lib.hid (own_other HOH.out hg7 (own_ty HOH.out HR.out (by decide)))
    replace HR := Lib.hid hr7
    refine hK _ _ ?_
    clear hK K hr7 hg7 hcl
    try simp only [Act.put, List.setIfInBounds_toArray, List.set_cons_zero, List.set_cons_succ]
    refine wpJ_done (by kernel_rfl) ?_
    have d4 : w7.cell? ⟨gt, 4, none⟩ = some (.int .i64 t.keys.1) := (HT.out.below HB.out HT.out.lt).cell 4
    have d5 : w7.cell? ⟨gt, 5, none⟩ = some (.int .u32 (t.keys.2.1 : Int)) := (HT.out.below HB.out HT.out.lt).cell 5
    have d6 : w7.cell? ⟨gt, 6, none⟩ = some (.int .u32 (t.keys.2.2.1 : Int)) := (HT.out.below HB.out HT.out.lt).cell 6
    have d7 : w7.cell? ⟨gt, 7, none⟩ = some (.int .u32 (t.keys.2.2.2.1 : Int)) := (HT.out.below HB.out HT.out.lt).cell 7
    have d8 : w7.cell? ⟨gt, 8, none⟩ = some (.int .u32 (t.keys.2.2.2.2 : Int)) := (HT.out.below HB.out HT.out.lt).cell 8
    have hlr : (ptCs (trunkR0 t)).toArray.size = 30 := by
      have := HLS.out
      rw [List.size_toArray, ptCs_length]
      unfold trunkR0
      simp
      omega
    obtain ⟨u25, e25⟩ : ∃ u, w7.cell? ⟨gr, 25, none⟩ = some u := ⟨_, (HR.out.cell 25).trans (Array.getElem?_eq_getElem (by omega))⟩
    obtain ⟨u26, e26⟩ : ∃ u, w7.cell? ⟨gr, 26, none⟩ = some u := ⟨_, (HR.out.cell 26).trans (Array.getElem?_eq_getElem (by omega))⟩
    obtain ⟨u27, e27⟩ : ∃ u, w7.cell? ⟨gr, 27, none⟩ = some u := ⟨_, (HR.out.cell 27).trans (Array.getElem?_eq_getElem (by omega))⟩
    obtain ⟨u28, e28⟩ : ∃ u, w7.cell? ⟨gr, 28, none⟩ = some u := ⟨_, (HR.out.cell 28).trans (Array.getElem?_eq_getElem (by omega))⟩
    obtain ⟨u29, e29⟩ : ∃ u, w7.cell? ⟨gr, 29, none⟩ = some u := ⟨_, (HR.out.cell 29).trans (Array.getElem?_eq_getElem (by omega))⟩
    have hfr := fun i => HR.out.frozen i
    have HR8 := Lib.hid (trunkR_set HLS.out HR.out)
    have hg8 : w7.grownBy (((((w7.setCell ⟨gr, 25, none⟩ (.int .i64 t.keys.1)).setCell ⟨gr, 26, none⟩ (.int .u32 (t.keys.2.1 : Int))).setCell ⟨gr, 27, none⟩ (.int .u32 (t.keys.2.2.1 : Int))).setCell ⟨gr, 28, none⟩ (.int .u32 (t.keys.2.2.2.1 : Int))).setCell ⟨gr, 29, none⟩ (.int .u32 (t.keys.2.2.2.2 : Int))) (some gr) :=
      only_trans (only_trans (only_trans (only_trans (Wk.stay _ 25 _) (Wk.stay _ 26 _)) (Wk.stay _ 27 _)) (Wk.stay _ 28 _)) (Wk.stay _ 29 _)
    have HB8 := Lib.hid (below_only HB.out HGR.out hg8 HB.out.size)
    have HOH8 := Lib.hid (own_other HOH.out hg8 (own_ty HOH.out HR.out (by decide)))
    obtain ⟨w8, hw8⟩ : ∃ X, ((((w7.setCell ⟨gr, 25, none⟩ (.int .i64 t.keys.1)).setCell ⟨gr, 26, none⟩ (.int .u32 (t.keys.2.1 : Int))).setCell ⟨gr, 27, none⟩ (.int .u32 (t.keys.2.2.1 : Int))).setCell ⟨gr, 28, none⟩ (.int .u32 (t.keys.2.2.2.1 : Int))).setCell ⟨gr, 29, none⟩ (.int .u32 (t.keys.2.2.2.2 : Int)) = X := ⟨_, rfl⟩
    rw [hw8] at HR8 HB8 HOH8
    have HRW := Lib.hid (by
      have hmt := HM.out
      have hrl := trunkR_length hmt
      obtain ⟨hr1, hr2⟩ := trunkR_may hmt
      have h1 := Row_any (some ⟨gr, 0, none⟩) 6 6 (trunkR t) w8 (pts_blk HR8.out hrl (by decide) hr2) (HZ.out.step (HB0.out.trans (HB8.out.mono HB0.out.size)))
      rw [row_ok (by omega) hr1, hrl] at h1
      exact h1)
    clear hg8 hlr
    go_wp2_with fail
    try rw [hw8]
    clear hw8 d4 d5 d6 d7 d8 e25 e26 e27 e28 e29 hfr
    refine HRW.out.mono ?_
    rintro e w9 ⟨vb, rfl, hob, b9⟩
    have hbl : (rowTo (trunkR t) 6).length = 256 := rowTo_length _ _ (by have := trunkR_length HM.out; omega) (by omega)
    rw [hbl] at hob
    have HOB := Lib.hid hob
    have HRWB := Lib.hid b9
    have HRWS := Lib.hid b9.size
    have HB9 := Lib.hid (HB8.out.trans (b9.mono HB8.out.size))
    have HO9 := Lib.hid (own_bsl (own_below HOH8.out b9))
    have HSZ8 := Lib.hid (Nat.le_trans HB0.out.size HB8.out.size)
    obtain ⟨ba, bc, rfl⟩ := nums_slice hob
    clear hob b9
    go_wp2_with (with_reducible refine copyAt ?_
                 refine wpList_copy_into rfl (.tmp 36) (.tmp 37) rfl w8.heap.size 256 (.slice ba 256 bc) (rowTo (trunkR t) 6) rfl HOB.out _ ha 8 hc_ (headTr t) rfl HO9.out (by decide) (by decide) ?_
                 intro wa hoa hga _
                 have HOA := Lib.hid hoa
                 have HBA := Lib.hid (HB8.out.trans ((app_below HRWB.out HOB.out hga HRWS.out).mono HB8.out.size))
                 clear hoa hga)
    go_ret
    refine ⟨_, rfl, ?_, ?_⟩
    · have h1 := own_mono HOA.out HSZ8.out
      have e1 : ovrL (rowTo (trunkR t) 6) 0 (headTr t) = trunkB t := by
        unfold ovrL trunkB
        rw [headTr_length, List.take_zero, List.nil_append]
      rw [e1] at h1
      exact h1
    · have h2 := HB0.out.trans (HBA.out.mono HB0.out.size)
      first | exact h2 | (rw [← HGT.out]; exact h2))
end Go.Proofs.YtafbidhbmfdlkaaGreatDoor
/-
  slices.Chunk of a slice of pointers by sixteens hands the loop its windows in their order, the last one of what is left; laws for regions that draw their order, in a loop over a function.
-/
namespace Go.Proofs.YtafbidhbmfdlkaaGreatDoor
open Go Go.RowKit Go.Shelf
set_option maxRecDepth 100000
attribute [local go_sem] Oper.semAt_some

end Go.Proofs.YtafbidhbmfdlkaaGreatDoor
/-
  dead's own Lay: rows laid one by one, as a plain function; the call of the closure.
-/
namespace Go.Proofs.YtafbidhbmfdlkaaGreatDoor
open Go Go.RowKit Go.Shelf
set_option maxRecDepth 100000

/-- What the boxes hold while all goes well. -/
structure LyOk (L B : Nat) (W : World) (y : SAt) (T : StL) (u : Value) (ps : List Pt) : Prop where
  may : MayS T
  st : StP L W y T
  own : W.ownsRow B 3 1 u ps.length (valsN (blksD ps))
  one : ∀ q ∈ ps, MayP q
def LySt (L B b g1 g2 g4 g5 : Nat) (o : Option (StL × List Pt)) (W : World) : Prop :=
  Blk W g1 27 #[.int .u32 (b : Int)] ∧ ∃ y T u z, Blk W g2 29 (stC y T) ∧ Blk W g4 32 #[u] ∧ Blk W g5 37 #[.int .i64 z] ∧
    ((o = none ∧ z = 9) ∨ ∃ ps, o = some (T, ps) ∧ z = 0 ∧ LyOk L B W y T u ps)
theorem ly_own {w w' : World} {L B n : Nat} {u : Value} {xs : List Value} (h : w.ownsRow B 3 1 u n xs) (k : Keeps L w w') : w'.ownsRow B 3 1 u n xs := by
  obtain ⟨h1, h2 | ⟨g, cap, cur, rfl, h3, h4, h5⟩⟩ := h
  · exact ⟨h1, .inl h2⟩
  · exact ⟨h1, .inr ⟨g, cap, cur, rfl, h3, k.row _ _ _ h4 (by decide), h5⟩⟩
theorem LySt.grown {L B b g1 g2 g4 g5 : Nat} {o : Option (StL × List Pt)} {W W' : World} {row : Option Nat} (h : LySt L B b g1 g2 g4 g5 o W) (hg : W.grownBy W' row) (k : Keeps L W W') (hn : ∀ r, row = some r → r ≠ g1 ∧ r ≠ g2 ∧ r ≠ g4 ∧ r ≠ g5) : LySt L B b g1 g2 g4 g5 o W' := by
  obtain ⟨h1, y, T, u, z, h2, h4, h5, hc⟩ := h
  refine ⟨h1.grown hg (fun e => (hn _ e.symm).1 rfl), y, T, u, z, h2.grown hg (fun e => (hn _ e.symm).2.1 rfl), h4.grown hg (fun e => (hn _ e.symm).2.2.1 rfl), h5.grown hg (fun e => (hn _ e.symm).2.2.2 rfl), ?_⟩
  rcases hc with hc | ⟨ps, rfl, rfl, ok⟩
  · exact .inl hc
  · exact .inr ⟨ps, rfl, rfl, ok.may, ok.st.step k, ly_own ok.own k, ok.one⟩
theorem keeps_walk {L B : Nat} {W W' : World} {row : Option Nat} (hg : W.grownBy W' row) (hL : L ≤ B) (hk : ∀ r, row = some r → B ≤ r ∧ ∃ o : Obj, W.heap[r]? = some o ∧ o.isCells = false) : Keeps L W W' :=
  ⟨hg.os, hg.tape, hg.output, hg.size, fun b hb hl => hg.block b hb (fun e => by have := (hk b e.symm).1; omega), fun b t cs hb _ => blk_kept hb hg (fun r e => (hk r e).2)⟩
theorem Fz.imp {N : Nat} {X Y : Nat → Prop} {w w' : World} (h : Fz N X w w') (hi : ∀ k, X k → Y k) : Fz N Y w w' := ⟨h.os, h.tape, h.output, h.size, fun k hk hy => h.same k hk fun hx => hy (hi k hx)⟩
end Go.Proofs.YtafbidhbmfdlkaaGreatDoor
/-
  dead's own Lay: rows laid one behind the other, and the row of their pointers.
-/
namespace Go.Proofs.YtafbidhbmfdlkaaGreatDoor
open Go Go.RowKit Go.Shelf
set_option maxRecDepth 100000

theorem run_store_func {P : Program} (w : World) (a : Addr) (m : Mode) (f : Fn) (x y : Array Value) : (store a (.func f x y) m).run P w = stored P w a (.func f x y) m := run_store P w a _ m rfl
attribute [local go_sem] run_store_func Oper.semAt_some
theorem fz_kept {X : Nat → Prop} {W W' : World} (h : Fz W.heap.size X W W') (hx : ∀ k, X k → ∃ t cs, Blk W k t cs) : KeepsOthers W W' :=
  ⟨h.size, fun k o hk ho => (h.same k (Array.getElem?_eq_some_iff.1 hk).1 fun hxk => by
    obtain ⟨t, cs, hb⟩ := hx k hxk
    rw [show W.heap[k]? = _ from hb] at hk
    cases hk
    cases ho).trans hk⟩
/-- A region that is left in the one way alone. -/
def onlyN (Q : Exit → Act → World → Prop) : Exit → Act → World → Prop
  | .normal, a, w => Q .normal a w
  | _, _, _ => False
theorem onlyN_of {F : Fence} {m : Nat} {P : Program} {c : Code} {Q : Exit → Act → World → Prop} {a : Act} {w : World} (h : c.wpIn F m P (onlyN Q) a w) : c.wpIn F m P Q a w :=
  wpIn_mono h fun e a w h => by cases e <;> first | exact h | exact False.elim h
theorem onlyN_n {Q : Exit → Act → World → Prop} {a : Act} {w : World} (h : Q .normal a w) : onlyN Q .normal a w := h
theorem wpJ_app_prow {ops : List Oper} {md : Region.Mode} {S : World → Prop} {Q : Exit → Act → World → Prop} {i : Nat} {σ : List Nat} {o : Oper} {listed : Array Bool} {a : Act} {w : World} (hi : nthOp ops i = some o) (hr : Region.ready md ops.toArray listed = [i]) (hgd : o.guard = none) (x y : Operand)
    (ho : o.op = .call { callee := .builtin .append, args := #[x, y], argTypes := #[100, 100] })
    (base : Nat) (v : Value) (l : List Pt) (hx : a.eval x = v) (hp : PRow w base v l) (B : Nat) (A : Option Addr) (m c : Nat) (M : List Pt) (hy : a.eval y = .slice A m c) (hs : Pts w B A m c M)
    (hn : l.length + m ≤ 1000000) (hbase : base ≤ w.heap.size)
    (h : ∀ v' w', PRow w' base v' (l ++ M) → w.grownBy w' v.ownBlock → S w' ∧ wpJ Tryz.prog md S ops Q σ (listed.setIfInBounds i true) (a.put o.dst v') w') : wpJ Tryz.prog md S ops Q (i :: σ) listed a w :=
  wpJ_lone hi hr fun K hK => by
    rw [if_pos (by simp [Region.wanted, hgd])]
    exact wp_append_prow x y ho base v l hx hp B A m c M hy hs hn hbase fun v' w' h1 h2 => hK _ _ (h v' w' h1 h2).1 (h v' w' h1 h2).2
end Go.Proofs.YtafbidhbmfdlkaaGreatDoor
/-
  txg's own linesBlock of no lines; slices.Chunk of no lines hands the loop nothing.
-/
namespace Go.Proofs.YtafbidhbmfdlkaaGreatDoor
open Go Go.RowKit Go.Shelf
set_option maxRecDepth 100000

theorem txLinesNil_any (a : Option Addr) (c : Nat) (w : World) : Calls Tryz.prog 69 #[.slice a 0 c] w (OwnV 256 (linesB []) w) := by
  have hmk0 : ∀ W : World, (Instr.makeSlice 26 (.int .i64 0) (.int .i64 256)).run Tryz.prog W = _ := make_room 256 (by omega)
  have b0 := (Below.refl w.heap.size w).alloc (Nat.le_refl _) (.cells (Array.replicate 256 (.int .u8 0)) 5)
  have ho := own_bsl (own_room0 w 256 (by omega))
  obtain ⟨w0, hw0⟩ : ∃ X, w.alloc (.cells (Array.replicate 256 (.int .u8 0)) 5) = X := ⟨_, rfl⟩
  obtain ⟨g, hg⟩ : ∃ g, w.heap.size = g := ⟨_, rfl⟩
  rw [hw0] at b0 ho
  rw [hg] at ho
  have HF := Lib.hid (txFilled_any (some ⟨g, 0, none⟩) 0 256 [] w0 ho (by omega))
  have HB := Lib.hid b0
  have HG := Lib.hid hg
  clear b0 ho
  go_enter Tryz.func69, Tryz.ntmps69
  go_wp2_with fail
  try rw [hw0]
  try rw [hg]
  clear hmk0
  go_loopw [3, 13] (fun v i wr => v = .slice (some ⟨g, 0, none⟩) 0 256 ∧ i = .int .i64 0 ∧ w0 = wr) (fun _ _ _ => 0)
  case atStart => exact ⟨rfl, rfl, rfl⟩
  case round =>
    obtain ⟨rfl, rfl, rfl⟩ := hrel
    go_wp2_with fail
    refine HF.out.mono ?_
    rintro e w2 ⟨v2, rfl, ho2, b2⟩
    have HO2 := Lib.hid (own_mono ho2 HB.out.size)
    have HB2 := Lib.hid (HB.out.trans (b2.mono HB.out.size))
    clear ho2 b2
    go_wp2_with fail
    go_ret
    refine ⟨_, rfl, ?_, ?_⟩
    · have e : linesB [] = fillB [] := by unfold linesB; rw [List.flatMap_nil]
      rw [e]
      exact HO2.out
    · first | exact HB2.out | (rw [← HG.out]; exact HB2.out)
theorem chunkL_in (F : Fence) (n : Nat) (h : F.fn 67) (hro : F.round = none) (a : Option Addr) (len cap : Nat) (w : World) :
    CallsIn F n Tryz.prog 67 #[.slice a len cap, .int .i64 5] w fun e w' => e = .returned (.func (.func 123) #[] #[.pointer (some ⟨w.heap.size, 0, none⟩), .pointer (some ⟨w.heap.size + 1, 0, none⟩)]) ∧
      w' = (w.alloc (.cells #[.slice a len cap] 113)).alloc (.cells #[.int .i64 5] 3) := by
  refine callsIn_of_wp Tryz.func67 rfl h ?_ hro
  simp only [Tryz.ntmps67, List.size_toArray, List.length_cons, List.length_nil, Nat.reduceAdd, Nat.reduceSub, Array.replicate_succ, Array.replicate_zero, List.push_toArray, List.append_toArray, List.nil_append, List.cons_append]
  gi_wp2
  go_ret
  exact ⟨rfl, rfl⟩
theorem stopsL0 (m : Nat) (Bs Bn c : Nat) (a : Option Addr) (w : World) (hBs : Bs < w.heap.size) (hR : w.cell? ⟨Bs, 0, none⟩ = some (.slice a 0 c)) :
    SeqStopsK Fence.wide m Tryz.prog 123 #[.pointer (some ⟨Bs, 0, none⟩), .pointer (some ⟨Bn, 0, none⟩)] (fun _ : Fin 0 => #[undef]) (fun _ _ => True)
      (fun ys => ys = []) (fun _ => False) 0 w := fun l J Jx W hW hJ _ hY h0 => by
  refine callsIn_of_wp Tryz.func123 rfl trivial ?_ rfl
  simp only [Tryz.ntmps123, List.size_toArray, List.length_cons, List.length_nil, Nat.reduceAdd, Nat.reduceSub, Array.replicate_succ, Array.replicate_zero, List.push_toArray, List.append_toArray, List.nil_append, List.cons_append]
  have hb1 := (hW.cell (p := ⟨Bs, 0, none⟩) hBs).trans hR
  have HJ0 := Lib.hid h0
  clear hY hJ h0 hR
  gi_wp2
  gi_loopw [4] (fun i wr => i = .int .i64 0 ∧ W = wr) (fun _ _ => 0)
  case atStart => exact ⟨rfl, rfl⟩
  case round =>
    obtain ⟨rfl, rfl⟩ := hrel
    gi_wp2
    go_end0
    exact ⟨⟨_, rfl⟩, .inl ⟨[], rfl, HJ0.out⟩⟩
end Go.Proofs.YtafbidhbmfdlkaaGreatDoor
/-
  txg's work: one of the pool's own blocks laid, where it is not refused; what stays.
-/
namespace Go.Proofs.YtafbidhbmfdlkaaGreatDoor
open Go Go.RowKit Go.Shelf
set_option maxRecDepth 100000

/-- What layOwn leaves where it is not refused. -/
def OutOk (B g : Nat) (k : Wk) (n : Nat) (own : List Nat) (T : StL) (q : Pt) (w : World) (r : Ending) (w' : World) : Prop :=
  ∃ y v, r = .returned (ptV q) ∧ Box w' g { k with x := y, S := T, own := v } ∧ w'.ownsRow B 3 1 v (n + 1) (valsN (own ++ [q.1.toNat])) ∧ StP 0 w' y T ∧ Fz w.heap.size (fun i => i = g ∨ k.own.ownBlock = some i) w w' ∧ Keeps3 0 w w'
theorem txLayOwn_ok (L g B : Nat) (k : Wk) (a : Option Addr) (c : Nat) (b : List UInt8) (n : Nat) (own : List Nat) (T : StL) (q : Pt) (w : World) (h : Box w g k) (hn : k.e = 0) (hT : StP L w k.x k.S) (ho : OkS k.S) (hL : L ≤ w.heap.size) (hb : w.ownsRow 0 5 1 (.slice a 256 c) 256 (vals b)) (hbi : k.birth < 4294967296) (hM : w.ownsRow B 3 1 k.own n (valsN own)) (hnn : n ≤ 50000) (hB : B ≤ w.heap.size) (hq : rawO k.S k.birth 0 0 b = (T, q, 0)) :
    Calls Tryz.prog 68 #[.pointer (some ⟨g, 0, none⟩), .slice a 256 c] w (OutOk B g k n own T q w) := by
  have hl : b.length = 256 := by have := hb.1; simpa [vals] using this
  have hbs := own_bsl hb
  have h1 := txLayOwn_go L g B k a c b n own w h hn hT ho hL (by rw [hl]; exact hbs) hbi hM hnn hB
  rw [hl, hq] at h1
  refine h1.mono ?_
  rintro r w' ⟨y, v, rfl, h2, h3, h4, h5, h6⟩
  exact ⟨y, v, rfl, by simpa using h2, h3, h4, h5, h6⟩
/-- The work box and the row of the pool's own blocks, and nothing else. -/
structure Own2 (g B : Nat) (k : Wk) (n : Nat) (own : List Nat) (w : World) : Prop where
  box : Box w g k
  row : w.ownsRow B 3 1 k.own n (valsN own)
section
variable {g B n : Nat} {k : Wk} {own : List Nat} {w w' : World}
theorem Own2.cells (h : Own2 g B k n own w) : ∀ i, (i = g ∨ k.own.ownBlock = some i) → ∃ t cs, Blk w i t cs := fun i hi => by
  rcases hi with rfl | hi
  · exact ⟨_, _, h.box⟩
  · obtain ⟨_, ⟨e, _⟩ | ⟨g', cap, cur, e, _, h4, _⟩⟩ := h.row
    · rw [e] at hi; simp [Value.ownBlock] at hi
    · rw [e] at hi
      have : g' = i := by simpa [Value.ownBlock] using hi
      subst this
      exact ⟨_, _, h4⟩
theorem Own2.far (h : Own2 g B k n own w) {b : Nat} {t : TypeId} {cs : Array Value} (hb : Blk w b t cs) (h1 : t ≠ 62) (h2 : t ≠ 3) : ¬ (b = g ∨ k.own.ownBlock = some b) := fun hi => by
  rcases hi with rfl | hi
  · exact blk_ne hb h.box h1 rfl
  · exact own_ty h.row hb (fun e => h2 e.symm) b hi rfl
theorem Own2.blk (h : Own2 g B k n own w) (fz : Fz w.heap.size (fun i => i = g ∨ k.own.ownBlock = some i) w w') {b : Nat} {t : TypeId} {cs : Array Value} (hb : Blk w b t cs) (h1 : t ≠ 62) (h2 : t ≠ 3) : Blk w' b t cs := fz.blk hb hb.lt (h.far hb h1 h2)
theorem Own2.dk (h : Own2 g B k n own w) (fz : Fz w.heap.size (fun i => i = g ∨ k.own.ownBlock = some i) w w') {D : Nat} {d : Option (List Deferred)} (hD : w.heap[D]? = some (.deferred d)) : w'.heap[D]? = some (.deferred d) := (fz_kept fz h.cells).2 D _ hD rfl
theorem Own2.szs (h : Own2 g B k n own w) (fz : Fz w.heap.size (fun i => i = g ∨ k.own.ownBlock = some i) w w') (hz : Szs w) (hB : 0 < B) : Szs w' := hz.fz fz hz.1 (fun hi => by
  rcases hi with e | hi
  · exact box_ne0 h.box hz e.symm
  · have := (nums_lt h.row hi).1
    omega)
theorem Own2.fz0 (h : Own2 g B k n own w) (fz : Fz w.heap.size (fun i => i = g ∨ k.own.ownBlock = some i) w w') {N : Nat} (hN : N ≤ w.heap.size) (hB : N ≤ B) : Fz N (fun i => i = g) w w' :=
  ⟨fz.os, fz.tape, fz.output, fz.size, fun i hi hne => fz.same i (by omega) (fun hx => hx.elim hne (fun e => by have := (nums_lt h.row e).1; omega))⟩
theorem Own2.prow (h : Own2 g B k n own w) (fz : Fz w.heap.size (fun i => i = g ∨ k.own.ownBlock = some i) w w') {B' : Nat} {v : Value} {L : List Pt} (hp : PRow w B' v L) : PRow w' B' v L :=
  ⟨fz.own hp.1 (Nat.le_refl _) (fun i hi => by
    obtain ⟨_, ⟨rfl, _⟩ | ⟨g', cap, cur, rfl, _, h4, _⟩⟩ := hp.1
    · simp [Value.ownBlock] at hi
    · have : g' = i := by simpa [Value.ownBlock] using hi
      subst this
      exact h.far h4 (by decide) (by decide)), hp.2⟩
theorem prow_own2 {B' b : Nat} {v : Value} {L : List Pt} {t : TypeId} {cs : Array Value} (hp : PRow w B' v L) (hg : w.grownBy w' (some b)) (hb : Blk w b t cs) (ht : 31 ≠ t) : PRow w' B' v L := ⟨own_other hp.1 hg (own_ty hp.1 hb ht), hp.2⟩
end
end Go.Proofs.YtafbidhbmfdlkaaGreatDoor
/-
  txg's work: layMeta of a pool without lines.
-/
namespace Go.Proofs.YtafbidhbmfdlkaaGreatDoor
open Go Go.RowKit Go.Shelf
set_option maxRecDepth 100000

theorem prow_pts1 {w : World} {B : Nat} {a : Option Addr} {c : Nat} {L : List Pt} (h : PRow w B (.slice a L.length c) L) : Pts w w.heap.size a L.length c L := by
  obtain ⟨a', c', e, h'⟩ := h.pts
  cases e
  exact h'
theorem makeLn0 (w : World) : (Instr.makeSlice 113 (.int .i64 0) (.int .i64 0)).run Tryz.prog w = .ok (.slice (some ⟨w.heap.size, 0, none⟩) 0 0) (w.alloc (.cells #[] 116)) := by kernel_rfl
theorem infoTr : (Tryz.prog.info? 118).map (·.size) = some 9 := by kernel_rfl
/-- The trunk, before its pointers are known. -/
def tr0 (id guid : Nat) : TrL := ⟨id, guid, 0, [], p0⟩
@[reducible] def trZ : Array Value := #[.int .i64 0, .int .u32 0, .int .i64 0, .slice none 0 0, .int .i64 0, .int .u32 0, .int .u32 0, .int .u32 0, .int .u32 0]
theorem loadTr_run (W : World) (g : Nat) (a : Option Addr) (c : Nat) (t : TrL) (hb : Blk W g 118 (trC a c t)) : (loadVar 118 ⟨g, 0, none⟩).run Tryz.prog W = .ok (trV a c t) W :=
  run_loadVar_row W g 118 118 (trC a c t) (0, 0) _ hb Tryz.underlying118 rfl infoTr
theorem exec_loadTr {ev : Operand → Value} {o : Oper} {y : Operand} {X : World} {g : Nat} {a : Option Addr} {c : Nat} {t : TrL} (ho : o.op = .load 118 y) (hx : ev y = .pointer (some ⟨g, 0, none⟩)) (hb : Blk X g 118 (trC a c t)) : (execOp ev o).run Tryz.prog X = .ok (.value (trV a c t)) X := by
  unfold execOp
  simp only [ho, hx, Instr.loadAt, Instr.sureAddr, Sem.run_bind, Sem.run_pure, Result.andThen_ok, loadTr_run X g a c t hb]
/-- What layMeta leaves. -/
def OutMeta (g : Nat) (k : Wk) (S : StL) (q1 q2 q3 : Pt) (w : World) (r : Ending) (w' : World) : Prop :=
  r = .returned (.tuple #[]) ∧ ∃ y v, Box w' g { k with x := y, S := S, own := v, root := q3 } ∧ w'.ownsRow w.heap.size 3 1 v 3 (valsN [q1.1.toNat, q2.1.toNat, q3.1.toNat]) ∧ StP 0 w' y S ∧ Fz w.heap.size (fun i => i = g) w w'
set_option maxHeartbeats 8000000 in
theorem txLayMeta_in (m : Nat) (hm3 : 3 ≤ m) (g : Nat) (k : Wk) (S1 S2 S3 : StL) (q1 q2 q3 : Pt) (ka : Option Addr) (kc : Nat) (keys : List (List UInt8)) (id : Nat) (w : World) (h : Box w g k) (hn : k.e = 0) (hT : StP 0 w k.x k.S) (hL : k.birth < 4294967296) (hok : OkS k.S ∧ OkS S1 ∧ OkS S2)
    (hli : k.lines = .slice none 0 0) (how : k.own = .slice none 0 0) (hke : k.keys = .slice ka 8 kc ∧ ∀ s ∈ keys, s.length ≤ 24) (hK : Lasts 0 w fun W => Bls W W.heap.size ka 8 kc keys) (hid_ : k.nextId = (id : Int)) (hz : Szs w)
    (h1 : rawO k.S k.birth 0 0 (linesB []) = (S1, q1, 0)) (h2 : rawO S1 k.birth 0 0 (keysB keys) = (S2, q2, 0)) (h3 : rawO S2 k.birth 0 0 (trunkB ⟨id, k.nextGuid, 0, [q1], q2⟩) = (S3, q3, 0)) (hmt : MayTr ⟨id, k.nextGuid, 0, [q1], q2⟩) :
    CallsIn Fence.wide m Tryz.prog 35 #[.pointer (some ⟨g, 0, none⟩)] w (OutMeta g k S3 q1 q2 q3 w) := by
  have hro : Fence.wide.round = none := rfl
  have hmx : Tryz.prog.follows Departure.mixedOrders = true := by kernel_rfl
  have hd : 1 ≤ m := by omega
  obtain ⟨w0, gb, hw0, hgb, b0, qb⟩ := new_blk w #[.pointer (some ⟨g, 0, none⟩)] 58
  obtain ⟨w1, ga, hw1, hga, b1, qa⟩ := new_blk w0 #[] 116
  have hmk := makeLn0 w0
  rw [hw1, hga] at hmk
  have HX := Lib.hid ((h.bel b0).bel b1)
  have HPB := Lib.hid ((qb.below b1 qb.lt))
  have HT := Lib.hid ((Lasts.bel hT b0).bel b1)
  have HKL := Lib.hid ((Lasts.bel hK b0).bel b1)
  have HZ := Lib.hid ((hz.step b0).step b1)
  have HB := Lib.hid (b0.trans (b1.mono b0.size))
  have HH := Lib.hid (And.intro hn hL)
  have HLI := Lib.hid hli
  have HOW := Lib.hid how
  have HR1 := Lib.hid h1
  have HR2 := Lib.hid h2
  have HR3 := Lib.hid h3
  have HMT := Lib.hid hmt
  have HOK := Lib.hid hok
  have HKE := Lib.hid hke
  have HID := Lib.hid hid_
  have HGT := Lib.hid h.lt
  have c12 := (h.bel b0).c12
  rw [hli] at c12
  have cp := qb.cell 0
  have c12b := ((h.bel b0).bel b1).c12
  rw [hli] at c12b
  have cpb := (qb.below b1 qb.lt).cell 0
  clear h hT hK hz b0 b1 qb qa hn hL hli how h1 h2 h3 hmt hok hke hid_
  refine callsIn_of_wp_marks Tryz.func35 rfl trivial ?_ hro
  simp only [Tryz.ntmps35, List.size_toArray, List.length_cons, List.length_nil, Nat.reduceAdd, Nat.reduceSub, Array.replicate_succ, Array.replicate_zero, List.push_toArray, List.append_toArray, List.nil_append, List.cons_append]
  gi_wp2
  try rw [hw0]
  try rw [hgb]
  try rw [hw1]
  try rw [hga]
  gi_loopw [20] (fun i wr => i = .int .i64 0 ∧ w1 = wr) (fun _ _ => 0)
  case atStart => exact ⟨rfl, rfl⟩
  case round =>
    obtain ⟨rfl, rfl⟩ := hrel
    gi_wp2
    obtain ⟨wd, hwd⟩ : ∃ wd, w1.drew = wd := ⟨_, rfl⟩
    have bq : Below w1.heap.size w1 wd := by rw [← hwd]; exact (Below.refl _ w1).drew
    replace HX := Lib.hid (HX.out.bel bq)
    replace HPB := Lib.hid (HPB.out.below bq HPB.out.lt)
    replace HT := Lib.hid (Lasts.bel HT.out bq)
    replace HKL := Lib.hid (Lasts.bel HKL.out bq)
    replace HZ := Lib.hid (HZ.out.step bq)
    replace HB := Lib.hid (HB.out.trans (bq.mono HB.out.size))
    clear bq
    have hS : Box wd g k ∧ Blk wd gb 58 #[.pointer (some ⟨g, 0, none⟩)] := ⟨HX.out, HPB.out⟩
    refine onlyN_of (wpJ_wide (fun X => Box X g k ∧ Blk X gb 58 #[.pointer (some ⟨g, 0, none⟩)]) [0, 1, 2, 3, 4, 5, 6, 7, 8, 9, 10, 11, 12, 13, 14] hmx (by kernel_rfl) (fun h => by obtain ⟨_, _, h⟩ := h; exact h) rfl hwd ?_)
    clear hwd c12 cp c12b cpb hmk
    iterate 13 (
      refine wpJ_read (v := ?_) hS rfl (by kernel_rfl) (by kernel_rfl) (by kernel_rfl) (fun _ _ _ h => h) (.inl ⟨by rfl, ?_⟩) ?_
      rotate_left
      · intro X hX
        have j0 := hX.2.cell 0
        have j17 := hX.1.c17
        rw [HID.out] at j17
        have j18 := hX.1.c18
        clear hX
        go_simp
        with_reducible rfl
      try simp only [Act.put, List.setIfInBounds_toArray, List.set_cons_zero, List.set_cons_succ])
    refine wpJ_lone rfl (by kernel_rfl) (fun K hK => ?_)
    go_simp
    obtain ⟨w2, gt, hn, hg_, bq, xq⟩ := new_blk wd trZ 118
    try simp only [trZ] at hn
    rw [hn, hg_]
    have HGW := Lib.hid (show w.heap.size ≤ gt by have := HB.out.size; omega)
    replace HX := Lib.hid (HX.out.bel bq)
    replace HPB := Lib.hid (HPB.out.below bq HPB.out.lt)
    replace HT := Lib.hid (Lasts.bel HT.out bq)
    replace HKL := Lib.hid (Lasts.bel HKL.out bq)
    replace HZ := Lib.hid (HZ.out.step bq)
    replace HB := Lib.hid (HB.out.trans (bq.mono HB.out.size))
    have HTR := Lib.hid xq
    refine hK _ _ ⟨HX.out, HPB.out⟩ ?_
    clear hK K hn bq xq hS
    try simp only [Act.put, List.setIfInBounds_toArray, List.set_cons_zero, List.set_cons_succ]
    refine wpJ_last rfl (by kernel_rfl) (by kernel_rfl) (fun K hK => ?_)
    rw [if_pos (by simp [Region.wanted])]
    refine wp_store_row 118 (.tmp 5) (.tmp 47) rfl gt (trC none 0 (tr0 id k.nextGuid)) rfl rfl 118 trZ HTR.out infoTr rfl (by simp [trC, Value.oneCell']) ?_
    have hgz := setRow_only (g := gt) w2 (trC none 0 (tr0 id k.nextGuid))
    have hrr := Blk.setRow (cs := trC none 0 (tr0 id k.nextGuid)) HTR.out
    obtain ⟨w3, hw3⟩ : ∃ X, w2.setRow gt (trC none 0 (tr0 id k.nextGuid)) = X := ⟨_, rfl⟩
    rw [hw3] at hgz hrr ⊢
    have hkp : Keeps 0 _ _ := Keeps.of_box hgz HTR.out (by decide) (Nat.zero_le _)
    replace HX := Lib.hid (show Box _ _ _ from Blk.grown HX.out hgz (fun e => by have := HGT.out; have := HGW.out; have := Option.some.inj e; omega))
    replace HPB := Lib.hid (HPB.out.grown hgz (fun e => blk_ne HPB.out HTR.out (by decide) (Option.some.inj e)))
    replace HT := Lib.hid (Lasts.step HT.out hkp)
    replace HKL := Lib.hid (Lasts.step HKL.out hkp)
    replace HZ := Lib.hid (HZ.out.only hgz (by have := HGW.out; have := HGT.out; omega))
    replace HB := Lib.hid (below_only HB.out HGW.out hgz HB.out.size)
    clear hkp
    replace HTR := Lib.hid hrr
    refine hK _ _ ?_
    clear hK K hw3 hrr hgz
    try simp only [Act.put]
    refine wpJ_done (by kernel_rfl) (onlyN_n ?_)
    gi_wp2_with (refine ⟨trivial, ?_⟩; (gi_at_call 67; refine (chunkL_in Fence.wide (m - 1) trivial hro _ _ _ _).mono ?_; rintro e w' ⟨rfl, rfl⟩))
    obtain ⟨W0, hW0, bW, zW, v0, v1⟩ := two_al w3 #[.slice (some ⟨ga, 0, none⟩) 0 0] #[.int .i64 5] 113 3
    try rw [hW0]
    obtain ⟨gs, hgs⟩ : ∃ gs, w3.heap.size = gs := ⟨_, rfl⟩
    try rw [hgs]
    rw [hgs] at v0 v1
    obtain ⟨gn, hgn⟩ : ∃ gn, gs + 1 = gn := ⟨_, rfl⟩
    try rw [hgn]
    replace HX := Lib.hid (HX.out.bel bW)
    replace HPB := Lib.hid (HPB.out.below bW HPB.out.lt)
    replace HT := Lib.hid (Lasts.bel HT.out bW)
    replace HKL := Lib.hid (Lasts.bel HKL.out bW)
    replace HZ := Lib.hid (HZ.out.step bW)
    replace HB := Lib.hid (HB.out.trans (bW.mono HB.out.size))
    replace HTR := Lib.hid (HTR.out.below bW HTR.out.lt)
    have hgsl := v0.lt
    have hgsc := v0.cell 0
    clear hW0 bW zW v0 v1 hgs hgn
    refine wpIn_rangeFunc_ownG hro hd (gf := 123) (lb := #[.pointer (some ⟨gs, 0, none⟩), .pointer (some ⟨gn, 0, none⟩)]) rfl trivial (enters_of Tryz.func123 (by kernel_rfl) rfl) (stopsL0 (m - 1) gs gn 0 (some ⟨ga, 0, none⟩) W0 hgsl hgsc) (fun _ _ => trivial) (fun _ _ _ _ _ _ _ _ => trivial) (Below.refl _ _) (fun x_ => x_.elim0)
      (fun _ W => Below W0.heap.size W0 W) (fun _ _ _ => False) ?hI ?hIx (Below.refl _ _) (fun x_ => x_.elim0) ?assign ?body ?done ?stop
    case hI => exact fun _ W W' row h hgr hk => ⟨hgr.os.trans h.os, hgr.tape.trans h.tape, hgr.output.trans h.output, Nat.le_trans h.size hgr.size, fun k_ hk2 => (hgr.block k_ (by have := h.size; omega) (fun e => by have := (hk k_ e.symm).1; omega)).trans (h.block k_ hk2)⟩
    case hIx => intro c_ pre W W' row h; exact h.elim
    case assign => intro li x_; exact x_.elim0
    case body => intro li pre x_; exact x_.elim0
    case stop => intro D_ c_ pre W _ h; exact h.elim
    case done =>
      intro D_ ys W hD hC hI hK
      replace HX := Lib.hid (HX.out.bel hI)
      replace HPB := Lib.hid (HPB.out.below hI HPB.out.lt)
      replace HT := Lib.hid (Lasts.bel HT.out hI)
      replace HKL := Lib.hid (Lasts.bel HKL.out hI)
      replace HZ := Lib.hid (HZ.out.step hI)
      replace HTR := Lib.hid (HTR.out.below hI HTR.out.lt)
      have HFZ := Lib.hid (show Fz w.heap.size (fun i => i = g) w W from Fz.of_below (HB.out.trans (hI.mono HB.out.size)) (Nat.le_refl _))
      have HDD := Lib.hid (show w.heap.size ≤ D_ from Nat.le_trans HB.out.size hD)
      have HW0 := Lib.hid (show 0 < w.heap.size by have := HGT.out; omega)
      have HDK := Lib.hid hK
      have HM := Lib.hid (show W.ownsRow w.heap.size 3 1 k.own 0 (valsN []) by rw [HOW.out]; exact World.ownsRow_nil _ _ _ _)
      have HKE0 := Lib.hid HH.out.1
      clear hI hK hC HB hgsl hgsc
      gi_wp2
      obtain ⟨va, hwd⟩ : ∃ wd, W.drew = wd := ⟨_, rfl⟩
      have bq : Below W.heap.size W va := by rw [← hwd]; exact (Below.refl _ W).drew
      replace HX := Lib.hid (HX.out.bel bq)
      replace HPB := Lib.hid (HPB.out.below bq HPB.out.lt)
      replace HT := Lib.hid (Lasts.bel HT.out bq)
      replace HKL := Lib.hid (Lasts.bel HKL.out bq)
      replace HZ := Lib.hid (HZ.out.step bq)
      replace HTR := Lib.hid (HTR.out.below bq HTR.out.lt)
      replace HFZ := Lib.hid (Fz.trans HFZ.out (Fz.of_below bq HFZ.out.size))
      replace HDK := Lib.hid ((kept_below bq).2 D_ _ HDK.out rfl)
      replace HM := Lib.hid (own_below HM.out bq)
      clear bq
      have hS : Blk va gt 118 (trC none 0 (tr0 id k.nextGuid)) ∧ Blk va gb 58 #[.pointer (some ⟨g, 0, none⟩)] := ⟨HTR.out, HPB.out⟩
      refine onlyN_of (wpJ_wide (fun X => Blk X gt 118 (trC none 0 (tr0 id k.nextGuid)) ∧ Blk X gb 58 #[.pointer (some ⟨g, 0, none⟩)]) [0, 1, 2, 3, 4, 5, 6, 7, 8] hmx (by kernel_rfl) (fun h => by obtain ⟨_, _, h⟩ := h; exact h) rfl hwd ?_)
      clear hwd
      iterate 3 (
        refine wpJ_read (v := ?_) hS rfl (by kernel_rfl) (by kernel_rfl) (by kernel_rfl) (fun _ _ _ h => h) (.inl ⟨by rfl, ?_⟩) ?_
        rotate_left
        · intro X hX
          have j0 := hX.2.cell 0
          have j3 : X.cell? ⟨gt, 3, none⟩ = some (.slice none 0 0) := hX.1.cell 3
          clear hX
          go_simp
          with_reducible rfl
        try simp only [Act.put, List.setIfInBounds_toArray, List.set_cons_zero, List.set_cons_succ])
      have HLN := Lib.hid (txLinesNil_any none 0 va)
      refine wpJ_lone rfl (by kernel_rfl) (fun K hK => ?_)
      go_simp
      refine HLN.out.mono ?_
      rintro ev vb ⟨vl, rfl, hol, bq⟩
      obtain ⟨la, lc, rfl⟩ := own_slice hol
      replace HX := Lib.hid (HX.out.bel bq)
      replace HPB := Lib.hid (HPB.out.below bq HPB.out.lt)
      replace HT := Lib.hid (Lasts.bel HT.out bq)
      replace HKL := Lib.hid (Lasts.bel HKL.out bq)
      replace HZ := Lib.hid (HZ.out.step bq)
      replace HTR := Lib.hid (HTR.out.below bq HTR.out.lt)
      replace HFZ := Lib.hid (Fz.trans HFZ.out (Fz.of_below bq HFZ.out.size))
      replace HDK := Lib.hid ((kept_below bq).2 D_ _ HDK.out rfl)
      replace HM := Lib.hid (own_below HM.out bq)
      have hS2 : Blk vb gt 118 (trC none 0 (tr0 id k.nextGuid)) ∧ Blk vb gb 58 #[.pointer (some ⟨g, 0, none⟩)] := ⟨HTR.out, HPB.out⟩
      refine hK _ _ hS2 ?_
      clear hK K hS bq HLN
      try simp only [Act.put, List.setIfInBounds_toArray, List.set_cons_zero, List.set_cons_succ]
      have HLO := Lib.hid (txLayOwn_ok 0 g w.heap.size k la lc (linesB []) 0 [] S1 q1 vb HX.out HKE0.out HT.out HOK.out.1 (Nat.zero_le _) (own_mono hol (Nat.zero_le _)) HH.out.2 HM.out (by decide) HFZ.out.size HR1.out)
      refine wpJ_lone rfl (by kernel_rfl) (fun K hK => ?_)
      go_simp
      refine HLO.out.mono ?_
      rintro ev vc ⟨y1, v1, rfl, hx, hm, hst, hfz, hk3⟩
      have o2 : Own2 _ _ _ _ _ _ := ⟨HX.out, HM.out⟩
      replace HPB := Lib.hid (o2.blk hfz HPB.out (by decide) (by decide))
      replace HKL := Lib.hid (Lasts.step3 HKL.out hk3)
      replace HZ := Lib.hid (o2.szs hfz HZ.out HW0.out)
      replace HTR := Lib.hid (o2.blk hfz HTR.out (by decide) (by decide))
      replace HFZ := Lib.hid (Fz.trans HFZ.out (o2.fz0 hfz HFZ.out.size (Nat.le_refl _)))
      replace HDK := Lib.hid (o2.dk hfz HDK.out)
      replace HX := Lib.hid hx
      replace HM := Lib.hid hm
      replace HT := Lib.hid hst
      clear o2 hx hm hst hfz hk3
      have hS3 : Blk vc gt 118 (trC none 0 (tr0 id k.nextGuid)) ∧ Blk vc gb 58 #[.pointer (some ⟨g, 0, none⟩)] := ⟨HTR.out, HPB.out⟩
      refine hK _ _ hS3 ?_
      clear hK K hS2 hol HLO
      try simp only [Act.put, List.setIfInBounds_toArray, List.set_cons_zero, List.set_cons_succ]
      obtain ⟨⟨qa1, qb1, qi1, qt1, qs1⟩, hq1⟩ : ∃ q, q1 = q := ⟨_, rfl⟩
      have HQ1 := Lib.hid hq1
      have hwq : WfP (qa1, qb1, qi1, qt1, qs1) := by have := (HMT.out.one q1 (by simp)).2.1; rw [hq1] at this; exact this
      rw [hq1]
      refine wpJ_lone rfl (by kernel_rfl) (fun K hK => ?_)
      go_simp
      obtain ⟨vd, g6, hn4, hg6, bq, xq⟩ := new_blk vc (ptC (qa1, qb1, qi1, qt1, qs1)).toArray 31
      have hone := one_pts vc (qa1, qb1, qi1, qt1, qs1) hwq
      rw [hn4, hg6] at hone
      simp only [ptC] at hn4
      rw [hn4, hg6]
      have HON := Lib.hid hone
      replace HX := Lib.hid (HX.out.bel bq)
      replace HPB := Lib.hid (HPB.out.below bq HPB.out.lt)
      replace HT := Lib.hid (Lasts.bel HT.out bq)
      replace HKL := Lib.hid (Lasts.bel HKL.out bq)
      replace HZ := Lib.hid (HZ.out.step bq)
      replace HTR := Lib.hid (HTR.out.below bq HTR.out.lt)
      replace HFZ := Lib.hid (Fz.trans HFZ.out (Fz.of_below bq HFZ.out.size))
      replace HDK := Lib.hid ((kept_below bq).2 D_ _ HDK.out rfl)
      replace HM := Lib.hid (own_below HM.out bq)
      have hS4 : Blk vd gt 118 (trC none 0 (tr0 id k.nextGuid)) ∧ Blk vd gb 58 #[.pointer (some ⟨g, 0, none⟩)] := ⟨HTR.out, HPB.out⟩
      refine hK _ _ hS4 ?_
      clear hK K hn4 hg6 bq xq hone hS3
      try simp only [Act.put, List.setIfInBounds_toArray, List.set_cons_zero, List.set_cons_succ]
      refine wpJ_app_prow rfl (by kernel_rfl) rfl (.tmp 64) (.tmp 68) rfl w.heap.size (.slice none 0 0) [] rfl (prow_nil _ _) vd.heap.size (some ⟨g6, 0, none⟩) 1 1 [(qa1, qb1, qi1, qt1, qs1)] rfl HON.out (by decide) HFZ.out.size ?_
      intro vr ve hpr hgr
      have bq : Below vd.heap.size vd ve := ⟨hgr.os, hgr.tape, hgr.output, hgr.size, fun k_ hk_ => hgr.block k_ hk_ (by simp [Value.ownBlock])⟩
      replace HX := Lib.hid (HX.out.bel bq)
      replace HPB := Lib.hid (HPB.out.below bq HPB.out.lt)
      replace HT := Lib.hid (Lasts.bel HT.out bq)
      replace HKL := Lib.hid (Lasts.bel HKL.out bq)
      replace HZ := Lib.hid (HZ.out.step bq)
      replace HTR := Lib.hid (HTR.out.below bq HTR.out.lt)
      replace HFZ := Lib.hid (Fz.trans HFZ.out (Fz.of_below bq HFZ.out.size))
      replace HDK := Lib.hid ((kept_below bq).2 D_ _ HDK.out rfl)
      replace HM := Lib.hid (own_below HM.out bq)
      obtain ⟨pa, pc, rfl, _⟩ := hpr.pts
      have HPR := Lib.hid (show PRow ve w.heap.size (.slice pa 1 pc) [(qa1, qb1, qi1, qt1, qs1)] from hpr)
      refine ⟨⟨HTR.out, HPB.out⟩, ?_⟩
      clear hpr hgr bq hS4
      try simp only [Act.put, List.setIfInBounds_toArray, List.set_cons_zero, List.set_cons_succ]
      have hS5 : Blk ve gt 118 (trC none 0 (tr0 id k.nextGuid)) ∧ Blk ve gb 58 #[.pointer (some ⟨g, 0, none⟩)] := ⟨HTR.out, HPB.out⟩
      iterate 1 (
        refine wpJ_read (v := ?_) hS5 rfl (by kernel_rfl) (by kernel_rfl) (by kernel_rfl) (fun _ _ _ h => h) (.inl ⟨by rfl, ?_⟩) ?_
        rotate_left
        · intro X hX
          clear hX
          go_simp
          with_reducible rfl
        try simp only [Act.put, List.setIfInBounds_toArray, List.set_cons_zero, List.set_cons_succ])
      have hc3 := HTR.out.cell 3
      have hfr := HTR.out.frozen 3
      have hgz := Wk.stay (g := gt) ve 3 (.slice pa 1 pc)
      have hrr := HTR.out.set_ 3 (.slice pa 1 pc)
      obtain ⟨vf, hvf⟩ : ∃ X, ve.setCell ⟨gt, 3, none⟩ (.slice pa 1 pc) = X := ⟨_, rfl⟩
      rw [hvf] at hgz hrr
      have hkp : Keeps 0 _ _ := Keeps.of_box hgz HTR.out (by decide) (Nat.zero_le _)
      replace HX := Lib.hid (show Box _ _ _ from Blk.grown HX.out hgz (fun e => by have := HGT.out; have := HGW.out; have := Option.some.inj e; omega))
      replace HPB := Lib.hid (HPB.out.grown hgz (fun e => blk_ne HPB.out HTR.out (by decide) (Option.some.inj e)))
      replace HT := Lib.hid (Lasts.step HT.out hkp)
      replace HKL := Lib.hid (Lasts.step HKL.out hkp)
      replace HZ := Lib.hid (HZ.out.only hgz (by have := HGW.out; have := HGT.out; omega))
      replace HFZ := Lib.hid (Fz.trans HFZ.out (Fz.of_grown hgz HFZ.out.size (fun _ e => .inr (by have := HGW.out; have := Option.some.inj e; omega))))
      replace HDK := Lib.hid ((keepsOthers_grown hgz HTR.out).2 D_ _ HDK.out rfl)
      replace HM := Lib.hid (own_other HM.out hgz (own_ty HM.out HTR.out (by decide)))
      replace HPR := Lib.hid (prow_own2 HPR.out hgz HTR.out (by decide))
      clear hkp
      replace HTR := Lib.hid (show Blk vf gt 118 (trC pa pc ⟨id, k.nextGuid, 0, [(qa1, qb1, qi1, qt1, qs1)], p0⟩) from hrr)
      refine wpJ_last rfl (by kernel_rfl) (by kernel_rfl) (fun K hK => ?_)
      go_simp
      try rw [hvf]
      refine hK _ _ ?_
      clear hK K hS5 hc3 hfr hgz hrr hvf
      try simp only [Act.put, List.setIfInBounds_toArray, List.set_cons_zero, List.set_cons_succ]
      refine wpJ_done (by kernel_rfl) (onlyN_n ?_)
      gi_wp2
      obtain ⟨vg, hwd⟩ : ∃ wd, vf.drew = wd := ⟨_, rfl⟩
      have bq : Below vf.heap.size vf vg := by rw [← hwd]; exact (Below.refl _ vf).drew
      replace HX := Lib.hid (HX.out.bel bq)
      replace HPB := Lib.hid (HPB.out.below bq HPB.out.lt)
      replace HT := Lib.hid (Lasts.bel HT.out bq)
      replace HKL := Lib.hid (Lasts.bel HKL.out bq)
      replace HZ := Lib.hid (HZ.out.step bq)
      replace HTR := Lib.hid (HTR.out.below bq HTR.out.lt)
      replace HFZ := Lib.hid (Fz.trans HFZ.out (Fz.of_below bq HFZ.out.size))
      replace HDK := Lib.hid ((kept_below bq).2 D_ _ HDK.out rfl)
      replace HM := Lib.hid (own_below HM.out bq)
      replace HPR := Lib.hid (HPR.out.below bq)
      clear bq
      have hS : vg.cell? ⟨g, 13, none⟩ = some (.slice ka 8 kc) ∧ Blk vg gb 58 #[.pointer (some ⟨g, 0, none⟩)] := ⟨by rw [HX.out.c13]; exact congrArg some HKE.out.1, HPB.out⟩
      refine onlyN_of (wpJ_wide (fun X => X.cell? ⟨g, 13, none⟩ = some (.slice ka 8 kc) ∧ Blk X gb 58 #[.pointer (some ⟨g, 0, none⟩)]) [0, 1, 2, 3, 4, 5, 6, 7, 8, 9] hmx (by kernel_rfl) (fun h => by obtain ⟨_, _, h⟩ := h; exact h) rfl hwd ?_)
      clear hwd
      iterate 6 (
        refine wpJ_read (v := ?_) hS rfl (by kernel_rfl) (by kernel_rfl) (by kernel_rfl) (fun _ _ _ h => h) (.inl ⟨by rfl, ?_⟩) ?_
        rotate_left
        · intro X hX
          have j0 := hX.2.cell 0
          have j13 := hX.1
          clear hX
          go_simp
          with_reducible rfl
        try simp only [Act.put, List.setIfInBounds_toArray, List.set_cons_zero, List.set_cons_succ])
      have HLN := Lib.hid (txKeys_any ka kc keys vg HKL.out.now HKE.out.2)
      refine wpJ_lone rfl (by kernel_rfl) (fun K hK => ?_)
      go_simp
      refine HLN.out.mono ?_
      rintro ev vh ⟨vl, rfl, hol, bq⟩
      obtain ⟨la, lc, rfl⟩ := own_slice hol
      replace HX := Lib.hid (HX.out.bel bq)
      replace HPB := Lib.hid (HPB.out.below bq HPB.out.lt)
      replace HT := Lib.hid (Lasts.bel HT.out bq)
      replace HKL := Lib.hid (Lasts.bel HKL.out bq)
      replace HZ := Lib.hid (HZ.out.step bq)
      replace HTR := Lib.hid (HTR.out.below bq HTR.out.lt)
      replace HFZ := Lib.hid (Fz.trans HFZ.out (Fz.of_below bq HFZ.out.size))
      replace HDK := Lib.hid ((kept_below bq).2 D_ _ HDK.out rfl)
      replace HM := Lib.hid (own_below HM.out bq)
      replace HPR := Lib.hid (HPR.out.below bq)
      have hS2 : vh.cell? ⟨g, 13, none⟩ = some (.slice ka 8 kc) ∧ Blk vh gb 58 #[.pointer (some ⟨g, 0, none⟩)] := ⟨by rw [HX.out.c13]; exact congrArg some HKE.out.1, HPB.out⟩
      refine hK _ _ hS2 ?_
      clear hK K hS bq HLN
      try simp only [Act.put, List.setIfInBounds_toArray, List.set_cons_zero, List.set_cons_succ]
      have HLO := Lib.hid (txLayOwn_ok 0 g w.heap.size _ la lc (keysB keys) 1 [qa1.toNat] S2 q2 vh HX.out HKE0.out HT.out HOK.out.2.1 (Nat.zero_le _) (own_mono hol (Nat.zero_le _)) HH.out.2 (by rw [HQ1.out] at HM; exact HM.out) (by decide) HFZ.out.size HR2.out)
      refine wpJ_lone rfl (by kernel_rfl) (fun K hK => ?_)
      go_simp
      refine HLO.out.mono ?_
      rintro ev vi ⟨y2, v2, rfl, hx, hm, hst, hfz, hk3⟩
      have o2 : Own2 _ _ _ _ _ _ := ⟨HX.out, HM.out⟩
      replace HPB := Lib.hid (o2.blk hfz HPB.out (by decide) (by decide))
      replace HKL := Lib.hid (Lasts.step3 HKL.out hk3)
      replace HZ := Lib.hid (o2.szs hfz HZ.out HW0.out)
      replace HTR := Lib.hid (o2.blk hfz HTR.out (by decide) (by decide))
      replace HFZ := Lib.hid (Fz.trans HFZ.out (o2.fz0 hfz HFZ.out.size (Nat.le_refl _)))
      replace HDK := Lib.hid (o2.dk hfz HDK.out)
      replace HPR := Lib.hid (o2.prow hfz HPR.out)
      replace HX := Lib.hid hx
      replace HM := Lib.hid hm
      replace HT := Lib.hid hst
      clear o2 hx hm hst hfz hk3
      have hS3 : vi.cell? ⟨g, 13, none⟩ = some (.slice ka 8 kc) ∧ Blk vi gb 58 #[.pointer (some ⟨g, 0, none⟩)] := ⟨by rw [HX.out.c13]; exact congrArg some HKE.out.1, HPB.out⟩
      refine hK _ _ hS3 ?_
      clear hK K hS2 hol HLO
      try simp only [Act.put, List.setIfInBounds_toArray, List.set_cons_zero, List.set_cons_succ]
      obtain ⟨⟨qa2, qb2, qi2, qt2, qs2⟩, hq2⟩ : ∃ q, q2 = q := ⟨_, rfl⟩
      have HQ2 := Lib.hid hq2
      rw [hq2]
      simp only [ptV]
      iterate 1 (
        refine wpJ_read (v := ?_) hS3 rfl (by kernel_rfl) (by kernel_rfl) (by kernel_rfl) (fun _ _ _ h => h) (.inl ⟨by rfl, ?_⟩) ?_
        rotate_left
        · intro X hX
          clear hX
          go_simp
          with_reducible rfl
        try simp only [Act.put, List.setIfInBounds_toArray, List.set_cons_zero, List.set_cons_succ])
      have hc4 := HTR.out.cell 4
      have hc5 := HTR.out.cell 5
      have hc6 := HTR.out.cell 6
      have hc7 := HTR.out.cell 7
      have hc8 := HTR.out.cell 8
      have hfr := fun i => HTR.out.frozen i
      have hgz := only_trans (only_trans (only_trans (only_trans (Wk.stay (g := gt) vi 4 (.int .i64 qa2)) (Wk.stay _ 5 (.int .u32 (qb2 : Int)))) (Wk.stay _ 6 (.int .u32 (qi2 : Int)))) (Wk.stay _ 7 (.int .u32 (qt2 : Int)))) (Wk.stay _ 8 (.int .u32 (qs2 : Int)))
      have hrr := ((((HTR.out.set_ 4 (.int .i64 qa2)).set_ 5 (.int .u32 (qb2 : Int))).set_ 6 (.int .u32 (qi2 : Int))).set_ 7 (.int .u32 (qt2 : Int))).set_ 8 (.int .u32 (qs2 : Int))
      obtain ⟨vj, hvf⟩ : ∃ X, ((((vi.setCell ⟨gt, 4, none⟩ (.int .i64 qa2)).setCell ⟨gt, 5, none⟩ (.int .u32 (qb2 : Int))).setCell ⟨gt, 6, none⟩ (.int .u32 (qi2 : Int))).setCell ⟨gt, 7, none⟩ (.int .u32 (qt2 : Int))).setCell ⟨gt, 8, none⟩ (.int .u32 (qs2 : Int)) = X := ⟨_, rfl⟩
      rw [hvf] at hgz hrr
      have hkp : Keeps 0 _ _ := Keeps.of_box hgz HTR.out (by decide) (Nat.zero_le _)
      replace HX := Lib.hid (show Box _ _ _ from Blk.grown HX.out hgz (fun e => by have := HGT.out; have := HGW.out; have := Option.some.inj e; omega))
      replace HPB := Lib.hid (HPB.out.grown hgz (fun e => blk_ne HPB.out HTR.out (by decide) (Option.some.inj e)))
      replace HT := Lib.hid (Lasts.step HT.out hkp)
      replace HKL := Lib.hid (Lasts.step HKL.out hkp)
      replace HZ := Lib.hid (HZ.out.only hgz (by have := HGW.out; have := HGT.out; omega))
      replace HFZ := Lib.hid (Fz.trans HFZ.out (Fz.of_grown hgz HFZ.out.size (fun _ e => .inr (by have := HGW.out; have := Option.some.inj e; omega))))
      replace HDK := Lib.hid ((keepsOthers_grown hgz HTR.out).2 D_ _ HDK.out rfl)
      replace HM := Lib.hid (own_other HM.out hgz (own_ty HM.out HTR.out (by decide)))
      replace HPR := Lib.hid (prow_own2 HPR.out hgz HTR.out (by decide))
      clear hkp
      replace HTR := Lib.hid (show Blk vj gt 118 (trC pa pc ⟨id, k.nextGuid, 0, [(qa1, qb1, qi1, qt1, qs1)], (qa2, qb2, qi2, qt2, qs2)⟩) from hrr)
      refine wpJ_last rfl (by kernel_rfl) (by kernel_rfl) (fun K hK => ?_)
      go_simp
      try rw [hvf]
      refine hK _ _ ?_
      clear hK K hS3 hc4 hc5 hc6 hc7 hc8 hfr hgz hrr hvf
      try simp only [Act.put, List.setIfInBounds_toArray, List.set_cons_zero, List.set_cons_succ]
      refine wpJ_done (by kernel_rfl) (onlyN_n ?_)
      gi_wp2
      obtain ⟨vk, hwd⟩ : ∃ wd, vj.drew = wd := ⟨_, rfl⟩
      have bq : Below vj.heap.size vj vk := by rw [← hwd]; exact (Below.refl _ vj).drew
      replace HX := Lib.hid (HX.out.bel bq)
      replace HPB := Lib.hid (HPB.out.below bq HPB.out.lt)
      replace HT := Lib.hid (Lasts.bel HT.out bq)
      replace HKL := Lib.hid (Lasts.bel HKL.out bq)
      replace HZ := Lib.hid (HZ.out.step bq)
      replace HTR := Lib.hid (HTR.out.below bq HTR.out.lt)
      replace HFZ := Lib.hid (Fz.trans HFZ.out (Fz.of_below bq HFZ.out.size))
      replace HDK := Lib.hid ((kept_below bq).2 D_ _ HDK.out rfl)
      replace HM := Lib.hid (own_below HM.out bq)
      replace HPR := Lib.hid (HPR.out.below bq)
      clear bq
      have hS : Blk vk gt 118 (trC pa pc ⟨id, k.nextGuid, 0, [(qa1, qb1, qi1, qt1, qs1)], (qa2, qb2, qi2, qt2, qs2)⟩) ∧ Blk vk gb 58 #[.pointer (some ⟨g, 0, none⟩)] := ⟨HTR.out, HPB.out⟩
      refine onlyN_of (wpJ_wide (fun X => Blk X gt 118 (trC pa pc ⟨id, k.nextGuid, 0, [(qa1, qb1, qi1, qt1, qs1)], (qa2, qb2, qi2, qt2, qs2)⟩) ∧ Blk X gb 58 #[.pointer (some ⟨g, 0, none⟩)]) [0, 1, 2, 3, 4, 5, 6, 7, 8] hmx (by kernel_rfl) (fun h => by obtain ⟨_, _, h⟩ := h; exact h) rfl hwd ?_)
      clear hwd
      iterate 2 (
        refine wpJ_read (v := ?_) hS rfl (by kernel_rfl) (by kernel_rfl) (by kernel_rfl) (fun _ _ _ h => h) (.inl ⟨by rfl, ?_⟩) ?_
        rotate_left
        · intro X hX
          have j0 := hX.2.cell 0
          clear hX
          go_simp
          with_reducible rfl
        try simp only [Act.put, List.setIfInBounds_toArray, List.set_cons_zero, List.set_cons_succ])
      refine wpJ_read (v := trV pa pc ⟨id, k.nextGuid, 0, [(qa1, qb1, qi1, qt1, qs1)], (qa2, qb2, qi2, qt2, qs2)⟩) hS rfl (by kernel_rfl) (by kernel_rfl) (by kernel_rfl) (fun _ _ _ h => h) (.inl ⟨by rfl, fun X hX => exec_loadTr rfl rfl hX.1⟩) ?_
      try simp only [Act.put, List.setIfInBounds_toArray, List.set_cons_zero, List.set_cons_succ]
      have HLN := Lib.hid (txBlock_any pa pc ⟨id, k.nextGuid, 0, [(qa1, qb1, qi1, qt1, qs1)], (qa2, qb2, qi2, qt2, qs2)⟩ vk (by have := HMT.out; rw [HQ1.out, HQ2.out] at this; exact this) (prow_pts1 HPR.out) HZ.out)
      refine wpJ_lone rfl (by kernel_rfl) (fun K hK => ?_)
      go_simp
      refine HLN.out.mono ?_
      rintro ev vl ⟨vb_, rfl, hol, bq⟩
      obtain ⟨la, lc, rfl⟩ := own_slice hol
      replace HX := Lib.hid (HX.out.bel bq)
      replace HPB := Lib.hid (HPB.out.below bq HPB.out.lt)
      replace HT := Lib.hid (Lasts.bel HT.out bq)
      replace HKL := Lib.hid (Lasts.bel HKL.out bq)
      replace HZ := Lib.hid (HZ.out.step bq)
      replace HTR := Lib.hid (HTR.out.below bq HTR.out.lt)
      replace HFZ := Lib.hid (Fz.trans HFZ.out (Fz.of_below bq HFZ.out.size))
      replace HDK := Lib.hid ((kept_below bq).2 D_ _ HDK.out rfl)
      replace HM := Lib.hid (own_below HM.out bq)
      replace HPR := Lib.hid (HPR.out.below bq)
      have hS2 : Blk vl gt 118 (trC pa pc ⟨id, k.nextGuid, 0, [(qa1, qb1, qi1, qt1, qs1)], (qa2, qb2, qi2, qt2, qs2)⟩) ∧ Blk vl gb 58 #[.pointer (some ⟨g, 0, none⟩)] := ⟨HTR.out, HPB.out⟩
      refine hK _ _ hS2 ?_
      clear hK K hS bq HLN
      try simp only [Act.put, List.setIfInBounds_toArray, List.set_cons_zero, List.set_cons_succ]
      have HLO := Lib.hid (txLayOwn_ok 0 g w.heap.size _ la lc (trunkB ⟨id, k.nextGuid, 0, [(qa1, qb1, qi1, qt1, qs1)], (qa2, qb2, qi2, qt2, qs2)⟩) 2 [qa1.toNat, qa2.toNat] S3 q3 vl HX.out HKE0.out HT.out HOK.out.2.2 (Nat.zero_le _) (own_mono hol (Nat.zero_le _)) HH.out.2 (by rw [HQ2.out] at HM; exact HM.out) (by decide) HFZ.out.size (by have := HR3.out; rw [HQ1.out, HQ2.out] at this; exact this))
      refine wpJ_lone rfl (by kernel_rfl) (fun K hK => ?_)
      go_simp
      refine HLO.out.mono ?_
      rintro ev vm ⟨y3, v3, rfl, hx, hm, hst, hfz, hk3⟩
      have o2 : Own2 _ _ _ _ _ _ := ⟨HX.out, HM.out⟩
      replace HPB := Lib.hid (o2.blk hfz HPB.out (by decide) (by decide))
      replace HKL := Lib.hid (Lasts.step3 HKL.out hk3)
      replace HZ := Lib.hid (o2.szs hfz HZ.out HW0.out)
      replace HTR := Lib.hid (o2.blk hfz HTR.out (by decide) (by decide))
      replace HFZ := Lib.hid (Fz.trans HFZ.out (o2.fz0 hfz HFZ.out.size (Nat.le_refl _)))
      replace HDK := Lib.hid (o2.dk hfz HDK.out)
      replace HPR := Lib.hid (o2.prow hfz HPR.out)
      replace HX := Lib.hid hx
      replace HM := Lib.hid hm
      replace HT := Lib.hid hst
      clear o2 hx hm hst hfz hk3
      have hS3 : Blk vm gt 118 (trC pa pc ⟨id, k.nextGuid, 0, [(qa1, qb1, qi1, qt1, qs1)], (qa2, qb2, qi2, qt2, qs2)⟩) ∧ Blk vm gb 58 #[.pointer (some ⟨g, 0, none⟩)] := ⟨HTR.out, HPB.out⟩
      refine hK _ _ hS3 ?_
      clear hK K hS2 hol HLO
      try simp only [Act.put, List.setIfInBounds_toArray, List.set_cons_zero, List.set_cons_succ]
      obtain ⟨⟨qa3, qb3, qi3, qt3, qs3⟩, hq3⟩ : ∃ q, q3 = q := ⟨_, rfl⟩
      have HQ3 := Lib.hid hq3
      rw [hq3]
      simp only [ptV]
      iterate 3 (
        refine wpJ_read (v := ?_) hS3 rfl (by kernel_rfl) (by kernel_rfl) (by kernel_rfl) (fun _ _ _ h => h) (.inl ⟨by rfl, ?_⟩) ?_
        rotate_left
        · intro X hX
          clear hX
          go_simp
          with_reducible rfl
        try simp only [Act.put, List.setIfInBounds_toArray, List.set_cons_zero, List.set_cons_succ])
      have hc6 := HX.out.c6
      have hc7 := HX.out.c7
      have hc8 := HX.out.c8
      have hc9 := HX.out.c9
      have hc10 := HX.out.c10
      have hfr := fun i => HX.out.frozen i
      have hgz := only_trans (only_trans (only_trans (only_trans (Wk.stay (g := g) vm 6 (.int .i64 qa3)) (Wk.stay _ 7 (.int .u32 (qb3 : Int)))) (Wk.stay _ 8 (.int .u32 (qi3 : Int)))) (Wk.stay _ 9 (.int .u32 (qt3 : Int)))) (Wk.stay _ 10 (.int .u32 (qs3 : Int)))
      have hrr := HX.out.setRoot (qa3, qb3, qi3, qt3, qs3)
      have hdk := (keepsOthers_grown hgz HX.out).2 D_ _ HDK.out rfl
      have hm9 := own_other HM.out hgz (own_ty HM.out HX.out (by decide))
      have ht9 := Lasts.step HT.out (HX.out.keeps hgz (Nat.zero_le _))
      have hf9 := Fz.trans HFZ.out (Fz.of_grown hgz HFZ.out.size (fun _ e => .inl (Option.some.inj e).symm))
      obtain ⟨vn, hvf⟩ : ∃ X, ((((vm.setCell ⟨g, 6, none⟩ (.int .i64 qa3)).setCell ⟨g, 7, none⟩ (.int .u32 (qb3 : Int))).setCell ⟨g, 8, none⟩ (.int .u32 (qi3 : Int))).setCell ⟨g, 9, none⟩ (.int .u32 (qt3 : Int))).setCell ⟨g, 10, none⟩ (.int .u32 (qs3 : Int)) = X := ⟨_, rfl⟩
      rw [hvf] at hgz hrr hdk hm9 ht9 hf9
      replace HX := Lib.hid hrr
      replace HDK := Lib.hid hdk
      replace HM := Lib.hid hm9
      replace HT := Lib.hid ht9
      replace HFZ := Lib.hid hf9
      refine wpJ_last rfl (by kernel_rfl) (by kernel_rfl) (fun K hK => ?_)
      go_simp
      try rw [hvf]
      refine hK _ _ ?_
      clear hK K hS3 hc6 hc7 hc8 hc9 hc10 hfr hgz hrr hvf hdk hm9 ht9 hf9
      try simp only [Act.put, List.setIfInBounds_toArray, List.set_cons_zero, List.set_cons_succ]
      refine wpJ_done (by kernel_rfl) (onlyN_n ?_)
      gi_wp2
      refine ⟨by simp, .inl ⟨_, _, rfl, run_takeDeferred HDK.out, ?_⟩⟩
      have gd := grownBy_putObj' vn D_ (.deferred none)
      have hwk : ∀ r, some D_ = some r → 0 ≤ r ∧ ∃ o : Obj, vn.heap[r]? = some o ∧ o.isCells = false := fun r e => by cases e; exact ⟨Nat.zero_le _, _, HDK.out, rfl⟩
      have kd := keeps_walk (L := 0) gd (Nat.le_refl 0) hwk
      have zb := blk_kept HX.out gd (fun r e => (hwk r e).2)
      have zf := Fz.trans HFZ.out (Fz.of_grown gd HFZ.out.size (fun _ e => .inr (by have := HDD.out; have := Option.some.inj e; omega)))
      have zm := ly_own HM.out kd
      have zt := Lasts.step HT.out kd
      obtain ⟨vo, hv5⟩ : ∃ X, vn.putObj D_ (.deferred none) = X := ⟨_, rfl⟩
      rw [hv5] at gd kd zb zf zm zt ⊢
      refine ⟨.tuple #[], by simp [results, Tryz.f35, go_sem], ?_⟩
      rw [HQ3.out] at zm
      exact ⟨rfl, y3, v3, zb, zm, zt, zf⟩
theorem txLayMeta_ok (g : Nat) (k : Wk) (S1 S2 S3 : StL) (q1 q2 q3 : Pt) (ka : Option Addr) (kc : Nat) (keys : List (List UInt8)) (id : Nat) (w : World) (h : Box w g k) (hn : k.e = 0) (hT : StP 0 w k.x k.S) (hL : k.birth < 4294967296) (hok : OkS k.S ∧ OkS S1 ∧ OkS S2)
    (hli : k.lines = .slice none 0 0) (how : k.own = .slice none 0 0) (hke : k.keys = .slice ka 8 kc ∧ ∀ s ∈ keys, s.length ≤ 24) (hK : Lasts 0 w fun W => Bls W W.heap.size ka 8 kc keys) (hid_ : k.nextId = (id : Int)) (hz : Szs w)
    (h1 : rawO k.S k.birth 0 0 (linesB []) = (S1, q1, 0)) (h2 : rawO S1 k.birth 0 0 (keysB keys) = (S2, q2, 0)) (h3 : rawO S2 k.birth 0 0 (trunkB ⟨id, k.nextGuid, 0, [q1], q2⟩) = (S3, q3, 0)) (hmt : MayTr ⟨id, k.nextGuid, 0, [q1], q2⟩) :
    Calls Tryz.prog 35 #[.pointer (some ⟨g, 0, none⟩)] w (OutMeta g k S3 q1 q2 q3 w) :=
  callsIn_wide.1 (txLayMeta_in 3 (Nat.le_refl _) g k S1 S2 S3 q1 q2 q3 ka kc keys id w h hn hT hL hok hli how hke hK hid_ hz h1 h2 h3 hmt)
end Go.Proofs.YtafbidhbmfdlkaaGreatDoor
/-
  txg's own synced and Sync, of pools without lines and changes, where nothing is refused.
-/
namespace Go.Proofs.YtafbidhbmfdlkaaGreatDoor
open Go Go.RowKit Go.Shelf
set_option maxRecDepth 100000

theorem txChangeLines_nil (g : Nat) (k : Wk) (w : World) (h : Box w g k) (hl : k.lines = .slice none 0 0) : Calls Tryz.prog 33 #[.pointer (some ⟨g, 0, none⟩)] w fun r w' => r = .returned (.tuple #[]) ∧ w = w' := by
  have c12 := h.c12
  rw [hl] at c12
  have c15 := h.c15
  clear h
  go_enter Tryz.func33, Tryz.ntmps33
  go_wp2_with fail
  go_loopw [17] (fun i wr => i = .int .i64 0 ∧ w = wr) (fun _ _ => 0)
  case atStart => exact ⟨rfl, rfl⟩
  case round =>
    obtain ⟨rfl, rfl⟩ := hrel
    go_wp2_with fail
    go_end0
    exact ⟨rfl, rfl⟩
theorem brow_lasts {w : World} {B c : Nat} {a : Option Addr} {bl : List (List UInt8)} (h : BRowC w 0 B (.slice a bl.length c) bl) : Lasts 0 w fun W => Bls W W.heap.size a bl.length c bl := fun _ k => brow_bls (brow_keeps h k)
theorem keys_fit {keys : List (List UInt8)} (h : (keys.all fun s => !badK wrapOk s) = true) : ∀ s ∈ keys, s.length ≤ 24 := fun s hs => by
  rw [List.all_eq_true] at h
  have := h s hs
  unfold badK wrapOk at this
  rcases Nat.eq_zero_or_pos s.length with e | e
  · omega
  · by_cases h24 : s.length = 24
    · omega
    · rw [decide_eq_true e, decide_eq_false h24] at this
      simp at this
/-- The struct of a sync's steps, as it begins. -/
@[reducible] def wk0 (y : PoA) (p : PoN) : Wk := { x := y.x, S := p.S, gen := p.gen, root := p.root, own := .slice y.ma p.own.length y.mc, lines := .slice y.la 0 y.lc, keys := .slice y.ka p.keys.length y.kc, loaded := .slice y.da p.loaded.length y.dc, changes := .slice y.ca 0 y.cc, logged := p.logged, nextId := p.nextId, nextGuid := p.nextGuid, birth := p.gen + 1, h0 := .slice none 0 0, h1 := .slice none 0 0, h2 := .slice none 0 0, h3 := .slice none 0 0, e := 0 }
/-- What a sync of a pool without lines and changes comes to, where nothing is refused. -/
structure Steps (p : PoN) where
  S1 : StL
  S2 : StL
  S3 : StL
  q1 : Pt
  q2 : Pt
  q3 : Pt
  E1 : DkL
  E2 : DkL
  E3 : DkL
  id : Nat
structure Goes (p : PoN) (s : Steps p) : Prop where
  id : p.nextId = (s.id : Int)
  h1 : rawO (p.S.1, giveN p.S.2.1 p.own p.own.length, p.S.2.2) (p.gen + 1) 0 0 (linesB []) = (s.S1, s.q1, 0)
  h2 : rawO s.S1 (p.gen + 1) 0 0 (keysB p.keys) = (s.S2, s.q2, 0)
  h3 : rawO s.S2 (p.gen + 1) 0 0 (trunkB ⟨s.id, p.nextGuid, 0, [s.q1], s.q2⟩) = (s.S3, s.q3, 0)
  tr : MayTr ⟨s.id, p.nextGuid, 0, [s.q1], s.q2⟩
  ok : OkS (p.S.1, giveN p.S.2.1 p.own p.own.length, p.S.2.2) ∧ OkS s.S1 ∧ OkS s.S2
  f1 : flushO s.S3.1 = (s.E1, 0)
  pl : putO s.E1 (p.gen + 1, s.S3.2.2.1, s.q3) = (s.E2, 0)
  wl : WfL (p.gen + 1, s.S3.2.2.1, s.q3)
  f2 : flushO s.E2 = (s.E3, 0)
  mt : MayT s.S3.2.1
/-- The pool behind it. -/
@[reducible] def Steps.out {p : PoN} (s : Steps p) : PoN := ⟨(s.E3, settleL s.S3.2.1, s.S3.2.2), p.gen + 1, s.q3, [s.q1.1.toNat, s.q2.1.toNat, s.q3.1.toNat], p.keys, p.loaded, 0, p.nextId, p.nextGuid⟩
/-- The box of a sync's steps behind it. -/
def EndBox (B : Nat) (p : PoN) (s : Steps p) (w' : World) (g : Nat) (y : PoA) : Prop :=
  ∃ k : Wk, Box w' g k ∧ k.e = 0 ∧ (k.cs.toList.take 19).toArray = poC y s.out ∧ PoNew B w' y s.out
set_option maxHeartbeats 8000000 in
theorem txSynced_ok (L : Nat) (x : PoA) (p : PoN) (w : World) (s : Steps p) (hs : Goes p s) (hp : PoOk L w x p) (hL : L ≤ w.heap.size) (hm : MayN p) (hg9 : p.gen < 16777215) (hf : FitN p) (hnil : x.la = none ∧ x.lc = 0 ∧ x.ca = none ∧ x.cc = 0) (hz : Szs w) :
    Calls Tryz.prog 20 #[poV x p] w fun e w' => ∃ g y, e = .returned (.pointer (some ⟨g, 0, none⟩)) ∧ EndBox w.heap.size p s w' g y ∧ Below w.heap.size w w' := by
  have hmx : Tryz.prog.follows Departure.mixedOrders = true := by kernel_rfl
  obtain ⟨w0, gp, hw0, hgp, b0, hb0⟩ := new_pool w x p
  have HX := Lib.hid hb0
  have HB := Lib.hid b0
  have HP := Lib.hid (hp.step b0)
  have HZ := Lib.hid (hz.step b0)
  have HLW := Lib.hid (Nat.le_trans hL b0.size)
  have HMN := Lib.hid hm
  have HFT := Lib.hid hf
  have HNL := Lib.hid hnil
  have HGO := Lib.hid hs
  have HG9 := Lib.hid hg9
  have HW := Lib.hid (txWrong_no L x p w0 HP.out HLW.out hm hg9)
  simp only [poC] at hw0
  clear hp hz hL hm hf hnil hs hb0 b0
  go_enter Tryz.func20, Tryz.ntmps20
  go_wp2_with (with_reducible refine tx_at_load ?_
               try rw [hw0]
               try rw [hgp]
               refine wpList_load_pool rfl (.tmp 1) rfl gp x p rfl HX.out ?_)
  refine HW.out.mono ?_
  rintro e w1 ⟨rfl, b1⟩
  replace HX := Lib.hid (HX.out.bel b1)
  replace HB := Lib.hid (HB.out.trans (b1.mono HB.out.size))
  replace HP := Lib.hid (HP.out.step b1)
  replace HZ := Lib.hid (HZ.out.step b1)
  replace HLW := Lib.hid (Nat.le_trans HLW.out b1.size)
  clear b1 HW
  go_wp2_with fail
  obtain ⟨wd, hwd⟩ : ∃ wd, w1.drew = wd := ⟨_, rfl⟩
  have bq : Below w1.heap.size w1 wd := by rw [← hwd]; exact (Below.refl _ w1).drew
  replace HX := Lib.hid (HX.out.bel bq)
  replace HB := Lib.hid (HB.out.trans (bq.mono HB.out.size))
  replace HP := Lib.hid (HP.out.step bq)
  replace HZ := Lib.hid (HZ.out.step bq)
  replace HLW := Lib.hid (Nat.le_trans HLW.out bq.size)
  refine wpI_start (fun X => PBox X gp x p) [0, 2, 3, 4, 1, 5, 6, 7] hmx rfl hwd ?_
  clear hwd bq hw0
  have n0 : (0 : Int) ≤ (p.gen : Int) := by omega
  have n9 : (p.gen : Int) < 16777215 := by have := HG9.out; omega
  refine wpI_read (v := poV x p) HX.out rfl (by kernel_rfl) (by kernel_rfl) (by kernel_rfl) (fun _ _ _ h => h) (.inl ⟨by rfl, fun X hX => exec_loadPool rfl rfl hX⟩) ?_
  try simp only [Act.put, List.setIfInBounds_toArray, List.set_cons_zero, List.set_cons_succ]
  iterate 3 (
    refine wpI_read (v := ?_) HX.out rfl (by kernel_rfl) (by kernel_rfl) (by kernel_rfl) (fun _ _ _ h => h) (.inl ⟨by rfl, ?_⟩) ?_
    rotate_left
    · intro X hX
      have j5 := hX.c5
      clear hX
      go_simp
      with_reducible rfl
    try simp only [Act.put, List.setIfInBounds_toArray, List.set_cons_zero, List.set_cons_succ])
  have HTW := Lib.hid (txTwin_any L x p wd HP.out HMN.out.st.ok HLW.out HFT.out HNL.out)
  refine wpI_lone rfl (by kernel_rfl) (fun K hK => ?_)
  go_simp
  refine HTW.out.mono ?_
  rintro ev w2 ⟨y, rfl, hpn, bq⟩
  replace HX := Lib.hid (HX.out.bel bq)
  replace HZ := Lib.hid (HZ.out.step bq)
  have HBT := Lib.hid (HB.out.trans (bq.mono HB.out.size))
  have HPN := Lib.hid hpn
  have HSZ := Lib.hid HB.out.size
  refine hK _ _ HX.out ?_
  clear hK K bq hpn HTW
  try simp only [Act.put, List.setIfInBounds_toArray, List.set_cons_zero, List.set_cons_succ]
  refine wpI_read (v := .agg (wk0 y p).cs) HX.out rfl (by kernel_rfl) (by kernel_rfl) (by kernel_rfl) (fun _ _ _ h => h) (.inl ⟨by rfl, ?_⟩) ?_
  · intro X hX
    clear hX
    simp only [poV, poC]
    go_simp
    simp [IntKind.wrap, IntKind.bits, IntKind.signed]
    omega
  try simp only [Act.put, List.setIfInBounds_toArray, List.set_cons_zero, List.set_cons_succ]
  refine wpI_lone rfl (by kernel_rfl) (fun K hK => ?_)
  go_simp
  obtain ⟨w3, g, hn, hg_, bq, xq⟩ := new_blk w2 (wk0 y p).cs 62
  simp only [Wk.cs] at hn
  try rw [hn]
  try rw [hg_]
  have HWB := Lib.hid (show Box w3 g (wk0 y p) from xq)
  have HGG := Lib.hid (show w.heap.size ≤ g by have := HBT.out.size; omega)
  replace HX := Lib.hid (HX.out.bel bq)
  replace HZ := Lib.hid (HZ.out.step bq)
  replace HBT := Lib.hid (HBT.out.trans (bq.mono HBT.out.size))
  replace HPN := Lib.hid (HPN.out.bel bq)
  refine hK _ _ HX.out ?_
  clear hK K bq hn hg_ xq
  try simp only [Act.put, List.setIfInBounds_toArray, List.set_cons_zero, List.set_cons_succ]
  refine wpI_read (v := .pointer (some ⟨g, 0, none⟩)) HX.out rfl (by kernel_rfl) (by kernel_rfl) (by kernel_rfl) (fun _ _ _ h => h) (.inl ⟨by rfl, ?_⟩) ?_
  · intro X hX
    clear hX
    go_simp
  try simp only [Act.put, List.setIfInBounds_toArray, List.set_cons_zero, List.set_cons_succ]
  refine wpI_done (by kernel_rfl) ?_
  have HN0 : Hid (y.la = none ∧ y.lc = 0 ∧ y.ca = none ∧ y.cc = 0) := Lib.hid HPN.out.nil
  have HCL := Lib.hid (txChangeLines_nil g (wk0 y p) w3 HWB.out (by show Value.slice y.la 0 y.lc = _; rw [HN0.out.1, HN0.out.2.1]))
  go_wp2_with fail
  refine HCL.out.mono ?_
  rintro e w4 ⟨rfl, rfl⟩
  clear HCL
  have HG0 := Lib.hid (World.grownBy.refl w3 (some g))
  have HM := Lib.hid (own_mono HPN.out.own HSZ.out)
  have HKS := Lib.hid (brow_lasts HPN.out.keys)
  have HNE := Lib.hid (box_ne0 HWB.out HZ.out)
  have HGM := Lib.hid (txGiveMeta_ok 0 g w.heap.size (wk0 y p) p.own.length p.own w3 HWB.out rfl HPN.out.st (Nat.zero_le _) HMN.out.st.2.1 HMN.out.own.1 HM.out HMN.out.own.2)
  go_wp2_with fail
  refine HGM.out.mono ?_
  rintro e w5 ⟨rfl, a5, c5, hx, hst, hgr⟩
  have hkp := HWB.out.keeps hgr (Nat.zero_le _)
  have HX5 := Lib.hid hx
  have HT5 := Lib.hid hst
  have HK5 := Lib.hid (Lasts.step HKS.out hkp)
  have HL5 := Lib.hid (brow_keeps HPN.out.keys hkp.to3)
  have HD5 := Lib.hid (brow_keeps HPN.out.loaded hkp.to3)
  have HZ5 := Lib.hid (HZ.out.only hgr HNE.out)
  have HF5 := Lib.hid (show Below w.heap.size w w5 from below_only HBT.out HGG.out hgr HBT.out.size)
  clear hx hst hgr hkp HGM
  have HLM := Lib.hid (txLayMeta_ok g _ s.S1 s.S2 s.S3 s.q1 s.q2 s.q3 y.ka y.kc p.keys s.id w5 HX5.out rfl HT5.out (by show p.gen + 1 < 4294967296; have := HG9.out; omega) HGO.out.ok (by show Value.slice y.la 0 y.lc = _; rw [HN0.out.1, HN0.out.2.1]) rfl ⟨by show Value.slice y.ka p.keys.length y.kc = _; rw [HMN.out.keys.1], keys_fit HMN.out.keys.2⟩ (by have := HK5.out; rw [HMN.out.keys.1] at this; exact this) HGO.out.id HZ5.out HGO.out.h1 HGO.out.h2 HGO.out.h3 HGO.out.tr)
  go_wp2_with fail
  refine HLM.out.mono ?_
  rintro e w6 ⟨rfl, y6, v6, hx, hm, hst, hfz⟩
  obtain ⟨ma, mc, rfl⟩ := nums_slice hm
  have hk3 : Keeps3 0 w5 w6 := fz_keeps3 hfz (Nat.le_refl _) (fun i hi => ⟨Nat.zero_le _, fun t cs hb => by
    rw [hi] at hb
    have := HX5.out
    unfold Box Blk at this
    unfold Blk at hb
    rw [this] at hb
    cases hb
    rfl⟩)
  have HX6 := Lib.hid hx
  have HM6 := Lib.hid (own_mono hm HF5.out.size)
  have HT6 := Lib.hid hst
  have HL6 := Lib.hid (brow_keeps HL5.out hk3)
  have HD6 := Lib.hid (brow_keeps HD5.out hk3)
  have HZ6 := Lib.hid (HZ5.out.fz hfz HZ5.out.1 (fun e => HNE.out e.symm))
  have HF6 := Lib.hid (show Below w.heap.size w w6 from HF5.out.trans (hfz.below HF5.out.size (fun i hi => by rw [hi]; exact HGG.out)))
  clear hx hm hst hfz hk3 HLM
  have HCC := Lib.hid (txFlush0_ok 0 g _ s.E1 w6 HX6.out rfl HT6.out (Nat.zero_le _) HGO.out.f1)
  go_wp2_with fail
  refine HCC.out.mono ?_
  rintro e w7 ⟨rfl, y7, hx, hst, hgr⟩
  have hkp := HX6.out.keeps hgr (Nat.zero_le _)
  have HX7 := Lib.hid hx
  have HM7 := Lib.hid (own_other HM6.out hgr (own_ty HM6.out HX6.out (by decide)))
  have HT7 := Lib.hid hst
  have HL7 := Lib.hid (brow_keeps HL6.out hkp.to3)
  have HD7 := Lib.hid (brow_keeps HD6.out hkp.to3)
  have HZ7 := Lib.hid (HZ6.out.only hgr HNE.out)
  have HF7 := Lib.hid (show Below w.heap.size w w7 from below_only HF6.out HGG.out hgr HF6.out.size)
  clear hx hst hgr hkp HCC
  have HCC := Lib.hid (txPutLabel_ok 0 g _ s.E2 w7 HX7.out rfl HT7.out (Nat.zero_le _) HZ7.out HGO.out.wl HGO.out.pl)
  go_wp2_with fail
  refine HCC.out.mono ?_
  rintro e w8 ⟨rfl, y8, hx, hst, hgr⟩
  have hkp := HX7.out.keeps hgr (Nat.zero_le _)
  have HX8 := Lib.hid hx
  have HM8 := Lib.hid (own_other HM7.out hgr (own_ty HM7.out HX7.out (by decide)))
  have HT8 := Lib.hid hst
  have HL8 := Lib.hid (brow_keeps HL7.out hkp.to3)
  have HD8 := Lib.hid (brow_keeps HD7.out hkp.to3)
  have HZ8 := Lib.hid (HZ7.out.only hgr HNE.out)
  have HF8 := Lib.hid (show Below w.heap.size w w8 from below_only HF7.out HGG.out hgr HF7.out.size)
  clear hx hst hgr hkp HCC
  have HCC := Lib.hid (txFlush1_ok 0 g _ s.E3 w8 HX8.out rfl HT8.out (Nat.zero_le _) HGO.out.f2)
  go_wp2_with fail
  refine HCC.out.mono ?_
  rintro e w9 ⟨rfl, y9, hx, hst, hgr⟩
  have hkp := HX8.out.keeps hgr (Nat.zero_le _)
  have HX9 := Lib.hid hx
  have HM9 := Lib.hid (own_other HM8.out hgr (own_ty HM8.out HX8.out (by decide)))
  have HT9 := Lib.hid hst
  have HL9 := Lib.hid (brow_keeps HL8.out hkp.to3)
  have HD9 := Lib.hid (brow_keeps HD8.out hkp.to3)
  have HZ9 := Lib.hid (HZ8.out.only hgr HNE.out)
  have HF9 := Lib.hid (show Below w.heap.size w w9 from below_only HF8.out HGG.out hgr HF8.out.size)
  clear hx hst hgr hkp HCC
  have HCC := Lib.hid (txSettle_ok 0 g _ w9 HX9.out rfl HT9.out (Nat.zero_le _) HGO.out.mt)
  go_wp2_with fail
  refine HCC.out.mono ?_
  rintro e w10 ⟨rfl, ax, cx, hx, hst, hgr⟩
  have hkp := HX9.out.keeps hgr (Nat.zero_le _)
  have HX10 := Lib.hid hx
  have HM10 := Lib.hid (own_other HM9.out hgr (own_ty HM9.out HX9.out (by decide)))
  have HT10 := Lib.hid hst
  have HL10 := Lib.hid (brow_keeps HL9.out hkp.to3)
  have HD10 := Lib.hid (brow_keeps HD9.out hkp.to3)
  have HZ10 := Lib.hid (HZ9.out.only hgr HNE.out)
  have HF10 := Lib.hid (show Below w.heap.size w w10 from below_only HF9.out HGG.out hgr HF9.out.size)
  clear hx hst hgr hkp HCC
  have HFIN := Lib.hid (show EndBox w.heap.size p s w10 g { y with x := _, ma := ma, mc := mc, ca := none, cc := 0 } from ⟨_, HX10.out, rfl, rfl, ⟨HT10.out, HM10.out, brow_lower HL10.out HSZ.out, brow_lower HD10.out HSZ.out, HN0.out.1, HN0.out.2.1, rfl, rfl⟩⟩)
  go_wp2_with fail
  go_ret
  exact ⟨g, _, rfl, HFIN.out, by first | exact HF10.out | (rw [← hgp]; exact HF10.out)⟩
theorem PoNew.lower {B B' : Nat} {w : World} {y : PoA} {p : PoN} (h : PoNew B w y p) (hB : B' ≤ B) : PoNew B' w y p := ⟨h.st, own_mono h.own hB, brow_lower h.keys hB, brow_lower h.loaded hB, h.nil⟩
theorem wpList_load_wk {ops : Array Oper} {rest : List Oper} {o : Oper} {a : Act} {w : World} {Q : Exit → Act → World → Prop} (hgd : o.guard = none) (z : Operand) (ho : o.op = .load 36 z) (g : Nat) (k : Wk) (y : PoA) (q : PoN) (hx : a.eval z = .pointer (some ⟨g, 0, none⟩)) (hb : Box w g k) (hc : (k.cs.toList.take 19).toArray = poC y q)
    (h : wpList Tryz.prog ops Q rest (a.put o.dst (poV y q)) w) : wpList Tryz.prog ops Q (o :: rest) a w := by
  rw [show poV y q = .agg (k.cs.toList.take 19).toArray by rw [hc]] at h
  refine wpList_load_mid hgd 36 z ho g 0 hx (k.cs.toList.take 19) _ (fun i v hv => ?_) Tryz.underlying36 rfl infoPo h
  have h1 : k.cs[i]? = some v := by
    rw [← Array.getElem?_toList]
    rw [List.getElem?_take] at hv
    split at hv
    · exact hv
    · cases hv
  rw [Nat.zero_add]
  exact (Blk.cell hb i).trans h1
/-- What Sync answers. -/
def NewPE (q : PoN) (c : Nat) (w : World) (e : Ending) (w' : World) : Prop := ∃ y, e = .returned (.tuple #[poV y q, .int .i64 (c : Int)]) ∧ PoNew w.heap.size w' y q ∧ Below w.heap.size w w'
theorem txSync_ok (L : Nat) (x : PoA) (p : PoN) (w : World) (s : Steps p) (hs : Goes p s) (hp : PoOk L w x p) (hL : L ≤ w.heap.size) (hm : MayN p) (hg9 : p.gen < 16777215) (hf : FitN p) (hnil : x.la = none ∧ x.lc = 0 ∧ x.ca = none ∧ x.cc = 0) (hz : Szs w) :
    Calls Tryz.prog 13 #[poV x p] w (NewPE s.out 0 w) := by
  have hmx : Tryz.prog.follows Departure.mixedOrders = true := by kernel_rfl
  obtain ⟨w0, hw0, b0, z0, q0, q1⟩ := two_al w (poC x p) poZ 36 36
  obtain ⟨gp, hgp⟩ : ∃ g, w.heap.size = g := ⟨_, rfl⟩
  obtain ⟨gr, hgr⟩ : ∃ gr, gp + 1 = gr := ⟨_, rfl⟩
  rw [hgp] at q0 q1
  rw [hgr] at q1
  have HX := Lib.hid (show PBox w0 gp x p from q0)
  have HR := Lib.hid q1
  have HB := Lib.hid b0
  have HGR := Lib.hid (show w.heap.size ≤ gr by omega)
  have HSY := Lib.hid (txSynced_ok L x p w0 s hs (hp.step b0) (Nat.le_trans hL b0.size) hm hg9 hf hnil (hz.step b0))
  simp only [poC, poZ] at hw0
  clear hp hL hm hg9 hf hnil hz b0 z0 q0 q1
  go_enter Tryz.func13, Tryz.ntmps13
  go_wp2_with (with_reducible refine tx_at_load ?_
               try rw [hw0]
               try rw [hgp]
               try rw [hgr]
               refine wpList_load_pool rfl (.tmp 1) rfl gp x p rfl HX.out ?_)
  refine HSY.out.mono ?_
  rintro e w1 ⟨g, y, rfl, ⟨k, hk, hke, hkc, hpn⟩, b1⟩
  replace HR := Lib.hid (HR.out.below b1 HR.out.lt)
  have c24 := hk.c24
  rw [hke] at c24
  have HK := Lib.hid hk
  have HKC := Lib.hid hkc
  have HPN := Lib.hid (hpn.lower HB.out.size)
  replace HB := Lib.hid (HB.out.trans (b1.mono HB.out.size))
  clear hk hkc hpn b1 HSY hw0 hgr
  go_wp2_with (first
    | (with_reducible refine tx_at_load ?_
       refine wpList_load_wk rfl (.tmp 19) rfl g k y s.out rfl HK.out HKC.out ?_)
    | (with_reducible refine tx_at_store ?_
       refine wpList_store_pool rfl (.tmp 2) (.tmp 20) rfl gr y s.out rfl rfl poZ HR.out rfl ?_
       intro wz hrr_ hgz_
       have HRR := Lib.hid hrr_
       have HGZ := Lib.hid hgz_
       clear hrr_ hgz_))
  have hkp : Keeps 0 w1 wz := Keeps.of_box HGZ.out HR.out (by decide) (Nat.zero_le _)
  refine bodyPost_ret (v := .tuple #[poV y s.out, .int .i64 0]) (by simp [results, Tryz.f13, asAddr, loadPool_run wz gr y s.out HRR.out]) rfl ?_
  exact ⟨y, rfl, ⟨Lasts.step HPN.out.st hkp, own_other HPN.out.own HGZ.out (own_ty HPN.out.own HR.out (by decide)), brow_keeps HPN.out.keys hkp.to3, brow_keeps HPN.out.loaded hkp.to3, HPN.out.nil⟩, below_only HB.out HGR.out HGZ.out HB.out.size⟩
end Go.Proofs.YtafbidhbmfdlkaaGreatDoor
/-
  txg's work, read back: own and look.
-/
namespace Go.Proofs.YtafbidhbmfdlkaaGreatDoor
open Go Go.RowKit Go.Shelf
set_option maxRecDepth 100000

/-- A table in which the first j of these blocks are used. -/
def usedN (T : List UInt8) (ats : List Nat) (j : Nat) : List UInt8 := (ats.take j).foldl (fun s k => s.set k 1) T
theorem usedN_step (T : List UInt8) (ats : List Nat) (j : Nat) (hj : j < ats.length) : usedN T ats (j + 1) = (usedN T ats j).set (ats.getD j 0) 1 := by
  unfold usedN
  rw [List.take_add_one, List.getElem?_eq_getElem hj, List.foldl_append, List.getD_eq_getElem?_getD, List.getElem?_eq_getElem hj]
  rfl
theorem usedN_length (T : List UInt8) (ats : List Nat) (j : Nat) : (usedN T ats j).length = T.length := by
  have : ∀ (l : List Nat) (T : List UInt8), (l.foldl (fun s k => s.set k 1) T).length = T.length := fun l => by
    induction l with
    | nil => intro T; rfl
    | cons a l ih => intro T; rw [List.foldl_cons, ih, List.length_set]
  exact this _ T
theorem vals_set (s : List UInt8) (i : Nat) (b : UInt8) : (vals s).set i (.int .u8 (b.toNat : Int)) = vals (s.set i b) := by simp [vals, List.map_set]
/-- The box of a pool that is read back: bt is its table's block; N: what is below it isn't the call's own. -/
structure Ld (N B bt g : Nat) (k : Wk) (n : Nat) (own : List Nat) (w : World) (c : Nat := 0) : Prop where
  box : Box w g k
  e : k.e = c
  dsk : Dsk w N k.x.d k.S.1
  at_ : k.x.a = some ⟨bt, 0, none⟩
  len : k.S.2.1.length = 256
  tab : w.ownsRow B 5 1 (.slice k.x.a 256 k.x.c) 256 (vals k.S.2.1)
  row : w.ownsRow B 3 1 k.own n (valsN own)
  big : N ≤ B ∧ B ≤ w.heap.size ∧ N ≤ g
section
variable {N B bt g n c : Nat} {k : Wk} {own : List Nat} {w w' : World}
theorem Ld.st (h : Ld N B bt g k n own w c) : StP N w k.x k.S := (dsk_lasts h.dsk (Nat.le_trans h.big.1 h.big.2.1)).and (by rw [h.len]; exact own_lasts h.tab)
theorem Ld.bel (h : Ld N B bt g k n own w c) (hb : Below w.heap.size w w') : Ld N B bt g k n own w' c :=
  ⟨h.box.bel hb, h.e, ⟨h.dsk.1.below (hb.mono (Nat.le_trans h.big.1 h.big.2.1)), h.dsk.2.below (hb.mono (Nat.le_trans h.big.1 h.big.2.1))⟩, h.at_, h.len, own_below h.tab hb, own_below h.row hb, h.big.1, Nat.le_trans h.big.2.1 hb.size, h.big.2.2⟩
theorem Ld.btlt (h : Ld N B bt g k n own w c) : B ≤ bt ∧ bt < w.heap.size ∧ ∃ cs, Blk w bt 5 cs := by
  obtain ⟨_, ⟨e, _⟩ | ⟨g', cap, cur, e, h3, h4, _⟩⟩ := h.tab
  · rw [h.at_] at e; cases e
  · rw [h.at_] at e
    cases e
    exact ⟨h3, Blk.lt h4, _, h4⟩
end
theorem own_row_other {w w' : World} {B n sz : Nat} {e : TypeId} {v : Value} {xs : List Value} {row : Option Nat} (h : w.ownsRow B e sz v n xs) (hg : w.grownBy w' row) (hne : ∀ k, v.ownBlock = some k → row ≠ some k) : w'.ownsRow B e sz v n xs := by
  cases row with
  | none => exact own_below h ⟨hg.os, hg.tape, hg.output, hg.size, fun k hk => hg.block k hk (by simp)⟩
  | some g => exact own_other h hg (fun k hk e => hne k hk (by rw [e]))
/-- What may change of a pool that is read back. -/
def Ldx (bt g : Nat) (k : Wk) (i : Nat) : Prop := i = g ∨ i = bt ∨ k.own.ownBlock = some i
set_option maxHeartbeats 4000000 in
theorem txOwn_any (N B bt g : Nat) (k : Wk) (n : Nat) (own : List Nat) (sb m : Nat) (ats : List Nat) (w : World) (z : Nat) (h : Ld N B bt g k n own w z) (hm : ats.length = m) (hs : Blk w sb 3 (valsN ats).toArray) (hlt : ∀ x ∈ ats, x < 256) (hnm : n + m ≤ 50000) :
    Calls Tryz.prog 156 #[.pointer (some ⟨g, 0, none⟩), .slice (some ⟨sb, 0, none⟩) m m] w fun r w' => r = .returned (.tuple #[]) ∧ ∃ v, Ld N B bt g { k with S := (k.S.1, usedN k.S.2.1 ats m, k.S.2.2), own := v } (n + m) (own ++ ats) w' z ∧ Fz w.heap.size (Ldx bt g k) w w' := by
  have H0 := Lib.hid h
  have HS := Lib.hid hs
  have HLN := Lib.hid hm
  have HLT := Lib.hid hlt
  have HNM := Lib.hid hnm
  obtain ⟨hb1, hb2, cs0, hb3⟩ := h.btlt
  have HSB := Lib.hid (show sb ≠ bt ∧ g ≠ bt from ⟨blk_ne hs hb3 (by decide), blk_ne h.box hb3 (by decide)⟩)
  have HBT := Lib.hid hb1
  have HNG := Lib.hid (own_ty h.row hb3 (by decide))
  have n0 : (0 : Int) ≤ (m : Int) := by omega
  have n9 : (m : Int) ≤ 50000 := by omega
  clear h hs hlt hnm hm hb1 hb2 hb3
  go_enter Tryz.func156, Tryz.ntmps156
  go_wp2_with fail
  go_loopw [8] (fun i wr => ∃ j : Nat, j ≤ m ∧ i = .int .i64 j ∧ Ld N B bt g { k with S := (k.S.1, usedN k.S.2.1 ats j, k.S.2.2) } n own wr z ∧ w.grownBy wr (some bt)) (fun i _ => m - (intOf i).toNat)
  case atStart => exact ⟨0, Nat.zero_le _, rfl, H0.out, World.grownBy.refl w _⟩
  case round =>
    obtain ⟨j, hj, rfl, hl, hg⟩ := hrel
    have j0 : (0 : Int) ≤ j := by omega
    have HL := Lib.hid hl
    have HG := Lib.hid hg
    have hsw := HS.out.grown hg (fun e => HSB.out.1 (Option.some.inj e))
    by_cases hlt : j < m
    · have j1 : (j : Int) < m := by omega
      have hjl : j < ats.length := by rw [HLN.out]; exact hlt
      have hcj := hsw.cell j
      obtain ⟨x, hx⟩ : ∃ x, ats.getD j 0 = x := ⟨_, rfl⟩
      have hx2 : ats[j] = x := by rw [← hx, List.getD_eq_getElem?_getD, List.getElem?_eq_getElem hjl]; rfl
      rw [show (valsN ats).toArray[j]? = some (.int .i64 (x : Int)) by simp [valsN, hjl, hx2]] at hcj
      have hx9 := HLT.out x (hx2 ▸ List.getElem_mem hjl)
      have x0 : (0 : Int) ≤ (x : Int) := by omega
      have x1 : (x : Int) < 256 := by omega
      have c2 := hl.box.c2
      have htl : (usedN k.S.2.1 ats j).length = 256 := hl.len
      have hat : k.x.a = some ⟨bt, 0, none⟩ := hl.at_
      have htb := hl.tab
      rw [hat] at c2
      simp only [hat] at htb
      simp only at c2
      rw [htl] at c2
      have hst := htb.stored x (.int .u8 1)
      have hfz := htb.frozenAt x
      have hcx := htb.cellAt x (by omega)
      obtain ⟨u, hu⟩ : ∃ u, (vals (usedN k.S.2.1 ats j))[x]? = some u := ⟨_, List.getElem?_eq_getElem (by simp only [vals, List.length_map]; omega)⟩
      rw [hu] at hcx
      have hstep := usedN_step k.S.2.1 ats j hjl
      rw [hx] at hstep
      have hvs : (vals (usedN k.S.2.1 ats j)).set x (.int .u8 1) = vals (usedN k.S.2.1 ats (j + 1)) := by rw [hstep, ← vals_set]; rfl
      rw [hvs] at hst
      obtain ⟨w2, hw2⟩ : ∃ X, wr.setCell ⟨bt, x, none⟩ (.int .u8 1) = X := ⟨_, rfl⟩
      rw [hw2] at hst
      have hgz := hst.2
      have HL2 := Lib.hid (show Ld N B bt g { k with S := (k.S.1, usedN k.S.2.1 ats (j + 1), k.S.2.2) } n own w2 z from
        ⟨by
            have h1 : Blk wr g 62 _ := hl.box
            have h2 := h1.grown hgz (fun e => HSB.out.2 (Option.some.inj e))
            have e1 : (usedN k.S.2.1 ats (j + 1)).length = (usedN k.S.2.1 ats j).length := by rw [usedN_length, usedN_length]
            show Blk w2 g 62 _
            simp only [Wk.cs] at h2 ⊢
            rw [e1]
            exact h2, hl.e,
          ⟨hl.dsk.1.below (below_only (Below.refl N wr) (Nat.le_trans hl.big.1 HBT.out) hgz (Nat.le_trans hl.big.1 hl.big.2.1)), hl.dsk.2.below (below_only (Below.refl N wr) (Nat.le_trans hl.big.1 HBT.out) hgz (Nat.le_trans hl.big.1 hl.big.2.1))⟩, hl.at_, by rw [usedN_length]; rw [usedN_length] at htl; exact htl, by
            show w2.ownsRow B 5 1 (.slice k.x.a 256 k.x.c) 256 _
            rw [hat]
            exact hst.1, own_other hl.row hgz HNG.out, hl.big.1, Nat.le_trans hl.big.2.1 hgz.size, hl.big.2.2⟩)
      have HG2 := Lib.hid (only_trans HG.out hgz)
      clear hst hgz hvs hstep hu hl hg hsw hx hx2 hjl hat htl htb
      go_wp2_with fail
      go_roundw
      case rel => exact ⟨j + 1, by omega, by go_num, HL2.out, HG2.out⟩
      case measure => simp [intOf]; omega
    · obtain rfl : j = m := by omega
      obtain ⟨ma, mc, hmv⟩ := nums_slice hl.row
      have c11 := hl.box.c11
      have hf := fun i => hl.box.frozen i
      have HNS := Lib.hid (show Nsl wr wr.heap.size (some ⟨sb, 0, none⟩) j j ats by
        have := nsl_blk hsw (by rw [HLN.out]; have := HNM.out; omega)
        rw [HLN.out] at this
        exact this)
      clear hlt hj hg hl hsw
      go_wp2_with (
        at_builtin
        refine wpList_append_nsl rfl (.tmp 26) (.tmp 27) rfl B _ n own rfl HL.out.row _ _ j j ats rfl HNS.out (by have := HNM.out; omega) HL.out.big.2.1 ?_
        intro v2 w2 hp2 hg2
        obtain ⟨a2, c2, rfl⟩ := nums_slice hp2
        have HP2 := Lib.hid hp2
        have HG2 := Lib.hid hg2
        have HX2 := Lib.hid (show Box w2 g _ from nums_box HL.out.box (by decide) HL.out.row hg2)
        have c11_ := HX2.out.c11
        have hf_ := fun i => HX2.out.frozen i
        clear hp2 hg2)
      go_end0
      have hg3 := Wk.stay (g := g) w2 11 (.slice a2 (n + j) c2)
      have hNs : N ≤ wr.heap.size := Nat.le_trans HL.out.big.1 HL.out.big.2.1
      have hb2 := app_below (Below.refl N wr) (own_mono HL.out.row HL.out.big.1) HG2.out hNs
      have hb3 := below_only hb2 HL.out.big.2.2 hg3 (Nat.le_trans hNs hb2.size)
      have ht2 := own_row_other HL.out.tab HG2.out (fun i hi e => HNG.out i e (by
        have h1 := HL.out.at_
        simp only at h1 hi
        rw [h1] at hi
        simpa [Value.ownBlock] using hi.symm))
      refine ⟨rfl, ⟨Value.slice a2 (n + j) c2, HX2.out.set11 _, HL.out.e, ⟨HL.out.dsk.1.below hb3, HL.out.dsk.2.below hb3⟩, HL.out.at_, HL.out.len, own_other ht2 hg3 (own_ty ht2 HX2.out (by decide)), own_other HP2.out hg3 (own_ty HP2.out HX2.out (by decide)), ⟨HL.out.big.1, ?_, HL.out.big.2.2⟩⟩, ?_⟩
      · have h1 := HL.out.big.2.1
        have h2 := HG2.out.size
        have h3 := hg3.size
        omega
      · refine Fz.trans (Fz.of_grown HG.out (Nat.le_refl _) (fun i e => .inl (.inr (.inl (Option.some.inj e).symm)))) (Fz.trans (Fz.of_grown HG2.out HG.out.size (fun i e => .inl (.inr (.inr e)))) (Fz.of_grown hg3 (Nat.le_trans HG.out.size HG2.out.size) (fun i e => .inl (.inl (Option.some.inj e).symm))))
end Go.Proofs.YtafbidhbmfdlkaaGreatDoor
/-
  txg's work, read back: look.
-/
namespace Go.Proofs.YtafbidhbmfdlkaaGreatDoor
open Go Go.RowKit Go.Shelf
set_option maxRecDepth 100000

/-- A row of bytes of the call's own, younger than the table: it stays. -/
theorem Ld.bytes {N B bt g n M c z : Nat} {k : Wk} {own : List Nat} {w w' : World} {v : Value} {s : List UInt8} (h : Ld N B bt g k n own w z) (fz : Fz w.heap.size (Ldx bt g k) w w') (hv : w.ownsRow M 5 1 v c (vals s)) (hM : bt < M) : w'.ownsRow M 5 1 v c (vals s) :=
  fz.own hv (Nat.le_refl _) (fun i hi hx => by
    obtain ⟨_, ⟨rfl, _⟩ | ⟨g', cap, cur, rfl, h3, h4, _⟩⟩ := id hv
    · simp [Value.ownBlock] at hi
    · have e : g' = i := by simpa [Value.ownBlock] using hi
      subst e
      rcases hx with e | e | e
      · subst e
        exact blk_ne h4 h.box (by decide) rfl
      · omega
      · exact own_ty h.row h4 (by decide) g' e rfl)
theorem Ld.blk {N B bt g n b z : Nat} {k : Wk} {own : List Nat} {w w' : World} {t : TypeId} {cs : Array Value} (h : Ld N B bt g k n own w z) (fz : Fz w.heap.size (Ldx bt g k) w w') (hb : Blk w b t cs) (h1 : t ≠ 62) (h2 : t ≠ 3) (h3 : t ≠ 5) : Blk w' b t cs :=
  fz.blk hb hb.lt (fun hx => by
    rcases hx with e | e | e
    · subst e
      exact blk_ne hb h.box h1 rfl
    · subst e
      obtain ⟨_, _, cs0, hb0⟩ := h.btlt
      exact blk_ne hb hb0 h3 rfl
    · exact own_ty h.row hb (fun e => h2 e.symm) b e rfl)
/-- What look leaves. -/
def OutLook (N B bt g : Nat) (k : Wk) (n : Nat) (own : List Nat) (bl : List UInt8) (at_ : Nat) (w : World) (r : Ending) (w' : World) : Prop :=
  ∃ vb v, r = .returned vb ∧ w'.ownsRow w.heap.size 5 1 vb 256 (vals bl) ∧ Ld N B bt g { k with S := (k.S.1, usedN k.S.2.1 [at_] 1, k.S.2.2), own := v } (n + 1) (own ++ [at_]) w' ∧ Fz w.heap.size (Ldx bt g k) w w'
set_option linter.unusedSimpArgs false in
set_option maxHeartbeats 4000000 in
theorem txLook_ok (N B bt g : Nat) (k : Wk) (n : Nat) (own : List Nat) (p : Pt) (at_ : Nat) (bl : List UInt8) (w : World) (h : Ld N B bt g k n own w) (hwp : WfP p) (hat : p.1 = (at_ : Int)) (ha : at_ < 256) (hlo : lookO k.S p = (bl, 0)) (hn : n ≤ 1000) (hbl : bl.length = 256) :
    Calls Tryz.prog 150 #[.pointer (some ⟨g, 0, none⟩), ptV p] w (OutLook N B bt g k n own bl at_ w) := by
  have hmx : Tryz.prog.follows Departure.mixedOrders = true := by kernel_rfl
  obtain ⟨pa, pb, pi, pt, ps⟩ := p
  simp only at hat
  subst hat
  obtain ⟨w0, gp, hw0, hgp, b0, q0⟩ := new_blk w (ptA ((at_ : Int), pb, pi, pt, ps)) 31
  have HL := Lib.hid (h.bel b0)
  have HQ := Lib.hid q0
  have HB := Lib.hid b0
  have HLK := Lib.hid (fun (W : World) (hl : Ld N B bt g k n own W) => stLook_all N k.x k.S ((at_ : Int), pb, pi, pt, ps) W hl.st hwp (Nat.le_trans hl.big.1 hl.big.2.1))
  have HLO := Lib.hid hlo
  have HA := Lib.hid ha
  have HN := Lib.hid hn
  have HBT := Lib.hid h.btlt.2.1
  have c24 := (h.bel b0).box.c24
  rw [h.e] at c24
  have a0 : (0 : Int) ≤ (at_ : Int) := by omega
  simp only [ptA] at hw0
  clear h b0 q0 hlo ha hn hwp
  go_enter Tryz.func150, Tryz.ntmps150
  go_wp2_with fail
  try rw [hw0]
  try rw [hgp]
  clear hw0 c24
  obtain ⟨wd, hwd⟩ : ∃ wd, w0.drew = wd := ⟨_, rfl⟩
  have bq : Below w0.heap.size w0 wd := by rw [← hwd]; exact (Below.refl _ w0).drew
  replace HL := Lib.hid (HL.out.bel bq)
  replace HQ := Lib.hid (HQ.out.below bq HQ.out.lt)
  replace HB := Lib.hid (HB.out.trans (bq.mono HB.out.size))
  have hS : Box wd g k ∧ Blk wd gp 31 #[.int .i64 (at_ : Int), .int .u32 (pb : Int), .int .u32 (pi : Int), .int .u32 (pt : Int), .int .u32 (ps : Int)] := ⟨HL.out.box, HQ.out⟩
  refine wpI_start (fun X => Box X g k ∧ Blk X gp 31 #[.int .i64 (at_ : Int), .int .u32 (pb : Int), .int .u32 (pi : Int), .int .u32 (pt : Int), .int .u32 (ps : Int)]) [0, 1, 2, 3, 4, 5, 6, 7, 8, 9, 10, 11] hmx rfl hwd ?_
  clear hwd bq
  iterate 6 (
    refine wpI_read (v := ?_) hS rfl (by kernel_rfl) (by kernel_rfl) (by kernel_rfl) (fun _ _ _ h => h) (.inl ⟨by rfl, ?_⟩) ?_
    rotate_left
    · intro X hX
      have j0 := hX.1.c0
      have j1 := hX.1.c1
      have j2 := hX.1.c2
      have j3 := hX.1.c3
      have j4 := hX.1.c4
      have i0 := bx0 hX.2
      have i1 := bx1 hX.2
      have i2 := bx2 hX.2
      have i3 := bx3 hX.2
      have i4 := bx4 hX.2
      clear hX
      go_simp
      with_reducible rfl
    try simp only [Act.put, List.setIfInBounds_toArray, List.set_cons_zero, List.set_cons_succ])
  have hc := HLK.out wd HL.out
  rw [HLO.out] at hc
  have HC := Lib.hid hc
  clear hc
  refine wpI_lone rfl (by kernel_rfl) (fun K hK => ?_)
  go_simp
  refine HC.out.mono ?_
  rintro ev w1 ⟨vb, rfl, hob, bq⟩
  rw [hbl] at hob
  replace HL := Lib.hid (HL.out.bel bq)
  replace HQ := Lib.hid (HQ.out.below bq HQ.out.lt)
  have HOB := Lib.hid (own_mono hob HB.out.size)
  replace HB := Lib.hid (HB.out.trans (bq.mono HB.out.size))
  have hS2 : Box w1 g k ∧ Blk w1 gp 31 #[.int .i64 (at_ : Int), .int .u32 (pb : Int), .int .u32 (pi : Int), .int .u32 (pt : Int), .int .u32 (ps : Int)] := ⟨HL.out.box, HQ.out⟩
  refine hK _ _ hS2 ?_
  clear hK K hob bq HC hS HLK
  try simp only [Act.put, List.setIfInBounds_toArray, List.set_cons_zero, List.set_cons_succ]
  iterate 5 (
    refine wpI_read (v := ?_) hS2 rfl (by kernel_rfl) (by kernel_rfl) (by kernel_rfl) (fun _ _ _ h => h) (.inl ⟨by rfl, ?_⟩) ?_
    rotate_left
    · intro X hX
      clear hX
      go_simp
      with_reducible rfl
    try simp only [Act.put, List.setIfInBounds_toArray, List.set_cons_zero, List.set_cons_succ])
  refine wpI_done (by kernel_rfl) ?_
  have HRF := Lib.hid (txRefuse_0 g k w1 HL.out.box HL.out.e)
  go_wp2_with fail
  refine HRF.out.mono ?_
  rintro e w2 ⟨rfl, rfl⟩
  have i0 := bx0 HQ.out
  obtain ⟨w3, g3, hw3, hg3, b3, q3⟩ := new_blk w1 #[.int .i64 (at_ : Int)] 3
  have HOW := Lib.hid (txOwn_any N B bt g k n own g3 1 [at_] w3 0 (HL.out.bel b3) rfl q3 (fun x hx => by rw [List.mem_singleton.1 hx]; exact HA.out) (by have := HN.out; omega))
  have HL3 := Lib.hid (HL.out.bel b3)
  have HB3 := Lib.hid (HB.out.trans (b3.mono HB.out.size))
  have HOB3 := Lib.hid (own_below HOB.out b3)
  clear b3 q3 hS2 HRF
  go_wp2_with fail
  try rw [hw3]
  try rw [hg3]
  clear hw3 i0
  refine HOW.out.mono ?_
  rintro e w4 ⟨rfl, v4, hl4, fz4⟩
  have HO4 := Lib.hid (HL3.out.bytes fz4 HOB3.out HBT.out)
  have HL4 := Lib.hid hl4
  have HF4 := Lib.hid (Fz.trans (Fz.of_below (X := Ldx bt g k) HB3.out (Nat.le_refl _)) (⟨fz4.os, fz4.tape, fz4.output, fz4.size, fun i hi hne => fz4.same i (Nat.lt_of_lt_of_le hi HB3.out.size) hne⟩ : Fz w.heap.size (Ldx bt g k) w3 w4))
  clear hl4 fz4
  go_wp2_with fail
  go_ret
  exact ⟨vb, v4, rfl, HO4.out, HL4.out, HF4.out⟩
end Go.Proofs.YtafbidhbmfdlkaaGreatDoor
/-
  slices.Chunk of a slice of bytes by twenty-fours, of a length that these make up, hands the loop its windows in their order.
-/
namespace Go.Proofs.YtafbidhbmfdlkaaGreatDoor
open Go.RowKit Go.Shelf
set_option maxRecDepth 100000
attribute [local go_sem] Oper.semAt_some

/-- What the walk goes on reading: the box of the slice, and that of the size. -/
def ReachE (Bs Bn : Nat) (A : Option Addr) (q cap : Nat) (W : World) : Prop :=
  W.cell? ⟨Bs, 0, none⟩ = some (.slice A (24 * q) cap) ∧ W.cell? ⟨Bn, 0, none⟩ = some (.int .i64 24)

theorem chunk24_in (F : Fence) (n : Nat) (h : F.fn 159) (hro : F.round = none) (a : Option Addr) (len cap : Nat) (w : World) :
    CallsIn F n Tryz.prog 159 #[.slice a len cap, .int .i64 24] w fun e w' => e = .returned (.func (.func 230) #[] #[.pointer (some ⟨w.heap.size, 0, none⟩), .pointer (some ⟨w.heap.size + 1, 0, none⟩)]) ∧
      w' = (w.alloc (.cells #[.slice a len cap] 26)).alloc (.cells #[.int .i64 24] 3) := by
  refine callsIn_of_wp Tryz.func159 rfl h ?_ hro
  simp only [Tryz.ntmps159, List.size_toArray, List.length_cons, List.length_nil, Nat.reduceAdd, Nat.reduceSub, Array.replicate_succ, Array.replicate_zero, List.push_toArray, List.append_toArray, List.nil_append, List.cons_append]
  gi_wp2
  go_ret
  exact ⟨rfl, rfl⟩

/-- The window of number x. -/
@[reducible] def win24 (b off : Nat) (x : Nat) : Array Value := #[.slice (some ⟨b, off + 24 * x, none⟩) 24 24]

set_option maxHeartbeats 2000000 in
theorem chunk24b_in (n : Nat) (hn : 1 ≤ n) (l Bs Bn b off q cap : Nat) (A : Option Addr) (hA : 0 < q → A = some ⟨b, off, none⟩) (hqc : 24 * q ≤ cap) (hcm : cap ≤ 9223372036854775807) (J Jx : List (Fin q) → World → Prop)
    (hY : ∀ pre x W, J pre W → pre.length < q → YieldAt Fence.wide (n - 1) Tryz.prog l (win24 b off x.val) W fun e W' =>
      (e = .returned (.bool true) ∧ J (pre ++ [x]) W' ∧ (ReachE Bs Bn A q cap W → ReachE Bs Bn A q cap W')) ∨ (e = .returned (.bool false) ∧ Jx (pre ++ [x]) W'))
    (hJd : ∀ pre W, J pre W → J pre W.drew)
    (W : World) (hR : ReachE Bs Bn A q cap W) (h0 : J [] W) :
    CallsIn Fence.wide n Tryz.prog 230 #[.func (.yield l) #[] #[], .pointer (some ⟨Bs, 0, none⟩), .pointer (some ⟨Bn, 0, none⟩)] W fun e W' => (∃ v, e = .returned v) ∧
      ((∃ ys, ys.map (·.val) = List.range q ∧ J ys W') ∨ (∃ pre, pre.map (·.val) = List.range pre.length ∧ Jx pre W')) := by
  refine callsIn_of_wp Tryz.func230 rfl trivial ?_ rfl
  simp only [Tryz.ntmps230, List.size_toArray, List.length_cons, List.length_nil, Nat.reduceAdd, Nat.reduceSub, Array.replicate_succ, Array.replicate_zero, List.push_toArray, List.append_toArray, List.nil_append, List.cons_append]
  have hmx : Tryz.prog.follows Departure.mixedOrders = true := by kernel_rfl
  have HR := Lib.hid hR
  clear hR
  gi_wp2
  gi_loopw [4] (fun i wr => ∃ pre : List (Fin q), pre.map (·.val) = List.range pre.length ∧ pre.length ≤ q ∧ i = .int .i64 ((24 * pre.length : Nat) : Int) ∧ J pre wr ∧ ReachE Bs Bn A q cap wr)
    (fun i _ => 24 * q - (intOf i).toNat)
  case atStart => exact ⟨[], rfl, Nat.zero_le _, rfl, h0, HR.out⟩
  case round =>
    obtain ⟨pre, hC, hle, rfl, hJs, hRs⟩ := hrel
    obtain ⟨k, hk⟩ : ∃ k, pre.length = k := ⟨_, rfl⟩
    have hb1 := hRs.1
    have hb2 := hRs.2
    obtain ⟨m, hm⟩ : ∃ m : Nat, 24 * k = m := ⟨_, rfl⟩
    obtain ⟨L, hL⟩ : ∃ L : Nat, 24 * q = L := ⟨_, rfl⟩
    rw [hL] at hb1
    rw [hk, hm]
    by_cases hlt : k < q
    · rw [hA (by omega)] at hb1
      have hmL : m < L := by omega
      have hm8 : m + 24 ≤ L := by omega
      have hLc : L ≤ cap := by omega
      have HRs := Lib.hid hRs; clear hRs
      have HM := Lib.hid hm; clear hm
      have HL := Lib.hid hL; clear hL
      have HK := Lib.hid hk; clear hk
      have h8 : ((m : Int) < (L : Int)) := by omega
      have h80 : (0 : Int) ≤ (m : Int) := by omega
      have h8m : (L : Int) ≤ 9223372036854775807 := by omega
      have hsl := fun W => slice_from_l W b off L cap m hmL hLc
      have hmin : min (24 : Int) ((L - m : Nat) : Int) = 24 := by omega
      gi_wp2
      refine region_wide_tail 6 hmx (by kernel_rfl) (fun h => by obtain ⟨_, _, ⟨v, hv⟩, _⟩ := h; cases hv) (by kernel_rfl) ?_
      simp only [List.take_succ_cons, List.take_zero, List.drop_succ_cons, List.drop_zero]
      repeat still_step
      refine wpStill_nil ?_
      obtain ⟨fn, tmps, assign, body, hy, hR⟩ := hY pre ⟨k, hlt⟩ wr.drew (hJd _ _ hJs) (by rw [HK.out]; exact hlt)
      have hw : win24 b off k = #[.slice (some ⟨b, off + m, none⟩) 24 24] := by rw [win24, HM.out]
      dsimp only at hy
      rw [hw] at hy
      clear hw
      have HC := Lib.hid hC; clear hC
      go_wp2
      gi_wp2
      refine hR.mono ?_
      rintro e W3 (⟨rfl, hJ3, hk3⟩ | ⟨rfl, hJx3⟩)
      · have hr3 := hk3 HRs.out
        have hb3 := hr3.2
        have HR3 := Lib.hid hr3; clear hr3 hk3
        gi_wp2
        go_roundw
        case rel => exact ⟨pre ++ [⟨k, hlt⟩], by simp [HC.out, List.range_succ, HK.out], by simp; rw [HK.out]; omega, by simp [HK.out]; have := HM.out; omega, hJ3, HR3.out⟩
        case measure => simp [intOf]; have := HM.out; have := HL.out; omega
      · gi_wp2
        refine bodyPost_ret (results_none rfl _ _ _) rfl ?_
        exact ⟨⟨_, rfl⟩, .inr ⟨_, by simp [HC.out, List.range_succ, HK.out], hJx3⟩⟩
    · have hkq : k = q := by omega
      have hmL : m = L := by omega
      rw [hmL]
      have HRs := Lib.hid hRs; clear hRs
      have HM := Lib.hid hm; clear hm
      have HL := Lib.hid hL; clear hL
      have HK := Lib.hid hk; clear hk
      have HKQ := Lib.hid hkq; clear hkq
      have HC := Lib.hid hC; clear hC
      clear hmL
      gi_wp2
      go_end0
      exact ⟨⟨_, rfl⟩, .inl ⟨pre, by rw [HC.out, HK.out, HKQ.out], hJs⟩⟩

theorem reachE_putObj {Bs Bn : Nat} {A : Option Addr} {q cap : Nat} {W : World} (l : Nat) (o o' : Obj) (h : W.heap[l]? = some o) (ho : o.isCells = false) (hR : ReachE Bs Bn A q cap W) : ReachE Bs Bn A q cap (W.putObj l o') := by
  have hk : ∀ r, some l = some r → ∃ o : Obj, W.heap[r]? = some o ∧ o.isCells = false := fun r e => by cases e; exact ⟨_, h, ho⟩
  exact ⟨cell_kept hR.1 (grownBy_putObj' W l o') hk, cell_kept hR.2 (grownBy_putObj' W l o') hk⟩

theorem stopsE (n : Nat) (hn : 1 ≤ n) (Bs Bn b off q cap : Nat) (A : Option Addr) (hA : 0 < q → A = some ⟨b, off, none⟩) (hqc : 24 * q ≤ cap) (hcm : cap ≤ 9223372036854775807) (w : World) (hBs : Bs < w.heap.size) (hBn : Bn < w.heap.size) (hR : ReachE Bs Bn A q cap w) :
    SeqStopsK Fence.wide n Tryz.prog 230 #[.pointer (some ⟨Bs, 0, none⟩), .pointer (some ⟨Bn, 0, none⟩)] (fun x : Fin q => win24 b off x.val) (fun W W' => ReachE Bs Bn A q cap W → ReachE Bs Bn A q cap W')
      (fun ys => ys.map (·.val) = List.range q) (fun pre => pre.map (·.val) = List.range pre.length) q w := fun l J Jx W hW hJ _ hY h0 =>
  chunk24b_in n hn l Bs Bn b off q cap A hA hqc hcm J Jx hY (fun s W1 h => hJ s W1 W1.drew none h (only_drew (World.grownBy.refl W1 none)) (fun r e => by cases e)) W
    ⟨(hW.cell (p := ⟨Bs, 0, none⟩) hBs).trans hR.1, (hW.cell (p := ⟨Bn, 0, none⟩) hBn).trans hR.2⟩ h0
end Go.Proofs.YtafbidhbmfdlkaaGreatDoor
/-
  txg's own blocksOf; slices.Contains of pointers that aren't there.
-/
namespace Go.Proofs.YtafbidhbmfdlkaaGreatDoor
open Go Go.RowKit Go.Shelf
set_option maxRecDepth 100000

theorem txBlocksOf_any (m : Nat) (hm : m ≤ 1000) (w : World) : Calls Tryz.prog 211 #[.int .i64 (m : Int)] w fun e w' => e = .returned (.int .i64 ((blocksN m : Nat) : Int)) ∧ w = w' := by
  have h0 : (0 : Int) ≤ (m : Int) := by omega
  have h9 : (m : Int) ≤ 1000 := by omega
  have hq : Int.tdiv ((m : Int) + 5 - 1) 5 = (((m + 4) / 5 : Nat) : Int) := by
    rw [show ((m : Int) + 5 - 1) = ((m + 4 : Nat) : Int) by omega]
    rfl
  have hx : max (1 : Int) (((m + 4) / 5 : Nat) : Int) = ((blocksN m : Nat) : Int) := by unfold blocksN; omega
  obtain ⟨u, hu⟩ : ∃ u : Nat, (m + 4) / 5 = u := ⟨_, rfl⟩
  have hu9 : (u : Int) ≤ 1000 := by omega
  rw [hu] at hq hx
  obtain ⟨v, hv⟩ : ∃ v : Nat, blocksN m = v := ⟨_, rfl⟩
  rw [hv] at hx ⊢
  clear hu hv hm
  go_enter Tryz.func211, Tryz.ntmps211
  go_wp2_with fail
  go_ret
  exact ⟨by simp, rfl⟩
set_option maxHeartbeats 2000000 in
theorem txIndexP_no (a : Option Addr) (n c : Nat) (L : List Pt) (q : Pt) (w : World) (h : Pts w w.heap.size a n c L) (hq : q ∉ L) (hn : n ≤ 1000) : Calls Tryz.prog 262 #[.slice a n c, ptV q] w fun e w' => e = .returned (.int .i64 (-1)) ∧ Below w.heap.size w w' := by
  have hmx : Tryz.prog.follows Departure.mixedOrders = true := by kernel_rfl
  obtain ⟨qa, qb, qi, qt, qs⟩ := q
  obtain ⟨w0, g, hw0, hg, b0, q0⟩ := new_blk w (ptA (qa, qb, qi, qt, qs)) 31
  have HX := Lib.hid q0
  have HB := Lib.hid b0
  have HP := Lib.hid (h.step b0)
  have HN := Lib.hid h.1
  have HQ := Lib.hid hq
  have n0 : (0 : Int) ≤ (n : Int) := by omega
  have n9 : (n : Int) ≤ 1000 := by omega
  simp only [ptA] at hw0
  clear h q0 b0 hq hn
  go_enter Tryz.func262, Tryz.ntmps262
  go_wp2_with fail
  try rw [hw0]
  try rw [hg]
  go_loopw [8] (fun i wr => ∃ j : Nat, j ≤ n ∧ i = .int .i64 j ∧ Below w0.heap.size w0 wr) (fun i _ => n - (intOf i).toNat)
  case atStart => exact ⟨0, Nat.zero_le _, rfl, Below.refl _ _⟩
  case round =>
    obtain ⟨j, hj, rfl, hb⟩ := hrel
    have j0 : (0 : Int) ≤ j := by omega
    by_cases hlt : j < n
    · have j1 : (j : Int) < n := by omega
      have hjl : j < L.length := by rw [HN.out]; exact hlt
      obtain ⟨⟨ya, yb, yi, yt, ys⟩, hy⟩ : ∃ y, L.getD j p0 = y := ⟨_, rfl⟩
      have hyj : L[j] = (ya, yb, yi, yt, ys) := by rw [← hy, List.getD_eq_getElem?_getD, List.getElem?_eq_getElem hjl]; rfl
      have hne : ((qa, qb, qi, qt, qs) : Pt) ≠ (ya, yb, yi, yt, ys) := fun e => HQ.out (by rw [e, ← hyj]; exact List.getElem_mem hjl)
      have hep := fun W => eqPt_lit qa qb qi qt qs ya yb yi yt ys W
      rw [show eqP (qa, qb, qi, qt, qs) (ya, yb, yi, yt, ys) = false from decide_eq_false hne] at hep
      have HEP := Lib.hid hep
      obtain ⟨wd, hwd⟩ : ∃ wd, wr.drew = wd := ⟨_, rfl⟩
      have bq : Below wr.heap.size wr wd := by rw [← hwd]; exact (Below.refl _ wr).drew
      have hbd := hb.trans (bq.mono hb.size)
      have HPd := Lib.hid (HP.out.step hbd)
      have HXd := Lib.hid (HX.out.below hbd HX.out.lt)
      have HBd := Lib.hid hbd
      have HYY := Lib.hid (show L.getD j p0 = (ya, yb, yi, yt, ys) from hy)
      have hwd0 := Below.refl wd.heap.size wd
      obtain ⟨pb, po, ea, _⟩ := HPd.out.cells j (by omega)
      cases ea
      clear hb bq hbd hne hy hyj hep
      go_wp2_with fail
      refine wpI_start (Below wd.heap.size wd) [0, 1, 2, 3, 4, 5] hmx rfl hwd ?_
      clear hwd
      iterate 6 (
        refine wpI_read (v := ?_) hwd0 rfl (by kernel_rfl) (by kernel_rfl) (by kernel_rfl) (fun _ _ _ h => h) (.inl ⟨by rfl, ?_⟩) ?_
        rotate_left
        · intro X hX
          have hk := HXd.out.below hX HXd.out.lt
          have i0 := bx0 hk
          have i1 := bx1 hk
          have i2 := bx2 hk
          have i3 := bx3 hk
          have i4 := bx4 hk
          obtain ⟨_, _, ea, _, _, p0_, p1_, p2_, p3_, p4_⟩ := (HPd.out.below hX).cells j (by omega)
          cases ea
          rw [HYY.out] at p0_ p1_ p2_ p3_ p4_
          simp only at p0_ p1_ p2_ p3_ p4_
          have hep := HEP.out
          clear hX hk
          go_simp
          with_reducible rfl
        try simp only [Act.put, List.setIfInBounds_toArray, List.set_cons_zero, List.set_cons_succ])
      refine wpI_done (by kernel_rfl) ?_
      go_wp2_with fail
      go_roundw
      case rel => exact ⟨j + 1, by omega, by go_num, HBd.out⟩
      case measure => simp [intOf]; omega
    · obtain rfl : j = n := by omega
      have HBe := Lib.hid (HB.out.trans (hb.mono HB.out.size))
      clear hlt hj hb
      go_wp2_with fail
      go_ret
      exact ⟨rfl, by first | exact HBe.out | (rw [← hg]; exact HBe.out)⟩
theorem txContainsP_no (a : Option Addr) (n c : Nat) (L : List Pt) (q : Pt) (w : World) (h : Pts w w.heap.size a n c L) (hq : q ∉ L) (hn : n ≤ 1000) : Calls Tryz.prog 212 #[.slice a n c, ptV q] w fun e w' => e = .returned (.bool false) ∧ Below w.heap.size w w' := by
  obtain ⟨qa, qb, qi, qt, qs⟩ := q
  obtain ⟨w0, g, hw0, hg, b0, q0⟩ := new_blk w (ptA (qa, qb, qi, qt, qs)) 31
  have HX := Lib.hid (txIndexP_no a n c L (qa, qb, qi, qt, qs) w0 (h.step b0) hq hn)
  have HB := Lib.hid b0
  have i0 := bx0 q0
  have i1 := bx1 q0
  have i2 := bx2 q0
  have i3 := bx3 q0
  have i4 := bx4 q0
  simp only [ptA] at hw0
  clear h q0 b0 hq hn
  go_enter Tryz.func212, Tryz.ntmps212
  go_wp2_with fail
  try rw [hw0]
  try rw [hg]
  refine HX.out.mono ?_
  rintro e w1 ⟨rfl, b1⟩
  have HB1 := Lib.hid (HB.out.trans (b1.mono HB.out.size))
  clear b1
  go_wp2_with fail
  go_ret
  exact ⟨rfl, by first | exact HB1.out | (rw [← hg]; exact HB1.out)⟩
end Go.Proofs.YtafbidhbmfdlkaaGreatDoor
/-
  txg's own trunkOf: a root's block is read as it was laid.
-/
namespace Go.Proofs.YtafbidhbmfdlkaaGreatDoor
open Go Go.RowKit Go.Shelf
set_option maxRecDepth 100000

theorem fill_ls {t : TrL} (h : MayTr t) : ((fillL (trunkR t)).drop 1).take t.ls.length = t.ls := by
  have hb := blocksN_le h.many
  have hll := h.len
  refine List.ext_getElem (by simp [fillL]; omega) fun i h1 h2 => ?_
  rw [List.getElem_take, List.getElem_drop]
  unfold fillL
  rw [List.getElem_map, List.getElem_range]
  unfold trunkR
  rw [show 1 + i = i + 1 by omega, List.getD_cons_succ, List.append_assoc, List.getD_eq_getElem?_getD, List.getElem?_append_left h2, List.getElem?_eq_getElem h2]
  rfl
theorem fill_key {t : TrL} (h : MayTr t) : (fillL (trunkR t)).getD 5 p0 = t.keys := by
  have hb := blocksN_le h.many
  have hll := h.len
  unfold fillL
  rw [List.getD_eq_getElem?_getD, List.getElem?_map, List.getElem?_range (by omega)]
  show (trunkR t).getD 5 p0 = _
  unfold trunkR
  have h4 : (t.ls ++ List.replicate (4 - t.ls.length) p0).length = 4 := by rw [List.length_append, List.length_replicate]; omega
  rw [List.getD_cons_succ, List.getD_eq_getElem?_getD, List.getElem?_append_right (by omega), h4]
  rfl
theorem nums_tr {t : TrL} (h : MayTr t) : ∃ z, numsN (trunkB t) trSz 4 = [z, t.nextId, t.nextGuid, t.many] := by
  have ht := trunkT_B h
  have e1 : leN (((trunkB t).drop 1).take 2) = t.nextId := congrArg TrL.nextId ht
  have e2 : leN (((trunkB t).drop 3).take 4) = t.nextGuid := congrArg TrL.nextGuid ht
  have e3 : leN (((trunkB t).drop 7).take 1) = t.many := congrArg TrL.many ht
  refine ⟨leN (((trunkB t).drop 0).take 1), ?_⟩
  rw [← e1, ← e2, ← e3]
  simp [numsN, offN, trSz, List.range_succ]
theorem rows_tr {t : TrL} (h : MayTr t) : rowsO (List.replicate 16 0 ++ (trunkB t).drop 16) = (fillL (trunkR t), 0) := by
  have hL := trunkR_length h
  have hr := rowsO_row (L := trunkR t) (by rw [hL]; omega) (trunkR_may h).1 (trunkR_may h).2
  rw [hL] at hr
  rw [trunk_row t]
  exact hr
theorem pslice_1 (W : World) (b n c m : Nat) (hm : 0 < m) (hc : 1 + m ≤ c) : (Instr.slice 100 (.slice (some ⟨b, 0, none⟩) n c) (some (.int .i64 1)) (some (.int .i64 (1 + (m : Int)))) none).run Tryz.prog W = .ok (.slice (some ⟨b, 5, none⟩) m (c - 1)) W := by
  rw [run_slice_lh W 100 _ _ _ (by kernel_rfl) .i64 .i64 _ _ (by omega) (by omega) (by omega)]
  have hz : (Go.sizeOf (Tryz.prog.elem 100)).run Tryz.prog W = .ok 5 W := by kernel_rfl
  rw [hz]
  have e1 : (1 + (m : Int)).toNat = 1 + m := by omega
  simp [Result.andThen, sliced, e1, Addr.add]
  omega
theorem wpList_load_tr {ops : Array Oper} {rest : List Oper} {o : Oper} {a : Act} {w : World} {Q : Exit → Act → World → Prop} (hgd : o.guard = none) (y : Operand) (ho : o.op = .load 118 y) (g : Nat) (la : Option Addr) (c : Nat) (t : TrL) (hx : a.eval y = .pointer (some ⟨g, 0, none⟩)) (hb : Blk w g 118 (trC la c t))
    (h : wpList Tryz.prog ops Q rest (a.put o.dst (trV la c t)) w) : wpList Tryz.prog ops Q (o :: rest) a w :=
  wpList_load_row hgd 118 y ho g hx 118 (trC la c t) (0, 0) _ hb Tryz.underlying118 rfl infoTr h
theorem wpList_store_tr {ops : Array Oper} {rest : List Oper} {o : Oper} {a : Act} {w : World} {Q : Exit → Act → World → Prop} (hgd : o.guard = none) (x y : Operand) (ho : o.op = .store 118 x y) (g : Nat) (la : Option Addr) (c : Nat) (t : TrL) (hx : a.eval x = .pointer (some ⟨g, 0, none⟩)) (hy : a.eval y = trV la c t) (old : Array Value) (hb : Blk w g 118 old) (hold : old.size = 9)
    (h : ∀ w', Blk w' g 118 (trC la c t) → w.grownBy w' (some g) → wpList Tryz.prog ops Q rest (a.put o.dst undef) w') : wpList Tryz.prog ops Q (o :: rest) a w :=
  wpList_store_row hgd 118 x y ho g (trC la c t) hx hy 118 old hb infoTr (by rw [hold]; rfl) (by simp [trC, Value.oneCell']) (h _ hb.setRow (setRow_only w _))
theorem pts_blk_step {w w' : World} {b o n c : Nat} {L : List Pt} {t : TypeId} {cs : Array Value} (h : Pts w w.heap.size (some ⟨b, o, none⟩) n c L) (h1 : Blk w b t cs) (h2 : Blk w' b t cs) : Pts w' w'.heap.size (some ⟨b, o, none⟩) n c L := by
  obtain ⟨a1, a2, a3, a4, a5⟩ := h
  refine ⟨a1, a2, a3, a4, fun hl => ?_⟩
  obtain ⟨b', o', e, _, hc⟩ := a5 hl
  cases e
  refine ⟨b, o, rfl, h2.lt, fun i hi => ⟨(hc i hi).1, fun j u hu => ?_⟩⟩
  rw [h2.cell, ← h1.cell]
  exact (hc i hi).2 j u hu
theorem pts_win1 {w : World} {B b n c : Nat} {L : List Pt} (h : Pts w B (some ⟨b, 0, none⟩) n c L) (m : Nat) (hm : 1 + m ≤ n) (hm0 : 0 < m) : Pts w B (some ⟨b, 5, none⟩) m (c - 1) ((L.drop 1).take m) := by
  obtain ⟨h1, h2, h3, h4, h5⟩ := h
  refine ⟨by rw [List.length_take, List.length_drop]; omega, by omega, by omega, fun e => (by cases e), fun hl => ?_⟩
  obtain ⟨b', off', e, hlt, hcc⟩ := h5 (by omega)
  cases e
  refine ⟨b, 5, rfl, hlt, fun i hi => ?_⟩
  rw [List.length_take, List.length_drop] at hi
  have := hcc (1 + i) (by omega)
  rw [List.getElem_take, List.getElem_drop]
  refine ⟨this.1, fun j u hu => ?_⟩
  have := this.2 j u hu
  rwa [show 0 + (1 + i) * 5 + j = 5 + i * 5 + j by omega] at this
/-- What trunkOf answers: its list of pointers lies in a block of pointers of the call's own. -/
def OutTr_ (t : TrL) (w : World) (e : Ending) (w' : World) : Prop :=
  ∃ b lc cs, e = .returned (.tuple #[trV (some ⟨b, 5, none⟩) lc t, .int .i64 0]) ∧ Pts w' w'.heap.size (some ⟨b, 5, none⟩) t.ls.length lc t.ls ∧ Blk w' b 31 cs ∧ w.heap.size ≤ b ∧ Below w.heap.size w w'
set_option linter.unusedSimpArgs false in
set_option maxHeartbeats 8000000 in
theorem txTrunkOf_ok (a : Option Addr) (c : Nat) (t : TrL) (w : World) (hm : MayTr t) (hb : Bsl w w.heap.size a 256 c (trunkB t)) (hz : Szs w) : Calls Tryz.prog 151 #[.slice a 256 c] w (OutTr_ t w) := by
  have hmx : Tryz.prog.follows Departure.mixedOrders = true := by kernel_rfl
  obtain ⟨b_, of, ea, _, _⟩ := hb.2.2.2.2 (by omega)
  subst ea
  obtain ⟨w0, gr, hw0, hgr, b0, q0⟩ := new_blk w trZ 118
  have HR := Lib.hid q0
  have HB := Lib.hid b0
  have HGR := Lib.hid (show w.heap.size ≤ gr by omega)
  have HGRE := Lib.hid hgr
  have HBL := Lib.hid hb
  have HZ := Lib.hid hz
  have HM := Lib.hid hm
  have hb4 := blocksN_le hm.many
  have HLS := Lib.hid (show 1 ≤ t.ls.length ∧ t.ls.length ≤ 4 ∧ blocksN t.many = t.ls.length by have := hm.len; omega)
  have hcap : 256 ≤ c := hb.2.1
  simp only [trZ] at hw0
  clear b0 q0 hb hz hb4
  go_enter Tryz.func151, Tryz.ntmps151
  go_wp2_with fail
  try rw [hw0]
  try rw [hgr]
  clear hw0
  obtain ⟨wd, hwd⟩ : ∃ wd, w0.drew = wd := ⟨_, rfl⟩
  have bq : Below w0.heap.size w0 wd := by rw [← hwd]; exact (Below.refl _ w0).drew
  replace HR := Lib.hid (HR.out.below bq HR.out.lt)
  replace HB := Lib.hid (HB.out.trans (bq.mono HB.out.size))
  have hsl : ∀ W : World, (Instr.slice 26 (.slice (some ⟨b_, of, none⟩) 256 c) (some (.int .i64 16)) none none).run Tryz.prog W = .ok (.slice (some ⟨b_, of + 16, none⟩) 240 (c - 16)) W := fun W => slice_from_l W b_ of 256 c 16 (by omega) hcap
  refine wpI_start (Below w.heap.size w) [1, 2, 0, 3, 4, 5, 6, 7, 8, 9, 10] hmx rfl hwd ?_
  clear hwd bq
  iterate 2 (
    refine wpI_read (v := ?_) HB.out rfl (by kernel_rfl) (by kernel_rfl) (by kernel_rfl) (fun _ _ _ h => h) (.inl ⟨by rfl, ?_⟩) ?_
    rotate_left
    · intro X hX
      clear hX
      go_simp
      with_reducible rfl
    try simp only [Act.put, List.setIfInBounds_toArray, List.set_cons_zero, List.set_cons_succ])
  clear hsl
  refine wpI_lone rfl (by kernel_rfl) (fun K hK => ?_)
  have hmk0 := make_noughts 16 (by omega) wd
  have bq := (Below.refl wd.heap.size wd).alloc (Nat.le_refl _) (.cells (Array.replicate 16 (.int .u8 0)) 5)
  have hN := noughts_bsl 16 (by omega) wd
  obtain ⟨w1, hn⟩ : ∃ X, wd.alloc (.cells (Array.replicate 16 (.int .u8 0)) 5) = X := ⟨_, rfl⟩
  obtain ⟨gz, hgz⟩ : ∃ X, wd.heap.size = X := ⟨_, rfl⟩
  rw [hn, hgz] at hmk0 hN
  rw [hn] at bq
  have hmk : (Instr.makeSlice 26 (.int .i64 16) (.int .i64 16)).run Tryz.prog wd = .ok (.slice (some ⟨gz, 0, none⟩) 16 16) w1 := hmk0
  go_simp
  replace HR := Lib.hid (HR.out.below bq HR.out.lt)
  replace HB := Lib.hid (HB.out.trans (bq.mono HB.out.size))
  have HN := Lib.hid hN
  refine hK _ _ HB.out ?_
  clear hK K hn hgz hmk hmk0 hN bq
  try simp only [Act.put, List.setIfInBounds_toArray, List.set_cons_zero, List.set_cons_succ]
  have hwin := (HBL.out.step HB.out).win 16 240 (by omega)
  have HW := Lib.hid hwin
  have hcc := concatB2 w1 (some ⟨gz, 0, none⟩) 16 16 (List.replicate 16 0) (some ⟨b_, of + 16, none⟩) 240 (c - 16) (((trunkB t).drop 16).take 240) HN.out HW.out (by decide) (by decide)
  rw [show ((trunkB t).drop 16).take 240 = (trunkB t).drop 16 from List.take_of_length_le (by rw [List.length_drop, trunkB_length HM.out]; exact Nat.le_refl _)] at hcc
  refine wpI_lone rfl (by kernel_rfl) (fun K hK => ?_)
  go_simp
  obtain ⟨w2, hn⟩ : ∃ X, w1.alloc (.cells #[.slice (some ⟨gz, 0, none⟩) 16 16, .slice (some ⟨b_, of + 16, none⟩) 240 (c - 16)] 26) = X := ⟨_, rfl⟩
  obtain ⟨g2, hg2⟩ : ∃ X, w1.heap.size = X := ⟨_, rfl⟩
  have bq := (Below.refl w1.heap.size w1).alloc (Nat.le_refl _) (.cells #[.slice (some ⟨gz, 0, none⟩) 16 16, .slice (some ⟨b_, of + 16, none⟩) 240 (c - 16)] 26)
  rw [hn, hg2] at hcc
  rw [hn] at bq
  rw [hn, hg2]
  replace HR := Lib.hid (HR.out.below bq HR.out.lt)
  replace HB := Lib.hid (HB.out.trans (bq.mono HB.out.size))
  have HC := Lib.hid hcc
  refine hK _ _ HB.out ?_
  clear hK K hn hg2 hcc bq hwin
  try simp only [Act.put, List.setIfInBounds_toArray, List.set_cons_zero, List.set_cons_succ]
  refine wpI_lone rfl (by kernel_rfl) (fun K hK => ?_)
  go_simp
  refine HC.out.mono ?_
  rintro ev w3 ⟨vc, rfl, hoc, bq⟩
  have hcl : (List.replicate 16 (0 : UInt8) ++ (trunkB t).drop 16).length = 256 := by rw [List.length_append, List.length_replicate, List.length_drop, trunkB_length HM.out]
  rw [hcl] at hoc
  obtain ⟨ca, cc, rfl⟩ := own_slice hoc
  replace HR := Lib.hid (HR.out.below bq HR.out.lt)
  replace HB := Lib.hid (HB.out.trans (bq.mono HB.out.size))
  have HOC := Lib.hid (own_bsl hoc)
  refine hK _ _ HB.out ?_
  clear hK K hoc bq HC hcl
  try simp only [Act.put, List.setIfInBounds_toArray, List.set_cons_zero, List.set_cons_succ]
  have hrw := Rows_any ca 256 cc (List.replicate 16 0 ++ (trunkB t).drop 16) w3 HOC.out (HZ.out.step HB.out)
  rw [rows_tr HM.out] at hrw
  have HRW := Lib.hid hrw
  refine wpI_lone rfl (by kernel_rfl) (fun K hK => ?_)
  go_simp
  refine HRW.out.mono ?_
  rintro ev w4 ⟨vr, rfl, hpr, bq⟩
  have HPR0 := Lib.hid (show PRow w4 w3.heap.size vr (fillL (trunkR t)) from hpr)
  replace HR := Lib.hid (HR.out.below bq HR.out.lt)
  have HBS := Lib.hid HB.out.size
  replace HB := Lib.hid (HB.out.trans (bq.mono HB.out.size))
  refine hK _ _ HB.out ?_
  clear hK K bq hpr HRW hrw
  try simp only [Act.put, List.setIfInBounds_toArray, List.set_cons_zero, List.set_cons_succ]
  iterate 5 (
    refine wpI_read (v := ?_) HB.out rfl (by kernel_rfl) (by kernel_rfl) (by kernel_rfl) (fun _ _ _ h => h) (.inl ⟨by rfl, ?_⟩) ?_
    rotate_left
    · intro X hX
      clear hX
      go_simp
      with_reducible rfl
    try simp only [Act.put, List.setIfInBounds_toArray, List.set_cons_zero, List.set_cons_succ])
  refine wpI_done (by kernel_rfl) ?_
  have hfl : (fillL (trunkR t)).length = 16 := by simp [fillL]
  obtain ⟨gR, rc, hvr, hgR, hcap2, csR, hbR⟩ : ∃ gR rc, vr = .slice (some ⟨gR, 0, none⟩) 16 rc ∧ w3.heap.size ≤ gR ∧ 16 ≤ rc ∧ ∃ cs, Blk w4 gR 31 cs := by
    obtain ⟨⟨_, ⟨_, h0⟩ | ⟨g', cap, cur, e, h3, h4, h5, _⟩⟩, _⟩ := HPR0.out
    · rw [hfl] at h0; omega
    · rw [hfl] at e h5
      exact ⟨g', cap, e, h3, h5, _, h4⟩
  subst hvr
  have hpts : Pts w4 w4.heap.size (some ⟨gR, 0, none⟩) 16 rc (fillL (trunkR t)) := by
    have := HPR0.out
    obtain ⟨a', c', e, hp'⟩ := this.pts
    rw [hfl] at e hp'
    cases e
    exact hp'
  have HPT := Lib.hid hpts
  have HBR := Lib.hid hbR
  have HGRR := Lib.hid (Nat.le_trans HBS.out hgR)
  have HRC := Lib.hid hcap2
  clear hpts hbR hgR hcap2 hfl HPR0 HOC HN HW
  have HSZ := Lib.hid (txTrunkSizes_any w4)
  go_wp2_with fail
  refine HSZ.out.mono ?_
  rintro e w5 ⟨gs, rfl, _, hns, b5⟩
  replace HR := Lib.hid (HR.out.below b5 HR.out.lt)
  replace HB := Lib.hid (HB.out.trans (b5.mono HB.out.size))
  replace HPT := Lib.hid (HPT.out.step b5)
  replace HBR := Lib.hid (HBR.out.below b5 HBR.out.lt)
  have HGE := Lib.hid (txGet_any (some ⟨b_, of, none⟩) 256 c (trunkB t) (some ⟨gs, 0, none⟩) 4 4 trSz w5 (HBL.out.step HB.out) hns (by decide) (by decide) (by decide) (by decide))
  clear hns b5 HSZ
  go_wp2_with fail
  refine HGE.out.mono ?_
  rintro e w6 ⟨vn, rfl, hon, b6⟩
  replace HR := Lib.hid (HR.out.below b6 HR.out.lt)
  replace HB := Lib.hid (HB.out.trans (b6.mono HB.out.size))
  replace HPT := Lib.hid (HPT.out.step b6)
  replace HBR := Lib.hid (HBR.out.below b6 HBR.out.lt)
  obtain ⟨z0, hz0⟩ := nums_tr HM.out
  rw [hz0] at hon
  obtain ⟨gn, ncap, rfl, _, _, hnsl⟩ := nsl_of_own hon (by decide)
  have HNS := Lib.hid hnsl
  have k1 := hnsl.cell0 1 (by decide)
  have k2 := hnsl.cell0 2 (by decide)
  have k3 := hnsl.cell0 3 (by decide)
  simp only [List.getD_cons_succ, List.getD_cons_zero] at k1 k2 k3
  have m0 : (0 : Int) ≤ (t.many : Int) := by omega
  have m9 : (t.many : Int) ≤ 16 := by have := HM.out.many; omega
  have m8 : decide ((t.many : Int) > 16) = false := decide_eq_false (by omega)
  have m7 : decide ((16 : Int) < (t.many : Int)) = false := decide_eq_false (by omega)
  have m6 : decide (16 < t.many) = false := decide_eq_false (by omega)
  clear hnsl hon hz0 b6 HGE
  go_wp2_with fail
  clear k1 k2 k3
  obtain ⟨we, hwe⟩ : ∃ wd, w6.drew = wd := ⟨_, rfl⟩
  have bq : Below w6.heap.size w6 we := by rw [← hwe]; exact (Below.refl _ w6).drew
  replace HR := Lib.hid (HR.out.below bq HR.out.lt)
  have HB6 := Lib.hid (HB.out.trans (bq.mono HB.out.size))
  replace HPT := Lib.hid (HPT.out.step bq)
  replace HBR := Lib.hid (HBR.out.below bq HBR.out.lt)
  replace HNS := Lib.hid (HNS.out.step bq)
  have HB0 := Lib.hid (Below.refl we.heap.size we)
  have hwg : IntKind.u32.wrap (t.nextGuid : Int) = (t.nextGuid : Int) := by have := HM.out.guid; simp [IntKind.wrap, IntKind.bits, IntKind.signed]; omega
  refine wpI_start (Below we.heap.size we) [0, 1, 2, 3, 4, 5, 6, 7, 8, 9, 13, 14, 15, 10, 11, 12, 16, 17, 18] hmx rfl hwe ?_
  clear hwe bq
  iterate 13 (
    refine wpI_read (v := ?_) HB0.out rfl (by kernel_rfl) (by kernel_rfl) (by kernel_rfl) (fun _ _ _ h => h) (.inl ⟨by rfl, ?_⟩) ?_
    rotate_left
    · intro X hX
      have h1 := (HNS.out.below hX).cell0 1 (by decide)
      have h2 := (HNS.out.below hX).cell0 2 (by decide)
      simp only [List.getD_cons_succ, List.getD_cons_zero] at h1 h2
      obtain ⟨_, _, ea, _, _, p0_, p1_, p2_, p3_, p4_⟩ := (HPT.out.below hX).cells 5 (by decide)
      cases ea
      rw [fill_key HM.out] at p0_ p1_ p2_ p3_ p4_
      simp only [Nat.zero_add, Nat.reduceMul, Nat.reduceAdd] at p0_ p1_ p2_ p3_ p4_
      clear hX
      go_simp
      with_reducible rfl
    try simp only [Act.put, List.setIfInBounds_toArray, List.set_cons_zero, List.set_cons_succ])
  refine wpI_turn [10, 17, 11, 12, 16, 18] rfl ?_
  refine wpI_fork rfl rfl (by kernel_rfl) (fun K hK => ?_) (fun K hK => ?_)
  go_simp
  have hbo := txBlocksOf_any t.many (by have := HM.out.many; omega) we
  rw [HLS.out.2.2] at hbo
  have HC := Lib.hid hbo
  refine HC.out.mono ?_
  rintro ev v1 ⟨rfl, bz⟩
  have b9 : Below we.heap.size we v1 := by rw [bz]; exact Below.refl _ _
  clear bz
  replace HB0 := Lib.hid (HB0.out.trans (b9.mono HB0.out.size))
  refine hK _ _ HB0.out ?_
  clear hK K b9 HC hbo
  try simp only [Act.put, List.setIfInBounds_toArray, List.set_cons_zero, List.set_cons_succ]
  refine wpI_turn [11, 12, 16, 17, 18] rfl ?_
  iterate 3 (
    refine wpI_read (v := ?_) HB0.out rfl (by kernel_rfl) (by kernel_rfl) (by kernel_rfl) (fun _ _ _ h => h) (.inl ⟨by rfl, ?_⟩) ?_
    rotate_left
    · intro X hX
      have hsl := pslice_1 X gR 16 rc t.ls.length (by have := HLS.out; omega) (by have := HLS.out; have := HRC.out; omega)
      have ls0 : (0 : Int) ≤ (t.ls.length : Int) := by omega
      have ls9 : (t.ls.length : Int) ≤ 4 := by have := HLS.out; omega
      have hw1 : IntKind.i64.wrap (1 + (t.ls.length : Int)) = 1 + (t.ls.length : Int) := by simp [IntKind.wrap, IntKind.bits, IntKind.signed]; omega
      clear hX
      go_simp
      with_reducible rfl
    try simp only [Act.put, List.setIfInBounds_toArray, List.set_cons_zero, List.set_cons_succ])
  refine wpI_turn [17, 18] rfl ?_
  refine wpI_lone rfl (by kernel_rfl) (fun K hK => ?_)
  go_simp
  obtain ⟨v2, gE, hn, hg_, bq, xq⟩ := new_box v1 trZ 118
  have HLHE := Lib.hid (show we.heap.size ≤ gE from hg_ ▸ HB0.out.size)
  rw [hn, hg_]
  replace HB0 := Lib.hid (HB0.out.trans (bq.mono HB0.out.size))
  have HE := Lib.hid xq
  refine hK _ _ HB0.out ?_
  clear hK K hn hg_ xq bq
  try simp only [Act.put, List.setIfInBounds_toArray, List.set_cons_zero, List.set_cons_succ]
  rotate_left
  go_simp
  obtain ⟨v1, gE, hn, hg_, bq, xq⟩ := new_box we trZ 118
  have HLHE := Lib.hid (show we.heap.size ≤ gE from hg_ ▸ HB0.out.size)
  rw [hn, hg_]
  replace HB0 := Lib.hid (HB0.out.trans (bq.mono HB0.out.size))
  have HE := Lib.hid xq
  refine hK _ _ HB0.out ?_
  clear hK K hn hg_ xq bq
  try simp only [Act.put, List.setIfInBounds_toArray, List.set_cons_zero, List.set_cons_succ]
  refine wpI_turn [10, 11, 12, 16, 18] rfl ?_
  refine wpI_lone rfl (by kernel_rfl) (fun K hK => ?_)
  go_simp
  have hbo := txBlocksOf_any t.many (by have := HM.out.many; omega) v1
  rw [HLS.out.2.2] at hbo
  have HC := Lib.hid hbo
  refine HC.out.mono ?_
  rintro ev v2 ⟨rfl, bz⟩
  have b9 : Below v1.heap.size v1 v2 := by rw [bz]; exact Below.refl _ _
  clear bz
  replace HB0 := Lib.hid (HB0.out.trans (b9.mono HB0.out.size))
  replace HE := Lib.hid (HE.out.below b9 HE.out.lt)
  refine hK _ _ HB0.out ?_
  clear hK K b9 HC hbo
  try simp only [Act.put, List.setIfInBounds_toArray, List.set_cons_zero, List.set_cons_succ]
  refine wpI_turn [11, 12, 16, 18] rfl ?_
  iterate 3 (
    refine wpI_read (v := ?_) HB0.out rfl (by kernel_rfl) (by kernel_rfl) (by kernel_rfl) (fun _ _ _ h => h) (.inl ⟨by rfl, ?_⟩) ?_
    rotate_left
    · intro X hX
      have hsl := pslice_1 X gR 16 rc t.ls.length (by have := HLS.out; omega) (by have := HLS.out; have := HRC.out; omega)
      have ls0 : (0 : Int) ≤ (t.ls.length : Int) := by omega
      have ls9 : (t.ls.length : Int) ≤ 4 := by have := HLS.out; omega
      have hw1 : IntKind.i64.wrap (1 + (t.ls.length : Int)) = 1 + (t.ls.length : Int) := by simp [IntKind.wrap, IntKind.bits, IntKind.signed]; omega
      clear hX
      go_simp
      with_reducible rfl
    try simp only [Act.put, List.setIfInBounds_toArray, List.set_cons_zero, List.set_cons_succ])
  rotate_left
  all_goals (
    refine wpI_lone rfl (by kernel_rfl) (fun K hK => ?_)
    rw [if_pos (by simp [Region.wanted])]
    refine wp_store_row 118 (.tmp 8) (.tmp 47) rfl gE (trC (some ⟨gR, 5, none⟩) (rc - 1) t) rfl rfl 118 trZ HE.out infoTr rfl (by simp [trC, Value.oneCell']) ?_
    have hgz := setRow_only (g := gE) v2 (trC (some ⟨gR, 5, none⟩) (rc - 1) t)
    have hrr := Blk.setRow (cs := trC (some ⟨gR, 5, none⟩) (rc - 1) t) HE.out
    obtain ⟨w7, hw7⟩ : ∃ X, (v2).setRow gE (trC (some ⟨gR, 5, none⟩) (rc - 1) t) = X := ⟨_, rfl⟩
    rw [hw7] at hgz hrr ⊢
    replace HB0 := Lib.hid (below_only HB0.out HLHE.out hgz HB0.out.size)
    have HE7 := Lib.hid hrr
    refine hK _ _ HB0.out ?_
    clear hK K hw7 hrr hgz HE
    try simp only [Act.put]
    refine wpI_done (by kernel_rfl) ?_
    have HB7 := Lib.hid (HB6.out.trans (HB0.out.mono HB6.out.size))
    have HPT7 := Lib.hid (HPT.out.step HB0.out)
    have HBR7 := Lib.hid (HBR.out.below HB0.out HBR.out.lt)
    have HR7 := Lib.hid (HR.out.below HB0.out HR.out.lt)
    have HLW := Lib.hid (show Pts w7 w7.heap.size (some ⟨gR, 5, none⟩) t.ls.length (rc - 1) t.ls from by
      have := pts_win1 HPT7.out t.ls.length (by have := HLS.out; omega) (by have := HLS.out; omega)
      rw [fill_ls HM.out] at this
      exact this)
    have HBK := Lib.hid (txBlock_any (some ⟨gR, 5, none⟩) (rc - 1) t w7 HM.out HLW.out (HZ.out.step HB7.out))
    clear HB0 HPT HBR HR HNS HPT7 hwg m0 m6 m7 m8 m9
    go_wp2_with (with_reducible refine tx_at_load ?_
                 refine wpList_load_tr rfl (.tmp 8) rfl gE (some ⟨gR, 5, none⟩) (rc - 1) t rfl HE7.out ?_)
    refine HBK.out.mono ?_
    rintro e w8 ⟨vb, rfl, hob, b8⟩
    obtain ⟨ba, bc, rfl⟩ := own_slice hob
    have HB8 := Lib.hid (HB7.out.trans (b8.mono HB7.out.size))
    have HLW8 := Lib.hid (HLW.out.step b8)
    have HBR8 := Lib.hid (HBR7.out.below b8 HBR7.out.lt)
    have HR8 := Lib.hid (HR7.out.below b8 HR7.out.lt)
    have HE8 := Lib.hid (HE7.out.below b8 HE7.out.lt)
    have HEQ := Lib.hid (dEqual_any ba 256 bc (trunkB t) (some ⟨b_, of, none⟩) 256 c (trunkB t) w8.heap.size w.heap.size w8 (own_bsl hob) (HBL.out.below HB8.out) true ⟨fun _ => rfl, fun _ => rfl⟩)
    have HCN := Lib.hid (txContainsP_no (some ⟨gR, 5, none⟩) t.ls.length (rc - 1) t.ls p0 w8 HLW8.out (fun h => (HM.out.one _ h).2.2 rfl) (by have := HLS.out; omega))
    have e3 : w8.cell? ⟨gE, 3, none⟩ = some (.slice (some ⟨gR, 5, none⟩) t.ls.length (rc - 1)) := HE8.out.cell 3
    clear hob b8 HLW HBR7 HR7 HE7 HBK
    go_wp2_with fail
    refine HEQ.out.mono ?_
    rintro e w9 ⟨rfl, rfl⟩
    go_wp2_with fail
    refine HCN.out.mono ?_
    rintro e w9 ⟨rfl, b9⟩
    have HB9 := Lib.hid (HB8.out.trans (b9.mono HB8.out.size))
    have HLW9 := Lib.hid (HLW8.out.step b9)
    have HBR9 := Lib.hid (HBR8.out.below b9 HBR8.out.lt)
    have HR9 := Lib.hid (HR8.out.below b9 HR8.out.lt)
    have HE9 := Lib.hid (HE8.out.below b9 HE8.out.lt)
    have HTH := Lib.hid (txThere_any t.keys w9 true ⟨fun _ => HM.out.key.2.2, fun _ => rfl⟩)
    have e4 : w9.cell? ⟨gE, 4, none⟩ = some (.int .i64 t.keys.1) := HE9.out.cell 4
    have e5 : w9.cell? ⟨gE, 5, none⟩ = some (.int .u32 (t.keys.2.1 : Int)) := HE9.out.cell 5
    have e6 : w9.cell? ⟨gE, 6, none⟩ = some (.int .u32 (t.keys.2.2.1 : Int)) := HE9.out.cell 6
    have e7 : w9.cell? ⟨gE, 7, none⟩ = some (.int .u32 (t.keys.2.2.2.1 : Int)) := HE9.out.cell 7
    have e8 : w9.cell? ⟨gE, 8, none⟩ = some (.int .u32 (t.keys.2.2.2.2 : Int)) := HE9.out.cell 8
    clear b9 HCN HEQ e3 HLW8 HBR8 HR8 HE8
    go_wp2_with fail
    refine HTH.out.mono ?_
    rintro e wa ⟨rfl, ba_⟩
    have HBa := Lib.hid (HB9.out.trans (ba_.mono HB9.out.size))
    have HLWa := Lib.hid (HLW9.out.step ba_)
    have HBRa := Lib.hid (HBR9.out.below ba_ HBR9.out.lt)
    have HRa := Lib.hid (HR9.out.below ba_ HR9.out.lt)
    have HEa := Lib.hid (HE9.out.below ba_ HE9.out.lt)
    clear ba_ HTH e4 e5 e6 e7 e8 HLW9 HBR9 HR9 HE9
    go_wp2_with (first
      | (with_reducible refine tx_at_load ?_
         refine wpList_load_tr rfl (.tmp 8) rfl gE (some ⟨gR, 5, none⟩) (rc - 1) t rfl HEa.out ?_)
      | (with_reducible refine tx_at_store ?_
         refine wpList_store_tr rfl (.tmp 2) (.tmp 66) rfl gr (some ⟨gR, 5, none⟩) (rc - 1) t rfl rfl trZ HRa.out rfl ?_
         intro wz hrr_ hgz_
         have HRR := Lib.hid hrr_
         have HGZ := Lib.hid hgz_
         clear hrr_ hgz_))
    refine bodyPost_ret (v := .tuple #[trV (some ⟨gR, 5, none⟩) (rc - 1) t, .int .i64 0]) (by simp [results, Tryz.f151, asAddr, loadTr_run wz gr (some ⟨gR, 5, none⟩) (rc - 1) t HRR.out]) rfl ?_
    have hbz := below_only HBa.out HGR.out HGZ.out HBa.out.size
    have hbr := HBRa.out.grown HGZ.out (fun e => blk_ne HBRa.out HRa.out (by decide) (Option.some.inj e))
    exact ⟨gR, rc - 1, csR, rfl, pts_blk_step HLWa.out HBRa.out hbr, hbr, HGRR.out, by first | exact hbz | (rw [← HGRE.out]; exact hbz)⟩)
end Go.Proofs.YtafbidhbmfdlkaaGreatDoor
/-
  txg's own keysOf: a keys' block is read as it was laid.
-/
namespace Go.Proofs.YtafbidhbmfdlkaaGreatDoor
open Go Go.RowKit Go.Shelf
set_option maxRecDepth 100000
attribute [local go_sem] Oper.semAt_some

theorem BRowC.kept {w w' : World} {B : Nat} {v : Value} {bl : List (List UInt8)} {row : Option Nat} (h : BRowC w 0 B v bl) (hg : w.grownBy w' row) (hk : ∀ r, row = some r → ∃ o : Obj, w.heap[r]? = some o ∧ o.isCells = false) : BRowC w' 0 B v bl := by
  obtain ⟨xs, h1, h2⟩ := h
  refine ⟨xs, ?_, fun i hi => ?_⟩
  · obtain ⟨hl, ⟨rfl, h0⟩ | ⟨g, cap, cur, rfl, _⟩⟩ := id h1
    · exact ⟨hl, .inl ⟨rfl, h0⟩⟩
    · exact own_kept h1 hg hk
  · obtain ⟨A, c, e, q1, q2, q3, q4, q5⟩ := h2 i hi
    refine ⟨A, c, e, q1, q2, q3, q4, fun h0 => ?_⟩
    obtain ⟨b, off, ea, hlt, ho, hc⟩ := q5 h0
    obtain ⟨cs, hcs⟩ := ho.resolve_left (Nat.not_lt_zero _)
    have hb := blk_kept hcs hg hk
    refine ⟨b, off, ea, hb.lt, .inr ⟨cs, hb⟩, fun i hi => ?_⟩
    rw [← hc i hi, hb.cell, hcs.cell]
theorem kept_brow {C B : Nat} {w w' : World} {v : Value} {bl : List (List UInt8)} (h : BRowC w C B v bl) (hg : w.grownBy w' v.ownBlock) : KeepsOthers w w' := by
  obtain ⟨_, ⟨_, ⟨rfl, _⟩ | ⟨g, cap, cur, rfl, h3, h4, _⟩⟩, _⟩ := h
  · exact KeepsOthers.of_grownBy hg (fun j o e => by simp [Value.ownBlock] at e)
  · exact keepsOthers_grown (g := g) hg h4
theorem brow_lo {C B B' : Nat} {w : World} {v : Value} {bl : List (List UInt8)} (h : BRowC w C B v bl) (hB : B' ≤ B) : BRowC w C B' v bl := by
  obtain ⟨xs, h1, h2⟩ := h
  exact ⟨xs, own_mono h1 hB, h2⟩
theorem winK_length {s : List UInt8} (hs : s.length = 256) {j : Nat} (hj : j < 8) : (winK s j).length = 24 := by unfold winK; rw [List.length_take, List.length_drop]; omega
theorem keyRd_le {s : List UInt8} (h : s.length ≤ 24) : (keyRd s).length ≤ 24 := by
  unfold keyRd
  split
  · exact Nat.zero_le _
  · exact h
theorem keysTo_le (s : List UInt8) (n : Nat) : ∀ x ∈ keysTo s n, x.length ≤ 24 := fun x hx => by
  unfold keysTo at hx
  obtain ⟨i, _, rfl⟩ := List.mem_map.1 hx
  exact keyRd_le (by unfold winK; rw [List.length_take]; omega)
/-- What the loop keeps: the box of the keys read so far. -/
def KoI (s : List UInt8) (gk B : Nat) (w : World) (is : List Nat) (W : World) : Prop :=
  ∃ v, Blk W gk 22 #[v] ∧ BRowC W 0 B v (is.map fun i => keyRd (winK s i)) ∧ B ≤ W.heap.size ∧ Below w.heap.size w W
theorem koI_own (s : List UInt8) (gk B : Nat) (w : World) (hB : w.heap.size ≤ B) (q : Nat) : OwnFrom B (fun (pre : List (Fin q)) W => KoI s gk B w (pre.map (·.val)) W) := by
  rintro pre W W' row ⟨v, h1, h2, h3, h4⟩ hg hr
  refine ⟨v, blk_kept h1 hg (fun r e => (hr r e).2), h2.kept hg (fun r e => (hr r e).2), Nat.le_trans h3 hg.size, ?_⟩
  exact ⟨hg.os.trans h4.os, hg.tape.trans h4.tape, hg.output.trans h4.output, Nat.le_trans h4.size hg.size, fun k hk => (hg.block k (by have := h4.size; omega) (fun e => by have := (hr k e.symm).1; omega)).trans (h4.block k hk)⟩
/-- What keysOf answers: keys of the call's own. -/
def OutKs (ks : List (List UInt8)) (w : World) (e : Ending) (w' : World) : Prop :=
  ∃ v, e = .returned (.tuple #[v, .int .i64 0]) ∧ BRowC w' 0 w.heap.size v ks ∧ Below w.heap.size w w'
set_option maxHeartbeats 8000000 in
theorem txKeysOf_in (m : Nat) (hm3 : 3 ≤ m) (a : Option Addr) (c : Nat) (s : List UInt8) (w : World) (hb : Bsl w w.heap.size a 256 c s) (hs : keysB (keysTo s 8) = s) : CallsIn Fence.wide m Tryz.prog 153 #[.slice a 256 c] w (OutKs (keysTo s 8) w) := by
  have hro : Fence.wide.round = none := rfl
  have hmx : Tryz.prog.follows Departure.mixedOrders = true := by kernel_rfl
  have hd : 1 ≤ m := by omega
  obtain ⟨b, off, ea, hblt, hcell⟩ := hb.2.2.2.2 (by omega)
  subst ea
  have hcap := hb.2.1
  have hcm := hb.2.2.1
  have hsl : s.length = 256 := hb.1
  obtain ⟨w0, gk, hw0, hgk, b0, q0⟩ := new_blk w #[.slice none 0 0] 22
  have HK := Lib.hid q0
  have HB := Lib.hid b0
  have HGK := Lib.hid (show w.heap.size ≤ gk by omega)
  have HBS := Lib.hid hb
  have HS := Lib.hid hs
  have HSL := Lib.hid hsl
  have HCE := Lib.hid hcell
  have HBL := Lib.hid hblt
  have HCA := Lib.hid hcap
  have HCM := Lib.hid (show c ≤ 9223372036854775807 by unfold maxLen at hcm; omega)
  have hst := fun W => slice_to W (some ⟨b, off, none⟩) 256 c 192 (by omega)
  clear q0 b0 hb hs hcm hsl hcell hblt
  refine callsIn_of_wp_marks Tryz.func153 rfl trivial ?_ hro
  simp only [Tryz.ntmps153, List.size_toArray, List.length_cons, List.length_nil, Nat.reduceAdd, Nat.reduceSub, Array.replicate_succ, Array.replicate_zero, List.push_toArray, List.append_toArray, List.nil_append, List.cons_append]
  gi_wp2_with (refine ⟨trivial, ?_⟩; (gi_at_call 159; refine (chunk24_in Fence.wide (m - 1) trivial hro _ _ _ _).mono ?_; rintro e w' ⟨rfl, rfl⟩))
  try rw [hw0]
  try rw [hgk]
  obtain ⟨W0, hW0, bW, zW, v0, v1⟩ := two_al w0 #[.slice (some ⟨b, off, none⟩) 192 c] #[.int .i64 24] 26 3
  try rw [hW0]
  obtain ⟨gs, hgs⟩ : ∃ gs, w0.heap.size = gs := ⟨_, rfl⟩
  try rw [hgs]
  rw [hgs] at v0 v1
  obtain ⟨gn, hgn⟩ : ∃ gn, gs + 1 = gn := ⟨_, rfl⟩
  try rw [hgn]
  rw [hgn] at v1
  have hlt0 := v0.lt
  have hlt1 := v1.lt
  have hQ : ReachE gs gn (some ⟨b, off, none⟩) 8 c W0 := ⟨v0.cell 0, v1.cell 0⟩
  have hB0 := HB.out.trans (bW.mono HB.out.size)
  have hI0 : KoI s gk W0.heap.size w [] W0 := ⟨_, HK.out.below bW HK.out.lt, brow_nil _ _, Nat.le_refl _, hB0⟩
  have HZ0 := Lib.hid hB0.size
  have HGG := Lib.hid (show gs < W0.heap.size ∧ gn < W0.heap.size ∧ gk < W0.heap.size from ⟨hlt0, hlt1, Nat.lt_of_lt_of_le HK.out.lt bW.size⟩)
  have HGN := Lib.hid (show gs ≠ gk ∧ gn ≠ gk by have := HK.out.lt; omega)
  clear hW0 bW zW v0 v1 hgs hgn hw0 hgk hB0
  refine wpIn_rangeFunc_ownG hro hd (gf := 230) (lb := #[.pointer (some ⟨gs, 0, none⟩), .pointer (some ⟨gn, 0, none⟩)]) rfl trivial (enters_of Tryz.func230 (by kernel_rfl) rfl)
    (stopsE (m - 1) (by omega) gs gn b off 8 c (some ⟨b, off, none⟩) (fun _ => rfl) (by omega) HCM.out W0 hlt0 hlt1 hQ) (fun h k r => k (h r)) (fun W l o o' _ h ho _ => reachE_putObj l o o' h ho) (Below.refl _ _) (fun _ => rfl)
    (fun pre W => KoI s gk W0.heap.size w (pre.map (·.val)) W) (fun _ _ _ => False) ?hI ?hIx hI0
    (fun x => { tmps := #[.slice (some ⟨b, off, none⟩) 256 c, undef, .slice none 0 0, .int .i64 0, .pointer (some ⟨gk, 0, none⟩), .slice (some ⟨b, off + 24 * x.val, none⟩) 24 24, .slice (some ⟨b, off, none⟩) 256 c, .slice (some ⟨b, off, none⟩) 192 c,
      .func (.func 230) #[] #[.pointer (some ⟨gs, 0, none⟩), .pointer (some ⟨gn, 0, none⟩)], .slice (some ⟨b, off + 24 * x.val, none⟩) 24 24, undef, undef, undef, undef, undef, undef, undef, undef, undef, undef, undef, undef, undef], defers := [] }) ?assign ?body ?done ?stop
  case hI => exact koI_own s gk W0.heap.size w HZ0.out 8
  case hIx => intro c_ pre W W' row h; exact h.elim
  case stop => intro D_ c_ pre W _ _ h; exact h.elim
  case assign =>
    intro li xx W K hK
    gi_wp2
    exact hK
  case body =>
    rintro li pre xx W ⟨v, hkb, hbr, hbig, hbel⟩ hpl
    obtain ⟨j, hj⟩ : ∃ j, xx.val = j := ⟨_, rfl⟩
    have hj8 : j < 8 := by rw [← hj]; exact xx.isLt
    have hpm : (pre.map (·.val)).length = pre.length := List.length_map ..
    have hsn : (pre ++ [xx]).map (·.val) = pre.map (·.val) ++ [j] := by rw [List.map_append, List.map_cons, List.map_nil, hj]
    rw [hj]
    obtain ⟨is, his⟩ : ∃ is, pre.map (·.val) = is := ⟨_, rfl⟩
    rw [his] at hbr hpm hsn
    have HSN := Lib.hid hsn
    have hwl := winK_length HSL.out hj8
    have hbW : Bsl W W.heap.size (some ⟨b, off + 24 * j, none⟩) 24 24 (winK s j) := by
      refine ⟨hwl, Nat.le_refl _, by unfold maxLen; omega, fun e => (by cases e), fun _ => ⟨b, off + 24 * j, rfl, by have := HBL.out; have := HZ0.out; omega, fun i hi => ?_⟩⟩
      have hi' : 24 * j + i < s.length := by have := HSL.out; omega
      rw [Nat.add_assoc, hbel.cell (p := ⟨b, off + (24 * j + i), none⟩) HBL.out, HCE.out (24 * j + i) hi']
      simp [winK]
    have HNO := Lib.hid (txNought_any _ 24 24 (winK s j) W hbW)
    obtain ⟨wd, hwd⟩ : ∃ X, W.drew = X := ⟨_, rfl⟩
    have bd : Below W.heap.size W wd := by rw [← hwd]; exact (Below.refl _ W).drew
    have HKB := Lib.hid (hkb.below bd hkb.lt)
    have HBR := Lib.hid (hbr.below bd)
    have HBG := Lib.hid (Nat.le_trans hbig bd.size)
    have HBE := Lib.hid (hbel.trans (bd.mono hbel.size))
    have HBW := Lib.hid (hbW.step bd)
    have HKK := Lib.hid bd
    have HIL := Lib.hid (show is.length < 8 by omega)
    clear hkb hbr hbig hbel hbW bd hj hj8 hpm hsn his hQ hI0 hpl
    by_cases hz : isZ (winK s j) = true
    · have HKZ := Lib.hid (show keyRd (winK s j) = [] by unfold keyRd; rw [if_pos hz])
      rw [hz] at HNO
      have hd2 : 1 ≤ m - 1 - 1 := by omega
      gi_wp2
      refine ⟨trivial, ?_⟩
      refine (CallsIn.inRound li (callsIn_wide.2 HNO.out)).mono ?_
      rintro e W1 ⟨rfl, rfl⟩
      clear HNO
      gi_wp2
      have hS : Blk wd gk 22 #[v] := HKB.out
      have HCL := Lib.hid (dClone_any wd.heap.size none 0 0 [] wd (Nat.le_refl _) (bsl_nil _) (by omega))
      refine wpJ_round (fun X => Blk X gk 22 #[v]) [0, 1, 2, 3, 4, 5] hmx (by kernel_rfl) (fun h => by obtain ⟨_, _, h⟩ := h; exact h) rfl hwd ?_
      clear hwd
      iterate 2 (
        refine wpJ_read (v := ?_) hS rfl (by kernel_rfl) (by kernel_rfl) (by kernel_rfl) (fun _ _ _ h => h) (.inl ⟨by rfl, ?_⟩) ?_
        rotate_left
        · intro X hX
          have c0 := hX.cell 0
          clear hX
          go_simp
          with_reducible rfl
        try simp only [Act.put, List.setIfInBounds_toArray, List.set_cons_zero, List.set_cons_succ])
      clear hS
      refine wpJ_lone rfl (by kernel_rfl) (fun K hK => ?_)
      go_simp
      refine HCL.out.mono ?_
      rintro e w2 ⟨vl, rfl, hol, bq⟩
      obtain ⟨la, lc, rfl⟩ := own_slice hol
      replace HKB := Lib.hid (HKB.out.below bq HKB.out.lt)
      replace HBR := Lib.hid (HBR.out.below bq)
      replace HBG := Lib.hid (Nat.le_trans HBG.out bq.size)
      replace HBE := Lib.hid (HBE.out.trans (bq.mono HBE.out.size))
      replace HKK := Lib.hid (HKK.out.trans (bq.mono HKK.out.size))
      have HOL := Lib.hid (BslO.own hol 0)
      refine hK _ _ HKB.out ?_
      clear hK K hol bq HCL
      try simp only [Act.put, List.setIfInBounds_toArray, List.set_cons_zero, List.set_cons_succ]
      refine wpJ_lone rfl (by kernel_rfl) (fun K hK => ?_)
      go_simp
      obtain ⟨w3, gp, hn, hg_, bq, xq⟩ := new_blk w2 #[.slice la 0 lc] 26
      rw [hn, hg_]
      replace HKB := Lib.hid (HKB.out.below bq HKB.out.lt)
      replace HBR := Lib.hid (HBR.out.below bq)
      replace HBG := Lib.hid (Nat.le_trans HBG.out bq.size)
      replace HBE := Lib.hid (HBE.out.trans (bq.mono HBE.out.size))
      replace HKK := Lib.hid (HKK.out.trans (bq.mono HKK.out.size))
      replace HOL := Lib.hid (HOL.out.below bq)
      have HXP := Lib.hid xq
      refine hK _ _ HKB.out ?_
      clear hK K hn hg_ bq xq
      try simp only [Act.put, List.setIfInBounds_toArray, List.set_cons_zero, List.set_cons_succ]
      refine wpJ_lone rfl (by kernel_rfl) (fun K hK => ?_)
      rw [if_pos (by rfl)]
      refine wp_append_browC (C := 0) (.tmp 12) (.tmp 15) rfl W0.heap.size (Nat.zero_le _) v _ rfl HBR.out la lc (keyRd (winK s j)) gp rfl (by rw [HKZ.out]; exact HXP.out) (by rw [HKZ.out]; exact HOL.out) (by rw [List.length_map]; have := HIL.out; omega) HBG.out ?_
      intro v4 w4 hb4 hg4 hf4
      obtain ⟨a4, n4, cc4, rfl⟩ : ∃ a n c, v4 = .slice a n c := by
        obtain ⟨x1, x2, x3, _⟩ := hb4.bls
        exact ⟨x1, _, x2, x3⟩
      have hne : v.ownBlock ≠ some gk := fun e => by have := (hf4 gk e).1; have := HGG.out.2.2; omega
      have hk4 := HKB.out.grown hg4 (fun e => hne e.symm)
      have hko := kept_brow HBR.out hg4
      have hbe4 : Below w.heap.size w w4 := HBE.out.grown hg4 HBE.out.size (fun k e => by have := (hf4 k e).1; have := HZ0.out; omega)
      have hr4 : ReachE gs gn (some ⟨b, off, none⟩) 8 c W → ReachE gs gn (some ⟨b, off, none⟩) 8 c w4 := fun hr => by
        have l1 := World.block_lt_of_cell? W _ hr.1
        have l2 := World.block_lt_of_cell? W _ hr.2
        have z2 := HKK.out.size
        have n1 : some gs ≠ v.ownBlock := fun e => by have := (hf4 gs e.symm).1; have := HGG.out.1; omega
        have n2 : some gn ≠ v.ownBlock := fun e => by have := (hf4 gn e.symm).1; have := HGG.out.2.1; omega
        refine ⟨?_, ?_⟩
        · rw [World.cell?_of_block (a := ⟨gs, 0, none⟩) (hg4.block gs (by exact Nat.lt_of_lt_of_le l1 z2) n1), HKK.out.cell l1]
          exact hr.1
        · rw [World.cell?_of_block (a := ⟨gn, 0, none⟩) (hg4.block gn (by exact Nat.lt_of_lt_of_le l2 z2) n2), HKK.out.cell l2]
          exact hr.2
      have HK4 := Lib.hid ((kept_below HKK.out).trans hko)
      have HR4 := Lib.hid hr4
      have HBE4 := Lib.hid hbe4
      have HBG4 := Lib.hid (Nat.le_trans HBG.out hg4.size)
      have HB4 := Lib.hid hb4
      refine hK _ _ hk4 ?_
      have HKB4 := Lib.hid hk4
      clear hK K hb4 hg4 hf4 hne hk4 hko hbe4 hr4 HKB HBR HBG HBE HKK HOL HXP
      try simp only [Act.put, List.setIfInBounds_toArray, List.set_cons_zero, List.set_cons_succ]
      refine wpJ_last rfl (by kernel_rfl) (by kernel_rfl) (fun K hK => ?_)
      have c4 : w4.cell? ⟨gk, 0, none⟩ = some v := HKB4.out.cell 0
      have f4 : w4.frozen? ⟨gk, 0, none⟩ = false := HKB4.out.frozen 0
      go_simp
      have gs4 : w4.grownBy (w4.setCell ⟨gk, 0, none⟩ (.slice a4 n4 cc4)) (some gk) := only_setCell (World.grownBy.refl _ _) (.inl rfl) _
      have OX : KoI s gk W0.heap.size w (is ++ [j]) (w4.setCell ⟨gk, 0, none⟩ (.slice a4 n4 cc4)) := by
        refine ⟨(.slice a4 n4 cc4), HKB4.out.set_ 0 (.slice a4 n4 cc4), ?_, Nat.le_trans HBG4.out gs4.size, below_only HBE4.out HGK.out gs4 HBE4.out.size⟩
        rw [List.map_append, List.map_cons, List.map_nil]
        exact HB4.out.row gs4 (Nat.zero_le _) HKB4.out (by decide) (by decide)
      have OX := Lib.hid OX
      have HR5 := Lib.hid (show ReachE gs gn (some ⟨b, off, none⟩) 8 c W → ReachE gs gn (some ⟨b, off, none⟩) 8 c (w4.setCell ⟨gk, 0, none⟩ (.slice a4 n4 cc4)) from fun hr => by
        have h4 := HR4.out hr
        have hgg := HGN.out
        exact ⟨(World.cell?_setCell_other _ _ _ _ (fun e => by injection e; omega)).trans h4.1, (World.cell?_setCell_other _ _ _ _ (fun e => by injection e; omega)).trans h4.2⟩)
      have HK5 := Lib.hid (HK4.out.trans (KeepsOthers.setCell w4 ⟨gk, 0, none⟩ (.slice a4 n4 cc4)))
      clear gs4 HK4 HR4 HBE4 HBG4 HB4 HKB4
      refine hK _ _ ?_
      clear hK K c4 f4
      refine wpJ_done (by kernel_rfl) ?_
      gi_wp2_with fail
      exact ⟨HK5.out.from _, HR5.out, by dsimp only; rw [HSN.out]; exact OX.out⟩
    · have hz := Bool.eq_false_iff.2 hz
      have HKZ := Lib.hid (show keyRd (winK s j) = winK s j ∧ (winK s j).length = 24 from ⟨by unfold keyRd; rw [if_neg (by rw [hz]; exact Bool.false_ne_true)], hwl⟩)
      rw [hz] at HNO
      have hd2 : 1 ≤ m - 1 - 1 := by omega
      gi_wp2
      refine ⟨trivial, ?_⟩
      refine (CallsIn.inRound li (callsIn_wide.2 HNO.out)).mono ?_
      rintro e W1 ⟨rfl, rfl⟩
      clear HNO
      gi_wp2
      have hS : Blk wd gk 22 #[v] := HKB.out
      have HCL := Lib.hid (dClone_any wd.heap.size (some ⟨b, off + 24 * j, none⟩) 24 24 (winK s j) wd (Nat.le_refl _) HBW.out (by omega))
      refine wpJ_round (fun X => Blk X gk 22 #[v]) [0, 1, 2, 3, 4, 5] hmx (by kernel_rfl) (fun h => by obtain ⟨_, _, h⟩ := h; exact h) rfl hwd ?_
      clear hwd
      iterate 2 (
        refine wpJ_read (v := ?_) hS rfl (by kernel_rfl) (by kernel_rfl) (by kernel_rfl) (fun _ _ _ h => h) (.inl ⟨by rfl, ?_⟩) ?_
        rotate_left
        · intro X hX
          have c0 := hX.cell 0
          clear hX
          go_simp
          with_reducible rfl
        try simp only [Act.put, List.setIfInBounds_toArray, List.set_cons_zero, List.set_cons_succ])
      clear hS
      refine wpJ_lone rfl (by kernel_rfl) (fun K hK => ?_)
      go_simp
      refine HCL.out.mono ?_
      rintro e w2 ⟨vl, rfl, hol, bq⟩
      obtain ⟨la, lc, rfl⟩ := own_slice hol
      replace HKB := Lib.hid (HKB.out.below bq HKB.out.lt)
      replace HBR := Lib.hid (HBR.out.below bq)
      replace HBG := Lib.hid (Nat.le_trans HBG.out bq.size)
      replace HBE := Lib.hid (HBE.out.trans (bq.mono HBE.out.size))
      replace HKK := Lib.hid (HKK.out.trans (bq.mono HKK.out.size))
      have HOL := Lib.hid (BslO.own hol 0)
      refine hK _ _ HKB.out ?_
      clear hK K hol bq HCL
      try simp only [Act.put, List.setIfInBounds_toArray, List.set_cons_zero, List.set_cons_succ]
      refine wpJ_lone rfl (by kernel_rfl) (fun K hK => ?_)
      go_simp
      obtain ⟨w3, gp, hn, hg_, bq, xq⟩ := new_blk w2 #[.slice la 24 lc] 26
      rw [hn, hg_]
      replace HKB := Lib.hid (HKB.out.below bq HKB.out.lt)
      replace HBR := Lib.hid (HBR.out.below bq)
      replace HBG := Lib.hid (Nat.le_trans HBG.out bq.size)
      replace HBE := Lib.hid (HBE.out.trans (bq.mono HBE.out.size))
      replace HKK := Lib.hid (HKK.out.trans (bq.mono HKK.out.size))
      replace HOL := Lib.hid (HOL.out.below bq)
      have HXP := Lib.hid xq
      refine hK _ _ HKB.out ?_
      clear hK K hn hg_ bq xq
      try simp only [Act.put, List.setIfInBounds_toArray, List.set_cons_zero, List.set_cons_succ]
      refine wpJ_lone rfl (by kernel_rfl) (fun K hK => ?_)
      rw [if_pos (by rfl)]
      refine wp_append_browC (C := 0) (.tmp 12) (.tmp 15) rfl W0.heap.size (Nat.zero_le _) v _ rfl HBR.out la lc (keyRd (winK s j)) gp rfl (by rw [HKZ.out.1, HKZ.out.2]; exact HXP.out) (by rw [HKZ.out.1, HKZ.out.2]; exact HOL.out) (by rw [List.length_map]; have := HIL.out; omega) HBG.out ?_
      intro v4 w4 hb4 hg4 hf4
      obtain ⟨a4, n4, cc4, rfl⟩ : ∃ a n c, v4 = .slice a n c := by
        obtain ⟨x1, x2, x3, _⟩ := hb4.bls
        exact ⟨x1, _, x2, x3⟩
      have hne : v.ownBlock ≠ some gk := fun e => by have := (hf4 gk e).1; have := HGG.out.2.2; omega
      have hk4 := HKB.out.grown hg4 (fun e => hne e.symm)
      have hko := kept_brow HBR.out hg4
      have hbe4 : Below w.heap.size w w4 := HBE.out.grown hg4 HBE.out.size (fun k e => by have := (hf4 k e).1; have := HZ0.out; omega)
      have hr4 : ReachE gs gn (some ⟨b, off, none⟩) 8 c W → ReachE gs gn (some ⟨b, off, none⟩) 8 c w4 := fun hr => by
        have l1 := World.block_lt_of_cell? W _ hr.1
        have l2 := World.block_lt_of_cell? W _ hr.2
        have z2 := HKK.out.size
        have n1 : some gs ≠ v.ownBlock := fun e => by have := (hf4 gs e.symm).1; have := HGG.out.1; omega
        have n2 : some gn ≠ v.ownBlock := fun e => by have := (hf4 gn e.symm).1; have := HGG.out.2.1; omega
        refine ⟨?_, ?_⟩
        · rw [World.cell?_of_block (a := ⟨gs, 0, none⟩) (hg4.block gs (by exact Nat.lt_of_lt_of_le l1 z2) n1), HKK.out.cell l1]
          exact hr.1
        · rw [World.cell?_of_block (a := ⟨gn, 0, none⟩) (hg4.block gn (by exact Nat.lt_of_lt_of_le l2 z2) n2), HKK.out.cell l2]
          exact hr.2
      have HK4 := Lib.hid ((kept_below HKK.out).trans hko)
      have HR4 := Lib.hid hr4
      have HBE4 := Lib.hid hbe4
      have HBG4 := Lib.hid (Nat.le_trans HBG.out hg4.size)
      have HB4 := Lib.hid hb4
      refine hK _ _ hk4 ?_
      have HKB4 := Lib.hid hk4
      clear hK K hb4 hg4 hf4 hne hk4 hko hbe4 hr4 HKB HBR HBG HBE HKK HOL HXP
      try simp only [Act.put, List.setIfInBounds_toArray, List.set_cons_zero, List.set_cons_succ]
      refine wpJ_last rfl (by kernel_rfl) (by kernel_rfl) (fun K hK => ?_)
      have c4 : w4.cell? ⟨gk, 0, none⟩ = some v := HKB4.out.cell 0
      have f4 : w4.frozen? ⟨gk, 0, none⟩ = false := HKB4.out.frozen 0
      go_simp
      have gs4 : w4.grownBy (w4.setCell ⟨gk, 0, none⟩ (.slice a4 n4 cc4)) (some gk) := only_setCell (World.grownBy.refl _ _) (.inl rfl) _
      have OX : KoI s gk W0.heap.size w (is ++ [j]) (w4.setCell ⟨gk, 0, none⟩ (.slice a4 n4 cc4)) := by
        refine ⟨(.slice a4 n4 cc4), HKB4.out.set_ 0 (.slice a4 n4 cc4), ?_, Nat.le_trans HBG4.out gs4.size, below_only HBE4.out HGK.out gs4 HBE4.out.size⟩
        rw [List.map_append, List.map_cons, List.map_nil]
        exact HB4.out.row gs4 (Nat.zero_le _) HKB4.out (by decide) (by decide)
      have OX := Lib.hid OX
      have HR5 := Lib.hid (show ReachE gs gn (some ⟨b, off, none⟩) 8 c W → ReachE gs gn (some ⟨b, off, none⟩) 8 c (w4.setCell ⟨gk, 0, none⟩ (.slice a4 n4 cc4)) from fun hr => by
        have h4 := HR4.out hr
        have hgg := HGN.out
        exact ⟨(World.cell?_setCell_other _ _ _ _ (fun e => by injection e; omega)).trans h4.1, (World.cell?_setCell_other _ _ _ _ (fun e => by injection e; omega)).trans h4.2⟩)
      have HK5 := Lib.hid (HK4.out.trans (KeepsOthers.setCell w4 ⟨gk, 0, none⟩ (.slice a4 n4 cc4)))
      clear gs4 HK4 HR4 HBE4 HBG4 HB4 HKB4
      refine hK _ _ ?_
      clear hK K c4 f4
      refine wpJ_done (by kernel_rfl) ?_
      gi_wp2_with fail
      exact ⟨HK5.out.from _, HR5.out, by dsimp only; rw [HSN.out]; exact OX.out⟩
  case done =>
    rintro D_ ys W hD hC ⟨v, hkb, hbr, hbig, hbel⟩ hK
    have hC' : ys.map (·.val) = List.range 8 := hC
    rw [hC'] at hbr
    change BRowC W 0 W0.heap.size v (keysTo s 8) at hbr
    obtain ⟨ka, kc, rfl, hbls⟩ := hbr.bls
    rw [show (keysTo s 8).length = 8 from by simp [keysTo]] at hbls
    have HDD := Lib.hid hD
    have HDK := Lib.hid hK
    have HKB := Lib.hid hkb
    have HBR := Lib.hid hbr
    have HBG := Lib.hid hbig
    have HBE := Lib.hid hbel
    have hbx := hkb.cell 0
    have HKY := Lib.hid (txKeys_any ka kc (keysTo s 8) W hbls (keysTo_le s 8))
    clear hkb hbr hbig hbel hK hD hC hC' hbls hQ hI0
    gi_wp2
    refine ⟨trivial, ?_⟩
    refine (callsIn_wide.2 HKY.out).mono ?_
    rintro e va ⟨vl, rfl, hol, bq⟩
    rw [HS.out] at hol
    obtain ⟨la, lc, rfl⟩ := own_slice hol
    have HEQ := Lib.hid (dEqual_any la 256 lc s (some ⟨b, off, none⟩) 256 c s _ _ va (own_bsl hol) (HBS.out.step (HBE.out.trans (bq.mono HBE.out.size))) true (by simp))
    replace HDK := Lib.hid ((kept_below bq).2 D_ _ HDK.out rfl)
    replace HKB := Lib.hid (HKB.out.below bq HKB.out.lt)
    replace HBR := Lib.hid (HBR.out.below bq)
    replace HBG := Lib.hid (Nat.le_trans HBG.out bq.size)
    replace HBE := Lib.hid (HBE.out.trans (bq.mono HBE.out.size))
    have hbx := HKB.out.cell 0
    clear hol bq HKY
    gi_wp2
    refine ⟨trivial, ?_⟩
    refine (callsIn_wide.2 HEQ.out).mono ?_
    rintro e vb ⟨rfl, rfl⟩
    clear HEQ
    gi_wp2
    refine ⟨by simp, .inl ⟨_, _, rfl, run_takeDeferred HDK.out, ?_⟩⟩
    have gd := grownBy_putObj' va D_ (.deferred none)
    have hwk : ∀ r, some D_ = some r → ∃ o : Obj, va.heap[r]? = some o ∧ o.isCells = false := fun r e => by cases e; exact ⟨_, HDK.out, rfl⟩
    have hbr2 := brow_lo (HBR.out.kept gd hwk) HZ0.out
    have hbe2 : Below w.heap.size w _ := below_only HBE.out (by have := HDD.out; have := HZ0.out; omega) gd HBE.out.size
    refine ⟨_, by simp [results, Tryz.f153, go_sem], _, rfl, hbr2, hbe2⟩
theorem txKeysOf_ok (a : Option Addr) (c : Nat) (s : List UInt8) (w : World) (hb : Bsl w w.heap.size a 256 c s) (hs : keysB (keysTo s 8) = s) : Calls Tryz.prog 153 #[.slice a 256 c] w (OutKs (keysTo s 8) w) :=
  callsIn_wide.1 (txKeysOf_in 3 (Nat.le_refl _) a c s w hb hs)
end Go.Proofs.YtafbidhbmfdlkaaGreatDoor
/-
  txg's own linesOf of no lines.
-/
namespace Go.Proofs.YtafbidhbmfdlkaaGreatDoor
open Go Go.RowKit Go.Shelf
set_option maxRecDepth 100000
attribute [local go_sem] Oper.semAt_some

theorem chunk48_in (F : Fence) (n : Nat) (h : F.fn 159) (hro : F.round = none) (a : Option Addr) (len cap : Nat) (w : World) :
    CallsIn F n Tryz.prog 159 #[.slice a len cap, .int .i64 48] w fun e w' => e = .returned (.func (.func 230) #[] #[.pointer (some ⟨w.heap.size, 0, none⟩), .pointer (some ⟨w.heap.size + 1, 0, none⟩)]) ∧
      w' = (w.alloc (.cells #[.slice a len cap] 26)).alloc (.cells #[.int .i64 48] 3) := by
  refine callsIn_of_wp Tryz.func159 rfl h ?_ hro
  simp only [Tryz.ntmps159, List.size_toArray, List.length_cons, List.length_nil, Nat.reduceAdd, Nat.reduceSub, Array.replicate_succ, Array.replicate_zero, List.push_toArray, List.append_toArray, List.nil_append, List.cons_append]
  gi_wp2
  go_ret
  exact ⟨rfl, rfl⟩
theorem stopsB0 (m : Nat) (Bs Bn c : Nat) (a : Option Addr) (w : World) (hBs : Bs < w.heap.size) (hR : w.cell? ⟨Bs, 0, none⟩ = some (.slice a 0 c)) :
    SeqStopsK Fence.wide m Tryz.prog 230 #[.pointer (some ⟨Bs, 0, none⟩), .pointer (some ⟨Bn, 0, none⟩)] (fun _ : Fin 0 => #[undef]) (fun _ _ => True)
      (fun ys => ys = []) (fun _ => False) 0 w := fun l J Jx W hW hJ _ hY h0 => by
  refine callsIn_of_wp Tryz.func230 rfl trivial ?_ rfl
  simp only [Tryz.ntmps230, List.size_toArray, List.length_cons, List.length_nil, Nat.reduceAdd, Nat.reduceSub, Array.replicate_succ, Array.replicate_zero, List.push_toArray, List.append_toArray, List.nil_append, List.cons_append]
  have hb1 := (hW.cell (p := ⟨Bs, 0, none⟩) hBs).trans hR
  have HJ0 := Lib.hid h0
  clear hY hJ h0 hR
  gi_wp2
  gi_loopw [4] (fun i wr => i = .int .i64 0 ∧ W = wr) (fun _ _ => 0)
  case atStart => exact ⟨rfl, rfl⟩
  case round =>
    obtain ⟨rfl, rfl⟩ := hrel
    gi_wp2
    go_end0
    exact ⟨⟨_, rfl⟩, .inl ⟨[], rfl, HJ0.out⟩⟩
set_option maxHeartbeats 4000000 in
theorem txLinesOf_in (m : Nat) (hm3 : 3 ≤ m) (a : Option Addr) (c : Nat) (w : World) (hb : Bsl w w.heap.size a 256 c (linesB [])) :
    CallsIn Fence.wide m Tryz.prog 152 #[.slice a 256 c, .int .i64 0] w fun e w' => e = .returned (.tuple #[.slice none 0 0, .int .i64 0]) ∧ Below w.heap.size w w' := by
  have hro : Fence.wide.round = none := rfl
  have hd : 1 ≤ m := by omega
  have hcap := hb.2.1
  obtain ⟨b, off, ea, _, _⟩ := hb.2.2.2.2 (by omega)
  subst ea
  have hst : ∀ W : World, (Instr.slice 26 (.slice (some ⟨b, off, none⟩) 256 c) none (some (.int .i64 0)) none).run Tryz.prog W = .ok (.slice (some ⟨b, off, none⟩) 0 c) W := fun W => slice_to W (some ⟨b, off, none⟩) 256 c 0 (by omega)
  obtain ⟨w0, g4, hw0, hg4, b0, q0⟩ := new_blk w #[.slice none 0 0] 113
  obtain ⟨w1, g5, hw1, hg5, b1, q1⟩ := new_blk w0 #[.int .i64 0] 37
  obtain ⟨w2, g6, hw2, hg6, b2, q2⟩ := new_blk w1 #[.slice none 0 0] 113
  have b12 := b1.trans (b2.mono b1.size)
  have H4 := Lib.hid (q0.below b12 q0.lt)
  have H5 := Lib.hid (q1.below b2 q1.lt)
  have H6 := Lib.hid q2
  have HB := Lib.hid (b0.trans (b12.mono b0.size))
  have HBS := Lib.hid hb
  have HG := Lib.hid (show w.heap.size ≤ g4 ∧ w.heap.size ≤ g5 ∧ w.heap.size ≤ g6 ∧ g4 ≠ g5 by have := b0.size; have := b1.size; have := q0.lt; omega)
  clear q0 q1 q2 b12 b0 b1 b2 hb
  refine callsIn_of_wp_marks Tryz.func152 rfl trivial ?_ hro
  simp only [Tryz.ntmps152, List.size_toArray, List.length_cons, List.length_nil, Nat.reduceAdd, Nat.reduceSub, Array.replicate_succ, Array.replicate_zero, List.push_toArray, List.append_toArray, List.nil_append, List.cons_append]
  gi_wp2_with (refine ⟨trivial, ?_⟩; (gi_at_call 159; refine (chunk48_in Fence.wide (m - 1) trivial hro _ _ _ _).mono ?_; rintro e w' ⟨rfl, rfl⟩))
  try rw [hw0]
  try rw [hg4]
  try rw [hw1]
  try rw [hg5]
  try rw [hw2]
  try rw [hg6]
  obtain ⟨W0, hW0, bW, zW, v0, v1⟩ := two_al w2 #[.slice (some ⟨b, off, none⟩) 0 c] #[.int .i64 48] 26 3
  try rw [hW0]
  obtain ⟨gs, hgs⟩ : ∃ gs, w2.heap.size = gs := ⟨_, rfl⟩
  try rw [hgs]
  rw [hgs] at v0 v1
  obtain ⟨gn, hgn⟩ : ∃ gn, gs + 1 = gn := ⟨_, rfl⟩
  try rw [hgn]
  replace H4 := Lib.hid (H4.out.below bW H4.out.lt)
  replace H5 := Lib.hid (H5.out.below bW H5.out.lt)
  replace H6 := Lib.hid (H6.out.below bW H6.out.lt)
  replace HB := Lib.hid (HB.out.trans (bW.mono HB.out.size))
  have hgsl := v0.lt
  have hgsc := v0.cell 0
  clear hW0 bW zW v0 v1 hgs hgn hw0 hw1 hw2 hg4 hg5 hg6
  refine wpIn_rangeFunc_ownG hro hd (gf := 230) (lb := #[.pointer (some ⟨gs, 0, none⟩), .pointer (some ⟨gn, 0, none⟩)]) rfl trivial (enters_of Tryz.func230 (by kernel_rfl) rfl) (stopsB0 (m - 1) gs gn c (some ⟨b, off, none⟩) W0 hgsl hgsc) (fun _ _ => trivial) (fun _ _ _ _ _ _ _ _ => trivial) (Below.refl _ _) (fun x_ => x_.elim0)
    (fun _ W => Below W0.heap.size W0 W) (fun _ _ _ => False) ?hI ?hIx (Below.refl _ _) (fun x_ => x_.elim0) ?assign ?body ?done ?stop
  case hI => exact fun _ W W' row h hgr hk => ⟨hgr.os.trans h.os, hgr.tape.trans h.tape, hgr.output.trans h.output, Nat.le_trans h.size hgr.size, fun k_ hk2 => (hgr.block k_ (by have := h.size; omega) (fun e => by have := (hk k_ e.symm).1; omega)).trans (h.block k_ hk2)⟩
  case hIx => intro c_ pre W W' row h; exact h.elim
  case assign => intro li x_; exact x_.elim0
  case body => intro li pre x_; exact x_.elim0
  case stop => intro D_ c_ pre W _ h; exact h.elim
  case done =>
    intro D_ ys W hD hC hI hK
    replace H4 := Lib.hid (H4.out.below hI H4.out.lt)
    replace H5 := Lib.hid (H5.out.below hI H5.out.lt)
    replace H6 := Lib.hid (H6.out.below hI H6.out.lt)
    have HDD := Lib.hid (show w.heap.size ≤ D_ from Nat.le_trans HB.out.size hD)
    replace HB := Lib.hid (HB.out.trans (hI.mono HB.out.size))
    have HDK := Lib.hid hK
    clear hI hK hC hgsl hgsc
    have c6 := H6.out.cell 0
    have HLN := Lib.hid (txLinesNil_any none 0 W)
    gi_wp2
    refine ⟨trivial, ?_⟩
    refine (callsIn_wide.2 HLN.out).mono ?_
    rintro ev va ⟨vl, rfl, hol, bq⟩
    obtain ⟨la, lc, rfl⟩ := own_slice hol
    replace H4 := Lib.hid (H4.out.below bq H4.out.lt)
    replace H5 := Lib.hid (H5.out.below bq H5.out.lt)
    replace H6 := Lib.hid (H6.out.below bq H6.out.lt)
    replace HB := Lib.hid (HB.out.trans (bq.mono HB.out.size))
    replace HDK := Lib.hid ((kept_below bq).2 D_ _ HDK.out rfl)
    have HEQ := Lib.hid (dEqual_any la 256 lc (linesB []) (some ⟨b, off, none⟩) 256 c (linesB []) _ _ va (own_bsl hol) (HBS.out.step HB.out) true (by simp))
    clear hol bq HLN c6
    gi_wp2
    refine ⟨trivial, ?_⟩
    refine (callsIn_wide.2 HEQ.out).mono ?_
    rintro e vb ⟨rfl, rfl⟩
    clear HEQ
    have c6 : va.cell? ⟨g6, 0, none⟩ = some (.slice none 0 0) := H6.out.cell 0
    have c4 : va.cell? ⟨g4, 0, none⟩ = some (.slice none 0 0) := H4.out.cell 0
    have f4 : va.frozen? ⟨g4, 0, none⟩ = false := H4.out.frozen 0
    have y5 : Blk (va.setCell ⟨g4, 0, none⟩ (.slice none 0 0)) g5 37 #[.int .i64 0] := H5.out.far (by have := HG.out; show g5 ≠ g4; omega) _
    have c5 : (va.setCell ⟨g4, 0, none⟩ (.slice none 0 0)).cell? ⟨g5, 0, none⟩ = some (.int .i64 0) := y5.cell 0
    have f5 : (va.setCell ⟨g4, 0, none⟩ (.slice none 0 0)).frozen? ⟨g5, 0, none⟩ = false := y5.frozen 0
    gi_wp2
    obtain ⟨W7, hW7⟩ : ∃ W7, (va.setCell ⟨g4, 0, none⟩ (.slice none 0 0)).setCell ⟨g5, 0, none⟩ (.int .i64 0) = W7 := ⟨_, rfl⟩
    have x0 : Blk W7 g4 113 #[.slice none 0 0] := by rw [← hW7]; exact (H4.out.set_ 0 _).far (by have := HG.out; show g4 ≠ g5; omega) _
    have x1 : Blk W7 g5 37 #[.int .i64 0] := by rw [← hW7]; exact (H5.out.far (by have := HG.out; show g5 ≠ g4; omega) _).set_ 0 (.int .i64 0)
    have hb7 : Below w.heap.size w W7 := by rw [← hW7]; exact (HB.out.setCell (p := ⟨g4, 0, none⟩) HG.out.1 _).setCell (p := ⟨g5, 0, none⟩) HG.out.2.1 _
    have hk7 : KeepsOthers va W7 := by rw [← hW7]; exact (KeepsOthers.setCell va _ _).trans (KeepsOthers.setCell _ _ _)
    rw [hW7]
    have HDK7 := Lib.hid (hk7.2 D_ _ HDK.out rfl)
    refine ⟨by simp, .inl ⟨_, _, rfl, run_takeDeferred HDK7.out, ?_⟩⟩
    have gd := grownBy_putObj' W7 D_ (.deferred none)
    have hwk : ∀ r, some D_ = some r → ∃ o : Obj, W7.heap[r]? = some o ∧ o.isCells = false := fun r e => by cases e; exact ⟨_, HDK7.out, rfl⟩
    have z0 := blk_kept x0 gd hwk
    have z1 := blk_kept x1 gd hwk
    have e0 := z0.cell 0
    have e1 := z1.cell 0
    exact ⟨.tuple #[.slice none 0 0, .int .i64 0], by simp [results, Tryz.f152, go_sem, e0, e1], rfl, below_only hb7 HDD.out gd hb7.size⟩
theorem txLinesOf_ok (a : Option Addr) (c : Nat) (w : World) (hb : Bsl w w.heap.size a 256 c (linesB [])) :
    Calls Tryz.prog 152 #[.slice a 256 c, .int .i64 0] w fun e w' => e = .returned (.tuple #[.slice none 0 0, .int .i64 0]) ∧ Below w.heap.size w w' :=
  callsIn_wide.1 (txLinesOf_in 3 (Nat.le_refl _) a c w hb)
end Go.Proofs.YtafbidhbmfdlkaaGreatDoor
