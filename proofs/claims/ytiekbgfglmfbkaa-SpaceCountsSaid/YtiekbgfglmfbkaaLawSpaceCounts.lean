/-
  SpaceCountsSaid: for any bytes and any block's number (where they are no table that may be, or more than 10,000, the law itself answers what its example answers) what is counted adds up behind Free, Take, Give and Settle. No condition.
-/
import Derived.Test.YtiekbgfglmfbkaaRows
import Derived.Test.YtiekbgfglmfbkaaLawSpaceB
import Derived.Test.YtiekbgfglmfbkaaMovI
namespace Go.Proofs.Ytiekbgfglmfbkaa
open Go.RowKit Go.Shelf
set_option maxRecDepth 100000

theorem eq3_yes (x y z : Int) (w : World) : (Op.equalIn 10000 47 (.agg #[.int .i64 x, .int .i64 y, .int .i64 z]) (.agg #[.int .i64 x, .int .i64 y, .int .i64 z])).run Try.prog w = .ok true w := by
  have hu : Try.prog.underlying 47 = some (.array 3 3) := by kernel_rfl
  have hz : ∀ w : World, (Go.sizeOf 3).run Try.prog w = .ok 1 w := fun w => by kernel_rfl
  have hp : ∀ (cs : Array Value) (i : Nat) (v : Value) (_ : cs[i]? = some v) (w : World), (part 3 cs i).run Try.prog w = .ok v w := fun cs i v h w => run_part_plain w (by kernel_rfl) h
  have h0 : ∀ (v : Int) (w : World), (Op.equalIn 9999 3 (.int .i64 v) (.int .i64 v)).run Try.prog w = .ok true w := fun v w => by rw [run_equalIn_int w 9998 3 .i64 .i64 _ _ Try.underlying3]; simp
  unfold Op.equalIn
  simp only [Sem.run_bind, run_underlying hu, Result.andThen_ok, hz]
  rw [Std.Legacy.Range.forIn_eq_forIn_range']
  have hr : List.range' (0 : Nat) 3 1 = [0, 1, 2] := rfl
  simp only [Std.Legacy.Range.size, Nat.sub_zero, Nat.add_sub_cancel, Nat.div_one, hr, List.forIn_cons, List.forIn_nil, Sem.run_bind]
  rw [hp _ _ (.int .i64 x) rfl, Result.andThen_ok, hp _ _ (.int .i64 x) rfl, Result.andThen_ok, h0, Result.andThen_ok]
  simp only [Bool.not_true, Bool.false_eq_true, if_false, Sem.run_pure, Result.andThen_ok, Sem.run_bind]
  rw [hp _ _ (.int .i64 y) rfl, Result.andThen_ok, hp _ _ (.int .i64 y) rfl, Result.andThen_ok, h0, Result.andThen_ok]
  simp only [Bool.not_true, Bool.false_eq_true, if_false, Sem.run_pure, Result.andThen_ok, Sem.run_bind]
  rw [hp _ _ (.int .i64 z) rfl, Result.andThen_ok, hp _ _ (.int .i64 z) rfl, Result.andThen_ok, h0, Result.andThen_ok]
  simp
theorem counted_at (a : Option Addr) (n c : Nat) (s : List UInt8) (w : World) (hA : Bsl w w.heap.size a n c s) (h : MayT s) (x y z : Int) (hx : ((cntTo s 0 256 : Nat) : Int) = x) (hy : ((cntTo s 1 256 : Nat) : Int) = y) (hz : ((cntTo s 2 256 : Nat) : Int) = z) :
    Calls Try.prog 23 #[.slice a n c] w fun e w' => e = .returned (.agg #[.int .i64 x, .int .i64 y, .int .i64 z]) ∧ Below w.heap.size w w' := by
  have := counted_any a n c s w hA h
  rw [cntV, hx, hy, hz] at this
  exact this
theorem cnt_settled {s z : List UInt8} : ∀ {n : Nat}, (∀ i, i < n → mkT z i = if mkT s i = 2 then 0 else mkT s i) → cntTo z 0 n = cntTo s 0 n + cntTo s 2 n ∧ cntTo z 1 n = cntTo s 1 n ∧ cntTo z 2 n = 0
  | 0, _ => ⟨rfl, rfl, rfl⟩
  | n + 1, h => by
    obtain ⟨h0, h1, h2⟩ := cnt_settled (s := s) (z := z) (n := n) fun i hi => h i (by omega)
    have hn := h n (by omega)
    simp only [cntTo]
    rw [hn, h0, h1, h2]
    by_cases e : mkT s n = 2
    · rw [if_pos e, e]; simp; omega
    · rw [if_neg e, if_neg e]; simp; omega
theorem spaceCounts_far (a : Option Addr) (n c : Nat) (k : Int) (w : World) (hn : (n : Int) ≤ 9223372036854775807) (h : (10000 : Int) < n) :
    Calls Try.prog 6 #[.slice a n c, .int .i64 k] w fun e w' => e = .returned (.bool true) ∧ Below w.heap.size w w' := by
  have i1 : (0 : Int) ≤ n := by omega
  go_enter Try.func6, Try.ntmps6
  go_wp2_with fail
  refine (spAlive_any w).mono ?_
  rintro e w1 ⟨rfl, b1⟩
  go_wp2_with fail
  go_ret
  exact ⟨rfl, b1⟩
theorem spaceCounts_not (a : Option Addr) (n c : Nat) (s : List UInt8) (k : Int) (w : World) (hn : (n : Int) ≤ 10000) (hA : Bsl w w.heap.size a n c s) (h : ¬ MayT s) :
    Calls Try.prog 6 #[.slice a n c, .int .i64 k] w fun e w' => e = .returned (.bool true) ∧ Below w.heap.size w w' := by
  have i1 : (0 : Int) ≤ n := by omega
  have HA := Lib.hid hA
  have HM := Lib.hid h
  clear hA h
  go_enter Try.func6, Try.ntmps6
  go_wp2_with fail
  refine (spAlive_any w).mono ?_
  rintro e w1 ⟨rfl, b1⟩
  have HC := Lib.hid (spCheck_no a n c _ s w1 (HA.out.step b1) HM.out)
  have HB := Lib.hid b1
  clear b1
  go_wp2_with fail
  refine HC.out.mono ?_
  rintro e w2 ⟨rfl, rfl⟩
  go_wp2_with fail
  go_ret
  exact ⟨rfl, HB.out⟩
set_option maxHeartbeats 16000000 in
theorem spaceCounts_may (a : Option Addr) (n c : Nat) (s : List UInt8) (q : Int) (w : World) (hA : Bsl w w.heap.size a n c s) (h : MayT s) :
    Calls Try.prog 6 #[.slice a n c, .int .i64 q] w fun e w' => e = .returned (.bool true) ∧ Below w.heap.size w w' := by
  have hmx : Try.prog.follows Departure.mixedOrders = true := by kernel_rfl
  have hn := h.len_of hA
  subst hn
  obtain ⟨c0, h0⟩ : ∃ x, cntTo s 0 256 = x := ⟨_, rfl⟩
  obtain ⟨c1, h1⟩ : ∃ x, cntTo s 1 256 = x := ⟨_, rfl⟩
  obtain ⟨c2, h2⟩ : ∃ x, cntTo s 2 256 = x := ⟨_, rfl⟩
  have hsum := cntTo_sum h.2.1
  rw [h0, h1, h2] at hsum
  have h12 : 12 ≤ c1 := by
    have e1 := cntTo_all (s := s) (m := 1) (n := 12) h.2.2
    have e2 := cntTo_mono s 1 (show 12 ≤ 256 by omega)
    omega
  have HS := Lib.hid hA
  have HM := Lib.hid h
  have H0 := Lib.hid h0
  have H1 := Lib.hid h1
  have H2 := Lib.hid h2
  have HSUM := Lib.hid hsum
  have x0 : (0 : Int) ≤ c0 := by omega
  have x1 : (c0 : Int) ≤ 256 := by omega
  have y0 : (12 : Int) ≤ c1 := by omega
  have y1 : (c1 : Int) ≤ 256 := by omega
  have z0 : (0 : Int) ≤ c2 := by omega
  have z1 : (c2 : Int) ≤ 256 := by omega
  have esum : ((c0 : Int) + c1 + c2 != 256) = false := by simp; omega
  have ec0 : ((c0 : Int) != c0) = false := by simp
  clear hA h h0 h1 h2 hsum h12
  go_enter Try.func6, Try.ntmps6
  go_wp2_with fail
  refine (spAlive_any w).mono ?_
  rintro e w1 ⟨rfl, b1⟩
  replace HS := Lib.hid (HS.out.step b1)
  have HE := Lib.hid b1
  clear b1
  have HC := Lib.hid (spCheck_yes a 256 c _ s w1 HS.out HM.out)
  go_wp2_with fail
  refine HC.out.mono ?_
  rintro e w2 ⟨rfl, rfl⟩
  have HC := Lib.hid (counted_at a 256 c s w1 HS.out HM.out c0 c1 c2 (by rw [H0.out]) (by rw [H1.out]) (by rw [H2.out]))
  go_wp2_with fail
  refine HC.out.mono ?_
  rintro e w2 ⟨rfl, bb⟩
  replace HS := Lib.hid (HS.out.step bb)
  replace HE := Lib.hid (HE.out.trans (bb.mono HE.out.size))
  clear bb HC
  go_wp2_with fail
  have HN := Lib.hid (Blk.new w2 47 #[.int .i64 (c0 : Int), .int .i64 (c1 : Int), .int .i64 (c2 : Int)])
  have bb := (Below.refl w2.heap.size w2).alloc (Nat.le_refl _) (.cells #[.int .i64 (c0 : Int), .int .i64 (c1 : Int), .int .i64 (c2 : Int)] 47)
  obtain ⟨w3, hw3⟩ : ∃ w3, w2.alloc (.cells #[.int .i64 (c0 : Int), .int .i64 (c1 : Int), .int .i64 (c2 : Int)] 47) = w3 := ⟨_, rfl⟩
  rw [hw3] at HN bb ⊢
  obtain ⟨gn, hgn⟩ : ∃ g, w2.heap.size = g := ⟨_, rfl⟩
  replace HS := Lib.hid (HS.out.step bb)
  replace HE := Lib.hid (HE.out.trans (bb.mono HE.out.size))
  rw [hgn] at HN ⊢
  clear bb hw3 hgn
  refine (spFree_ok a 256 c s w3 HS.out HM.out).mono ?_
  rintro e w4 ⟨v, rfl, ho, bb⟩
  rw [freeTo_length, H0.out] at ho
  obtain ⟨al, cl, rfl⟩ := ownN_slice ho
  replace HS := Lib.hid (HS.out.step bb)
  replace HN := Lib.hid (HN.out.below bb HN.out.lt)
  replace HE := Lib.hid (HE.out.trans (bb.mono HE.out.size))
  clear bb ho
  have d0 := HN.out.cell 0
  have d1 := HN.out.cell 1
  have d2 := HN.out.cell 2
  go_wp2_with fail
  clear d0 d1 d2 esum ec0
  rcases first_free (s := s) with ⟨k, hk, hz, hbf⟩ | hnf
  · have hl : k < s.length := by rw [HM.out.1]; exact hk
    have m0 := cntTo_set s k 1 hl 0 256
    have m1 := cntTo_set s k 1 hl 1 256
    have m2 := cntTo_set s k 1 hl 2 256
    have e2 : (1 : UInt8).toNat = 1 := rfl
    rw [hz, e2] at m0 m1 m2
    simp only [hk, true_and, H0.out, H1.out, H2.out] at m0 m1 m2
    simp at m0 m1 m2
    have hpos : 0 < c0 := by have := cntTo_pos hk hz; rw [H0.out] at this; exact this
    have hpi : (0 : Int) < c0 := by omega
    have K0 := Lib.hid (show ((cntTo (s.set k 1) 0 256 : Nat) : Int) = (c0 : Int) - 1 by omega)
    have K1 := Lib.hid (show ((cntTo (s.set k 1) 1 256 : Nat) : Int) = (c1 : Int) + 1 by omega)
    have K2 := Lib.hid (show ((cntTo (s.set k 1) 2 256 : Nat) : Int) = (c2 : Int) by omega)
    have HMT := Lib.hid (set_may HM.out (HM.out.free_ge (by omega)) hk 1 (by decide))
    have hl2 : (s.set k 1).length = 256 := by simp [HM.out.1]
    refine (spTake_ok a 256 c s k w4 HS.out HM.out hk hz hbf).mono ?_
    rintro e w5 ⟨v, rfl, ho, bb⟩
    replace HS := Lib.hid (HS.out.step bb)
    replace HN := Lib.hid (HN.out.below bb HN.out.lt)
    replace HE := Lib.hid (HE.out.trans (bb.mono HE.out.size))
    rw [hl2] at ho
    obtain ⟨at', ct, rfl⟩ := own_slice ho
    have HT := Lib.hid ho
    clear bb ho m0 m1 m2 hz hbf hl hl2 e2 hk
    go_wp2_with fail
    obtain ⟨wd, hwd⟩ : ∃ wd, w5.drew = wd := ⟨_, rfl⟩
    have bb : Below w5.heap.size w5 wd := by rw [← hwd]; exact (Below.refl _ w5).drew
    replace HT := Lib.hid (own_below HT.out bb)
    replace HS := Lib.hid (HS.out.step bb)
    replace HN := Lib.hid (HN.out.below bb HN.out.lt)
    replace HE := Lib.hid (HE.out.trans (bb.mono HE.out.size))
    clear bb
    have C0 := fun X (hX : Below wd.heap.size wd X) => (HN.out.below hX HN.out.lt).cell 0
    have C1 := fun X (hX : Below wd.heap.size wd X) => (HN.out.below hX HN.out.lt).cell 1
    have C2 := fun X (hX : Below wd.heap.size wd X) => (HN.out.below hX HN.out.lt).cell 2
    have hbd := Below.refl wd.heap.size wd
    have hq := fun X => eq3_yes ((c0 : Int) - 1) ((c1 : Int) + 1) (c2 : Int) X
    have hww : IntKind.i64.wrap ((c0 : Int) - 1) = (c0 : Int) - 1 := IntWalk.i64_in _ (by omega)
    have hwv : IntKind.i64.wrap ((c1 : Int) + 1) = (c1 : Int) + 1 := IntWalk.i64_in _ (by omega)
    refine wpI_start (Below wd.heap.size wd) [0, 1, 2, 3, 4, 5, 6, 7, 8, 9, 10, 12, 13, 14, 15, 16, 17, 18, 19, 20, 11, 21, 22, 23] hmx rfl hwd ?_
    clear hwd
    iterate 20 (
      refine wpI_read (v := ?_) hbd rfl (by kernel_rfl) (by kernel_rfl) (by kernel_rfl) (fun _ _ _ h => h) (.inl ⟨by rfl, ?_⟩) ?_
      rotate_left
      · intro X hX
        have hXa := C0 X hX
        have hXb := C1 X hX
        have hXc := C2 X hX
        clear hX
        go_simp
        with_reducible rfl
      try simp only [Act.put, List.setIfInBounds_toArray, List.set_cons_zero, List.set_cons_succ])
    refine wpI_lone rfl (by kernel_rfl) (fun K hK => ?_)
    go_simp
    refine (counted_at _ _ _ (s.set k 1) wd (own_bsl HT.out) HMT.out ((c0 : Int) - 1) ((c1 : Int) + 1) (c2) K0.out K1.out K2.out).mono ?_
    rintro e we ⟨rfl, bb⟩
    refine hK _ _ bb ?_
    clear hK K
    try simp only [Act.put, List.setIfInBounds_toArray, List.set_cons_zero, List.set_cons_succ]
    clear hbd
    have hbd : Below wd.heap.size wd we := bb
    clear bb
    iterate 3 (
      refine wpI_read (v := ?_) hbd rfl (by kernel_rfl) (by kernel_rfl) (by kernel_rfl) (fun _ _ _ h => h) (.inl ⟨by rfl, ?_⟩) ?_
      rotate_left
      · intro X hX
        have hXa := C0 X hX
        have hXb := C1 X hX
        have hXc := C2 X hX
        clear hX
        go_simp
        with_reducible rfl
      try simp only [Act.put, List.setIfInBounds_toArray, List.set_cons_zero, List.set_cons_succ])
    refine wpI_done (by kernel_rfl) ?_
    replace HS := Lib.hid (HS.out.step hbd)
    replace HN := Lib.hid (HN.out.below hbd HN.out.lt)
    replace HE := Lib.hid (HE.out.trans (hbd.mono HE.out.size))
    clear hbd C0 C1 C2
    clear hq hww hwv HT HMT K0 K1 K2 hpos hpi
    go_wp2_with fail
    by_cases hkk : q < 12 ∨ 256 ≤ q
    · have hgv := spGive_arg a 256 c _ s q hkk we HS.out HM.out
      clear hkk
      refine hgv.mono ?_
      rintro e w6 ⟨v, rfl, ho, bb⟩
      replace HS := Lib.hid (HS.out.step bb)
      replace HN := Lib.hid (HN.out.below bb HN.out.lt)
      replace HE := Lib.hid (HE.out.trans (bb.mono HE.out.size))
      obtain ⟨ag, cg, rfl⟩ := own_slice ho
      clear bb ho hgv
      go_wp2_with fail
      obtain ⟨wd, hwd⟩ : ∃ wd, w6.drew = wd := ⟨_, rfl⟩
      have bb : Below w6.heap.size w6 wd := by rw [← hwd]; exact (Below.refl _ w6).drew
      replace HS := Lib.hid (HS.out.step bb)
      replace HN := Lib.hid (HN.out.below bb HN.out.lt)
      replace HE := Lib.hid (HE.out.trans (bb.mono HE.out.size))
      clear bb
      have C0 := fun X (hX : Below wd.heap.size wd X) => (HN.out.below hX HN.out.lt).cell 0
      have C1 := fun X (hX : Below wd.heap.size wd X) => (HN.out.below hX HN.out.lt).cell 1
      have C2 := fun X (hX : Below wd.heap.size wd X) => (HN.out.below hX HN.out.lt).cell 2
      have hbd := Below.refl wd.heap.size wd
      refine wpI_start (Below wd.heap.size wd) [0, 1, 2, 3, 4, 5, 6, 7, 8, 9, 10, 11, 12, 13, 14, 15] hmx rfl hwd ?_
      clear hwd
      iterate 3 (
        refine wpI_read (v := ?_) hbd rfl (by kernel_rfl) (by kernel_rfl) (by kernel_rfl) (fun _ _ _ h => h) (.inl ⟨by rfl, ?_⟩) ?_
        rotate_left
        · intro X hX
          have hXa := C0 X hX
          have hXb := C1 X hX
          have hXc := C2 X hX
          clear hX
          go_simp
          with_reducible rfl
        try simp only [Act.put, List.setIfInBounds_toArray, List.set_cons_zero, List.set_cons_succ])
      iterate 12 (
        refine wpI_read (v := undef) hbd rfl (by kernel_rfl) (by kernel_rfl) (by kernel_rfl) (fun _ _ _ h => h) (.inr ⟨by rfl, rfl⟩) ?_
        try simp only [Act.put, List.setIfInBounds_toArray, List.set_cons_zero, List.set_cons_succ])
      iterate 1 (
        refine wpI_read (v := ?_) hbd rfl (by kernel_rfl) (by kernel_rfl) (by kernel_rfl) (fun _ _ _ h => h) (.inl ⟨by rfl, ?_⟩) ?_
        rotate_left
        · intro X hX
          clear hX
          go_simp
          with_reducible rfl
        try simp only [Act.put, List.setIfInBounds_toArray, List.set_cons_zero, List.set_cons_succ])
      refine wpI_done (by kernel_rfl) ?_
      replace HS := Lib.hid (HS.out.step hbd)
      replace HN := Lib.hid (HN.out.below hbd HN.out.lt)
      replace HE := Lib.hid (HE.out.trans (hbd.mono HE.out.size))
      clear hbd C0 C1 C2
      go_wp2_with fail
      refine (spSettle_ok a 256 c s wd HS.out HM.out).mono ?_
      rintro e w9 ⟨v, rfl, ho, bb⟩
      replace HS := Lib.hid (HS.out.step bb)
      replace HN := Lib.hid (HN.out.below bb HN.out.lt)
      replace HE := Lib.hid (HE.out.trans (bb.mono HE.out.size))
      rw [(settleL_may HM.out).1] at ho
      obtain ⟨az, cz, rfl⟩ := own_slice ho
      have HZ := Lib.hid ho
      clear bb ho
      have hcs := cnt_settled (s := s) (z := settleL s) (n := 256) fun i hi => settleL_mk HM.out hi
      rw [H0.out, H1.out, H2.out] at hcs
      have K0 := Lib.hid (show ((cntTo (settleL s) 0 256 : Nat) : Int) = (c0 : Int) + c2 by rw [hcs.1]; omega)
      have K1 := Lib.hid (show ((cntTo (settleL s) 1 256 : Nat) : Int) = (c1 : Int) by rw [hcs.2.1])
      have K2 := Lib.hid (show ((cntTo (settleL s) 2 256 : Nat) : Int) = 0 by rw [hcs.2.2]; rfl)
      have HMZ := Lib.hid (settleL_may HM.out)
      clear hcs
      go_wp2_with fail
      obtain ⟨wd, hwd⟩ : ∃ wd, w9.drew = wd := ⟨_, rfl⟩
      have bb : Below w9.heap.size w9 wd := by rw [← hwd]; exact (Below.refl _ w9).drew
      replace HZ := Lib.hid (own_below HZ.out bb)
      replace HS := Lib.hid (HS.out.step bb)
      replace HN := Lib.hid (HN.out.below bb HN.out.lt)
      replace HE := Lib.hid (HE.out.trans (bb.mono HE.out.size))
      clear bb
      have C0 := fun X (hX : Below wd.heap.size wd X) => (HN.out.below hX HN.out.lt).cell 0
      have C1 := fun X (hX : Below wd.heap.size wd X) => (HN.out.below hX HN.out.lt).cell 1
      have C2 := fun X (hX : Below wd.heap.size wd X) => (HN.out.below hX HN.out.lt).cell 2
      have hbd := Below.refl wd.heap.size wd
      have hq := fun X => eq3_yes ((c0 : Int) + c2) c1 0 X
      have hww : IntKind.i64.wrap ((c0 : Int) + c2) = (c0 : Int) + c2 := IntWalk.i64_in _ (by omega)
      refine wpI_start (Below wd.heap.size wd) [0, 1, 2, 3, 4, 5, 6, 8, 9, 10, 11, 12, 13, 14, 15, 7, 16, 17, 18] hmx rfl hwd ?_
      clear hwd
      iterate 15 (
        refine wpI_read (v := ?_) hbd rfl (by kernel_rfl) (by kernel_rfl) (by kernel_rfl) (fun _ _ _ h => h) (.inl ⟨by rfl, ?_⟩) ?_
        rotate_left
        · intro X hX
          have hXa := C0 X hX
          have hXb := C1 X hX
          have hXc := C2 X hX
          clear hX
          go_simp
          with_reducible rfl
        try simp only [Act.put, List.setIfInBounds_toArray, List.set_cons_zero, List.set_cons_succ])
      refine wpI_lone rfl (by kernel_rfl) (fun K hK => ?_)
      go_simp
      refine (counted_at _ _ _ (settleL s) wd (own_bsl HZ.out) HMZ.out ((c0 : Int) + c2) (c1) (0) K0.out K1.out K2.out).mono ?_
      rintro e wa ⟨rfl, bb⟩
      refine hK _ _ bb ?_
      clear hK K
      try simp only [Act.put, List.setIfInBounds_toArray, List.set_cons_zero, List.set_cons_succ]
      clear hbd
      have hbd : Below wd.heap.size wd wa := bb
      clear bb
      iterate 3 (
        refine wpI_read (v := ?_) hbd rfl (by kernel_rfl) (by kernel_rfl) (by kernel_rfl) (fun _ _ _ h => h) (.inl ⟨by rfl, ?_⟩) ?_
        rotate_left
        · intro X hX
          have hXa := C0 X hX
          have hXb := C1 X hX
          have hXc := C2 X hX
          clear hX
          go_simp
          with_reducible rfl
        try simp only [Act.put, List.setIfInBounds_toArray, List.set_cons_zero, List.set_cons_succ])
      refine wpI_done (by kernel_rfl) ?_
      replace HS := Lib.hid (HS.out.step hbd)
      replace HN := Lib.hid (HN.out.below hbd HN.out.lt)
      replace HE := Lib.hid (HE.out.trans (hbd.mono HE.out.size))
      clear hbd C0 C1 C2
      go_wp2_with fail
      go_ret
      exact ⟨rfl, HE.out⟩
    · obtain ⟨k', rfl⟩ := Int.eq_ofNat_of_zero_le (show 0 ≤ q by omega)
      by_cases h1 : mkT s k' = 1
      · have hk0 : 12 ≤ k' := by omega
        have hk1 : k' < 256 := by omega
        have hl : k' < s.length := by rw [HM.out.1]; exact hk1
        have m0 := cntTo_set s k' 2 hl 0 256
        have m1 := cntTo_set s k' 2 hl 1 256
        have m2 := cntTo_set s k' 2 hl 2 256
        have e2 : (2 : UInt8).toNat = 2 := rfl
        rw [h1, e2] at m0 m1 m2
        simp only [hk1, true_and, H0.out, H1.out, H2.out] at m0 m1 m2
        simp at m0 m1 m2
        have K0 := Lib.hid (show ((cntTo (s.set k' 2) 0 256 : Nat) : Int) = (c0 : Int) by omega)
        have K1 := Lib.hid (show ((cntTo (s.set k' 2) 1 256 : Nat) : Int) = (c1 : Int) - 1 by omega)
        have K2 := Lib.hid (show ((cntTo (s.set k' 2) 2 256 : Nat) : Int) = (c2 : Int) + 1 by omega)
        have HMG := Lib.hid (set_may HM.out hk0 hk1 2 (by decide))
        have hl2 : (s.set k' 2).length = 256 := by simp [HM.out.1]
        refine (spGive_ok a 256 c s k' hk0 hk1 we HS.out HM.out h1).mono ?_
        rintro e w6 ⟨v, rfl, ho, bb⟩
        replace HS := Lib.hid (HS.out.step bb)
        replace HN := Lib.hid (HN.out.below bb HN.out.lt)
        replace HE := Lib.hid (HE.out.trans (bb.mono HE.out.size))
        rw [hl2] at ho
        obtain ⟨ag, cg, rfl⟩ := own_slice ho
        have HG := Lib.hid ho
        clear bb ho m0 m1 m2 h1 hk0 hk1 hl hl2 e2 hkk
        go_wp2_with fail
        obtain ⟨wd, hwd⟩ : ∃ wd, w6.drew = wd := ⟨_, rfl⟩
        have bb : Below w6.heap.size w6 wd := by rw [← hwd]; exact (Below.refl _ w6).drew
        replace HG := Lib.hid (own_below HG.out bb)
        replace HS := Lib.hid (HS.out.step bb)
        replace HN := Lib.hid (HN.out.below bb HN.out.lt)
        replace HE := Lib.hid (HE.out.trans (bb.mono HE.out.size))
        clear bb
        have C0 := fun X (hX : Below wd.heap.size wd X) => (HN.out.below hX HN.out.lt).cell 0
        have C1 := fun X (hX : Below wd.heap.size wd X) => (HN.out.below hX HN.out.lt).cell 1
        have C2 := fun X (hX : Below wd.heap.size wd X) => (HN.out.below hX HN.out.lt).cell 2
        have hbd := Below.refl wd.heap.size wd
        have hq := fun X => eq3_yes (c0 : Int) ((c1 : Int) - 1) ((c2 : Int) + 1) X
        have hww : IntKind.i64.wrap ((c1 : Int) - 1) = (c1 : Int) - 1 := IntWalk.i64_in _ (by omega)
        have hwv : IntKind.i64.wrap ((c2 : Int) + 1) = (c2 : Int) + 1 := IntWalk.i64_in _ (by omega)
        refine wpI_start (Below wd.heap.size wd) [0, 1, 2, 3, 5, 6, 7, 8, 9, 10, 11, 12, 13, 4, 14, 15] hmx rfl hwd ?_
        clear hwd
        iterate 13 (
          refine wpI_read (v := ?_) hbd rfl (by kernel_rfl) (by kernel_rfl) (by kernel_rfl) (fun _ _ _ h => h) (.inl ⟨by rfl, ?_⟩) ?_
          rotate_left
          · intro X hX
            have hXa := C0 X hX
            have hXb := C1 X hX
            have hXc := C2 X hX
            clear hX
            go_simp
            with_reducible rfl
          try simp only [Act.put, List.setIfInBounds_toArray, List.set_cons_zero, List.set_cons_succ])
        refine wpI_lone rfl (by kernel_rfl) (fun K hK => ?_)
        go_simp
        refine (counted_at _ _ _ (s.set k' 2) wd (own_bsl HG.out) HMG.out (c0) ((c1 : Int) - 1) ((c2 : Int) + 1) K0.out K1.out K2.out).mono ?_
        rintro e wb ⟨rfl, bb⟩
        refine hK _ _ bb ?_
        clear hK K
        try simp only [Act.put, List.setIfInBounds_toArray, List.set_cons_zero, List.set_cons_succ]
        clear hbd
        have hbd : Below wd.heap.size wd wb := bb
        clear bb
        iterate 2 (
          refine wpI_read (v := ?_) hbd rfl (by kernel_rfl) (by kernel_rfl) (by kernel_rfl) (fun _ _ _ h => h) (.inl ⟨by rfl, ?_⟩) ?_
          rotate_left
          · intro X hX
            have hXa := C0 X hX
            have hXb := C1 X hX
            have hXc := C2 X hX
            clear hX
            go_simp
            with_reducible rfl
          try simp only [Act.put, List.setIfInBounds_toArray, List.set_cons_zero, List.set_cons_succ])
        refine wpI_done (by kernel_rfl) ?_
        replace HS := Lib.hid (HS.out.step hbd)
        replace HN := Lib.hid (HN.out.below hbd HN.out.lt)
        replace HE := Lib.hid (HE.out.trans (hbd.mono HE.out.size))
        clear hbd C0 C1 C2
        clear hq hww hwv HG HMG K0 K1 K2
        go_wp2_with fail
        refine (spSettle_ok a 256 c s wb HS.out HM.out).mono ?_
        rintro e w9 ⟨v, rfl, ho, bb⟩
        replace HS := Lib.hid (HS.out.step bb)
        replace HN := Lib.hid (HN.out.below bb HN.out.lt)
        replace HE := Lib.hid (HE.out.trans (bb.mono HE.out.size))
        rw [(settleL_may HM.out).1] at ho
        obtain ⟨az, cz, rfl⟩ := own_slice ho
        have HZ := Lib.hid ho
        clear bb ho
        have hcs := cnt_settled (s := s) (z := settleL s) (n := 256) fun i hi => settleL_mk HM.out hi
        rw [H0.out, H1.out, H2.out] at hcs
        have K0 := Lib.hid (show ((cntTo (settleL s) 0 256 : Nat) : Int) = (c0 : Int) + c2 by rw [hcs.1]; omega)
        have K1 := Lib.hid (show ((cntTo (settleL s) 1 256 : Nat) : Int) = (c1 : Int) by rw [hcs.2.1])
        have K2 := Lib.hid (show ((cntTo (settleL s) 2 256 : Nat) : Int) = 0 by rw [hcs.2.2]; rfl)
        have HMZ := Lib.hid (settleL_may HM.out)
        clear hcs
        go_wp2_with fail
        obtain ⟨wd, hwd⟩ : ∃ wd, w9.drew = wd := ⟨_, rfl⟩
        have bb : Below w9.heap.size w9 wd := by rw [← hwd]; exact (Below.refl _ w9).drew
        replace HZ := Lib.hid (own_below HZ.out bb)
        replace HS := Lib.hid (HS.out.step bb)
        replace HN := Lib.hid (HN.out.below bb HN.out.lt)
        replace HE := Lib.hid (HE.out.trans (bb.mono HE.out.size))
        clear bb
        have C0 := fun X (hX : Below wd.heap.size wd X) => (HN.out.below hX HN.out.lt).cell 0
        have C1 := fun X (hX : Below wd.heap.size wd X) => (HN.out.below hX HN.out.lt).cell 1
        have C2 := fun X (hX : Below wd.heap.size wd X) => (HN.out.below hX HN.out.lt).cell 2
        have hbd := Below.refl wd.heap.size wd
        have hq := fun X => eq3_yes ((c0 : Int) + c2) c1 0 X
        have hww : IntKind.i64.wrap ((c0 : Int) + c2) = (c0 : Int) + c2 := IntWalk.i64_in _ (by omega)
        refine wpI_start (Below wd.heap.size wd) [0, 1, 2, 3, 4, 5, 6, 8, 9, 10, 11, 12, 13, 14, 15, 7, 16, 17, 18] hmx rfl hwd ?_
        clear hwd
        iterate 15 (
          refine wpI_read (v := ?_) hbd rfl (by kernel_rfl) (by kernel_rfl) (by kernel_rfl) (fun _ _ _ h => h) (.inl ⟨by rfl, ?_⟩) ?_
          rotate_left
          · intro X hX
            have hXa := C0 X hX
            have hXb := C1 X hX
            have hXc := C2 X hX
            clear hX
            go_simp
            with_reducible rfl
          try simp only [Act.put, List.setIfInBounds_toArray, List.set_cons_zero, List.set_cons_succ])
        refine wpI_lone rfl (by kernel_rfl) (fun K hK => ?_)
        go_simp
        refine (counted_at _ _ _ (settleL s) wd (own_bsl HZ.out) HMZ.out ((c0 : Int) + c2) (c1) (0) K0.out K1.out K2.out).mono ?_
        rintro e wa ⟨rfl, bb⟩
        refine hK _ _ bb ?_
        clear hK K
        try simp only [Act.put, List.setIfInBounds_toArray, List.set_cons_zero, List.set_cons_succ]
        clear hbd
        have hbd : Below wd.heap.size wd wa := bb
        clear bb
        iterate 3 (
          refine wpI_read (v := ?_) hbd rfl (by kernel_rfl) (by kernel_rfl) (by kernel_rfl) (fun _ _ _ h => h) (.inl ⟨by rfl, ?_⟩) ?_
          rotate_left
          · intro X hX
            have hXa := C0 X hX
            have hXb := C1 X hX
            have hXc := C2 X hX
            clear hX
            go_simp
            with_reducible rfl
          try simp only [Act.put, List.setIfInBounds_toArray, List.set_cons_zero, List.set_cons_succ])
        refine wpI_done (by kernel_rfl) ?_
        replace HS := Lib.hid (HS.out.step hbd)
        replace HN := Lib.hid (HN.out.below hbd HN.out.lt)
        replace HE := Lib.hid (HE.out.trans (hbd.mono HE.out.size))
        clear hbd C0 C1 C2
        go_wp2_with fail
        go_ret
        exact ⟨rfl, HE.out⟩
      · have hgv := spGive_none a 256 c _ s k' (by omega) (by omega) we HS.out HM.out h1
        clear hkk h1
        refine hgv.mono ?_
        rintro e w6 ⟨v, rfl, ho, bb⟩
        replace HS := Lib.hid (HS.out.step bb)
        replace HN := Lib.hid (HN.out.below bb HN.out.lt)
        replace HE := Lib.hid (HE.out.trans (bb.mono HE.out.size))
        obtain ⟨ag, cg, rfl⟩ := own_slice ho
        clear bb ho hgv
        go_wp2_with fail
        obtain ⟨wd, hwd⟩ : ∃ wd, w6.drew = wd := ⟨_, rfl⟩
        have bb : Below w6.heap.size w6 wd := by rw [← hwd]; exact (Below.refl _ w6).drew
        replace HS := Lib.hid (HS.out.step bb)
        replace HN := Lib.hid (HN.out.below bb HN.out.lt)
        replace HE := Lib.hid (HE.out.trans (bb.mono HE.out.size))
        clear bb
        have C0 := fun X (hX : Below wd.heap.size wd X) => (HN.out.below hX HN.out.lt).cell 0
        have C1 := fun X (hX : Below wd.heap.size wd X) => (HN.out.below hX HN.out.lt).cell 1
        have C2 := fun X (hX : Below wd.heap.size wd X) => (HN.out.below hX HN.out.lt).cell 2
        have hbd := Below.refl wd.heap.size wd
        refine wpI_start (Below wd.heap.size wd) [0, 1, 2, 3, 4, 5, 6, 7, 8, 9, 10, 11, 12, 13, 14, 15] hmx rfl hwd ?_
        clear hwd
        iterate 3 (
          refine wpI_read (v := ?_) hbd rfl (by kernel_rfl) (by kernel_rfl) (by kernel_rfl) (fun _ _ _ h => h) (.inl ⟨by rfl, ?_⟩) ?_
          rotate_left
          · intro X hX
            have hXa := C0 X hX
            have hXb := C1 X hX
            have hXc := C2 X hX
            clear hX
            go_simp
            with_reducible rfl
          try simp only [Act.put, List.setIfInBounds_toArray, List.set_cons_zero, List.set_cons_succ])
        iterate 12 (
          refine wpI_read (v := undef) hbd rfl (by kernel_rfl) (by kernel_rfl) (by kernel_rfl) (fun _ _ _ h => h) (.inr ⟨by rfl, rfl⟩) ?_
          try simp only [Act.put, List.setIfInBounds_toArray, List.set_cons_zero, List.set_cons_succ])
        iterate 1 (
          refine wpI_read (v := ?_) hbd rfl (by kernel_rfl) (by kernel_rfl) (by kernel_rfl) (fun _ _ _ h => h) (.inl ⟨by rfl, ?_⟩) ?_
          rotate_left
          · intro X hX
            clear hX
            go_simp
            with_reducible rfl
          try simp only [Act.put, List.setIfInBounds_toArray, List.set_cons_zero, List.set_cons_succ])
        refine wpI_done (by kernel_rfl) ?_
        replace HS := Lib.hid (HS.out.step hbd)
        replace HN := Lib.hid (HN.out.below hbd HN.out.lt)
        replace HE := Lib.hid (HE.out.trans (hbd.mono HE.out.size))
        clear hbd C0 C1 C2
        go_wp2_with fail
        refine (spSettle_ok a 256 c s wd HS.out HM.out).mono ?_
        rintro e w9 ⟨v, rfl, ho, bb⟩
        replace HS := Lib.hid (HS.out.step bb)
        replace HN := Lib.hid (HN.out.below bb HN.out.lt)
        replace HE := Lib.hid (HE.out.trans (bb.mono HE.out.size))
        rw [(settleL_may HM.out).1] at ho
        obtain ⟨az, cz, rfl⟩ := own_slice ho
        have HZ := Lib.hid ho
        clear bb ho
        have hcs := cnt_settled (s := s) (z := settleL s) (n := 256) fun i hi => settleL_mk HM.out hi
        rw [H0.out, H1.out, H2.out] at hcs
        have K0 := Lib.hid (show ((cntTo (settleL s) 0 256 : Nat) : Int) = (c0 : Int) + c2 by rw [hcs.1]; omega)
        have K1 := Lib.hid (show ((cntTo (settleL s) 1 256 : Nat) : Int) = (c1 : Int) by rw [hcs.2.1])
        have K2 := Lib.hid (show ((cntTo (settleL s) 2 256 : Nat) : Int) = 0 by rw [hcs.2.2]; rfl)
        have HMZ := Lib.hid (settleL_may HM.out)
        clear hcs
        go_wp2_with fail
        obtain ⟨wd, hwd⟩ : ∃ wd, w9.drew = wd := ⟨_, rfl⟩
        have bb : Below w9.heap.size w9 wd := by rw [← hwd]; exact (Below.refl _ w9).drew
        replace HZ := Lib.hid (own_below HZ.out bb)
        replace HS := Lib.hid (HS.out.step bb)
        replace HN := Lib.hid (HN.out.below bb HN.out.lt)
        replace HE := Lib.hid (HE.out.trans (bb.mono HE.out.size))
        clear bb
        have C0 := fun X (hX : Below wd.heap.size wd X) => (HN.out.below hX HN.out.lt).cell 0
        have C1 := fun X (hX : Below wd.heap.size wd X) => (HN.out.below hX HN.out.lt).cell 1
        have C2 := fun X (hX : Below wd.heap.size wd X) => (HN.out.below hX HN.out.lt).cell 2
        have hbd := Below.refl wd.heap.size wd
        have hq := fun X => eq3_yes ((c0 : Int) + c2) c1 0 X
        have hww : IntKind.i64.wrap ((c0 : Int) + c2) = (c0 : Int) + c2 := IntWalk.i64_in _ (by omega)
        refine wpI_start (Below wd.heap.size wd) [0, 1, 2, 3, 4, 5, 6, 8, 9, 10, 11, 12, 13, 14, 15, 7, 16, 17, 18] hmx rfl hwd ?_
        clear hwd
        iterate 15 (
          refine wpI_read (v := ?_) hbd rfl (by kernel_rfl) (by kernel_rfl) (by kernel_rfl) (fun _ _ _ h => h) (.inl ⟨by rfl, ?_⟩) ?_
          rotate_left
          · intro X hX
            have hXa := C0 X hX
            have hXb := C1 X hX
            have hXc := C2 X hX
            clear hX
            go_simp
            with_reducible rfl
          try simp only [Act.put, List.setIfInBounds_toArray, List.set_cons_zero, List.set_cons_succ])
        refine wpI_lone rfl (by kernel_rfl) (fun K hK => ?_)
        go_simp
        refine (counted_at _ _ _ (settleL s) wd (own_bsl HZ.out) HMZ.out ((c0 : Int) + c2) (c1) (0) K0.out K1.out K2.out).mono ?_
        rintro e wa ⟨rfl, bb⟩
        refine hK _ _ bb ?_
        clear hK K
        try simp only [Act.put, List.setIfInBounds_toArray, List.set_cons_zero, List.set_cons_succ]
        clear hbd
        have hbd : Below wd.heap.size wd wa := bb
        clear bb
        iterate 3 (
          refine wpI_read (v := ?_) hbd rfl (by kernel_rfl) (by kernel_rfl) (by kernel_rfl) (fun _ _ _ h => h) (.inl ⟨by rfl, ?_⟩) ?_
          rotate_left
          · intro X hX
            have hXa := C0 X hX
            have hXb := C1 X hX
            have hXc := C2 X hX
            clear hX
            go_simp
            with_reducible rfl
          try simp only [Act.put, List.setIfInBounds_toArray, List.set_cons_zero, List.set_cons_succ])
        refine wpI_done (by kernel_rfl) ?_
        replace HS := Lib.hid (HS.out.step hbd)
        replace HN := Lib.hid (HN.out.below hbd HN.out.lt)
        replace HE := Lib.hid (HE.out.trans (hbd.mono HE.out.size))
        clear hbd C0 C1 C2
        go_wp2_with fail
        go_ret
        exact ⟨rfl, HE.out⟩
  · have hc0 : c0 = 0 := by have := cntTo_none (s := s) (m := 0) (n := 256) hnf; rw [H0.out] at this; exact this
    have hci : ¬ (0 : Int) < c0 := by omega
    have hcn : ¬ 0 < c0 := by omega
    have hcd : decide ((0 : Int) < c0) = false := by simp; omega
    refine (spTake_full a 256 c s w4 HS.out HM.out hnf).mono ?_
    rintro e w5 ⟨v, rfl, ho, bb⟩
    replace HS := Lib.hid (HS.out.step bb)
    replace HN := Lib.hid (HN.out.below bb HN.out.lt)
    replace HE := Lib.hid (HE.out.trans (bb.mono HE.out.size))
    obtain ⟨at', ct, rfl⟩ := own_slice ho
    clear bb ho hnf hc0
    go_wp2_with fail
    obtain ⟨wd, hwd⟩ : ∃ wd, w5.drew = wd := ⟨_, rfl⟩
    have bb : Below w5.heap.size w5 wd := by rw [← hwd]; exact (Below.refl _ w5).drew
    replace HS := Lib.hid (HS.out.step bb)
    replace HN := Lib.hid (HN.out.below bb HN.out.lt)
    replace HE := Lib.hid (HE.out.trans (bb.mono HE.out.size))
    clear bb
    have C0 := fun X (hX : Below wd.heap.size wd X) => (HN.out.below hX HN.out.lt).cell 0
    have C1 := fun X (hX : Below wd.heap.size wd X) => (HN.out.below hX HN.out.lt).cell 1
    have C2 := fun X (hX : Below wd.heap.size wd X) => (HN.out.below hX HN.out.lt).cell 2
    have hbd := Below.refl wd.heap.size wd
    refine wpI_start (Below wd.heap.size wd) [0, 1, 2, 3, 4, 5, 6, 7, 8, 9, 10, 11, 12, 13, 14, 15, 16, 17, 18, 19, 20, 21, 22, 23] hmx rfl hwd ?_
    clear hwd
    iterate 10 (
      refine wpI_read (v := ?_) hbd rfl (by kernel_rfl) (by kernel_rfl) (by kernel_rfl) (fun _ _ _ h => h) (.inl ⟨by rfl, ?_⟩) ?_
      rotate_left
      · intro X hX
        have hXa := C0 X hX
        have hXb := C1 X hX
        have hXc := C2 X hX
        clear hX
        go_simp
        with_reducible rfl
      try simp only [Act.put, List.setIfInBounds_toArray, List.set_cons_zero, List.set_cons_succ])
    iterate 12 (
      refine wpI_read (v := undef) hbd rfl (by kernel_rfl) (by kernel_rfl) (by kernel_rfl) (fun _ _ _ h => h) (.inr ⟨by rfl, rfl⟩) ?_
      try simp only [Act.put, List.setIfInBounds_toArray, List.set_cons_zero, List.set_cons_succ])
    iterate 2 (
      refine wpI_read (v := ?_) hbd rfl (by kernel_rfl) (by kernel_rfl) (by kernel_rfl) (fun _ _ _ h => h) (.inl ⟨by rfl, ?_⟩) ?_
      rotate_left
      · intro X hX
        clear hX
        go_simp
        with_reducible rfl
      try simp only [Act.put, List.setIfInBounds_toArray, List.set_cons_zero, List.set_cons_succ])
    refine wpI_done (by kernel_rfl) ?_
    replace HS := Lib.hid (HS.out.step hbd)
    replace HN := Lib.hid (HN.out.below hbd HN.out.lt)
    replace HE := Lib.hid (HE.out.trans (hbd.mono HE.out.size))
    clear hbd C0 C1 C2
    clear hci hcn hcd
    go_wp2_with fail
    by_cases hkk : q < 12 ∨ 256 ≤ q
    · have hgv := spGive_arg a 256 c _ s q hkk wd HS.out HM.out
      clear hkk
      refine hgv.mono ?_
      rintro e w6 ⟨v, rfl, ho, bb⟩
      replace HS := Lib.hid (HS.out.step bb)
      replace HN := Lib.hid (HN.out.below bb HN.out.lt)
      replace HE := Lib.hid (HE.out.trans (bb.mono HE.out.size))
      obtain ⟨ag, cg, rfl⟩ := own_slice ho
      clear bb ho hgv
      go_wp2_with fail
      obtain ⟨wd, hwd⟩ : ∃ wd, w6.drew = wd := ⟨_, rfl⟩
      have bb : Below w6.heap.size w6 wd := by rw [← hwd]; exact (Below.refl _ w6).drew
      replace HS := Lib.hid (HS.out.step bb)
      replace HN := Lib.hid (HN.out.below bb HN.out.lt)
      replace HE := Lib.hid (HE.out.trans (bb.mono HE.out.size))
      clear bb
      have C0 := fun X (hX : Below wd.heap.size wd X) => (HN.out.below hX HN.out.lt).cell 0
      have C1 := fun X (hX : Below wd.heap.size wd X) => (HN.out.below hX HN.out.lt).cell 1
      have C2 := fun X (hX : Below wd.heap.size wd X) => (HN.out.below hX HN.out.lt).cell 2
      have hbd := Below.refl wd.heap.size wd
      refine wpI_start (Below wd.heap.size wd) [0, 1, 2, 3, 4, 5, 6, 7, 8, 9, 10, 11, 12, 13, 14, 15] hmx rfl hwd ?_
      clear hwd
      iterate 3 (
        refine wpI_read (v := ?_) hbd rfl (by kernel_rfl) (by kernel_rfl) (by kernel_rfl) (fun _ _ _ h => h) (.inl ⟨by rfl, ?_⟩) ?_
        rotate_left
        · intro X hX
          have hXa := C0 X hX
          have hXb := C1 X hX
          have hXc := C2 X hX
          clear hX
          go_simp
          with_reducible rfl
        try simp only [Act.put, List.setIfInBounds_toArray, List.set_cons_zero, List.set_cons_succ])
      iterate 12 (
        refine wpI_read (v := undef) hbd rfl (by kernel_rfl) (by kernel_rfl) (by kernel_rfl) (fun _ _ _ h => h) (.inr ⟨by rfl, rfl⟩) ?_
        try simp only [Act.put, List.setIfInBounds_toArray, List.set_cons_zero, List.set_cons_succ])
      iterate 1 (
        refine wpI_read (v := ?_) hbd rfl (by kernel_rfl) (by kernel_rfl) (by kernel_rfl) (fun _ _ _ h => h) (.inl ⟨by rfl, ?_⟩) ?_
        rotate_left
        · intro X hX
          clear hX
          go_simp
          with_reducible rfl
        try simp only [Act.put, List.setIfInBounds_toArray, List.set_cons_zero, List.set_cons_succ])
      refine wpI_done (by kernel_rfl) ?_
      replace HS := Lib.hid (HS.out.step hbd)
      replace HN := Lib.hid (HN.out.below hbd HN.out.lt)
      replace HE := Lib.hid (HE.out.trans (hbd.mono HE.out.size))
      clear hbd C0 C1 C2
      go_wp2_with fail
      refine (spSettle_ok a 256 c s wd HS.out HM.out).mono ?_
      rintro e w9 ⟨v, rfl, ho, bb⟩
      replace HS := Lib.hid (HS.out.step bb)
      replace HN := Lib.hid (HN.out.below bb HN.out.lt)
      replace HE := Lib.hid (HE.out.trans (bb.mono HE.out.size))
      rw [(settleL_may HM.out).1] at ho
      obtain ⟨az, cz, rfl⟩ := own_slice ho
      have HZ := Lib.hid ho
      clear bb ho
      have hcs := cnt_settled (s := s) (z := settleL s) (n := 256) fun i hi => settleL_mk HM.out hi
      rw [H0.out, H1.out, H2.out] at hcs
      have K0 := Lib.hid (show ((cntTo (settleL s) 0 256 : Nat) : Int) = (c0 : Int) + c2 by rw [hcs.1]; omega)
      have K1 := Lib.hid (show ((cntTo (settleL s) 1 256 : Nat) : Int) = (c1 : Int) by rw [hcs.2.1])
      have K2 := Lib.hid (show ((cntTo (settleL s) 2 256 : Nat) : Int) = 0 by rw [hcs.2.2]; rfl)
      have HMZ := Lib.hid (settleL_may HM.out)
      clear hcs
      go_wp2_with fail
      obtain ⟨wd, hwd⟩ : ∃ wd, w9.drew = wd := ⟨_, rfl⟩
      have bb : Below w9.heap.size w9 wd := by rw [← hwd]; exact (Below.refl _ w9).drew
      replace HZ := Lib.hid (own_below HZ.out bb)
      replace HS := Lib.hid (HS.out.step bb)
      replace HN := Lib.hid (HN.out.below bb HN.out.lt)
      replace HE := Lib.hid (HE.out.trans (bb.mono HE.out.size))
      clear bb
      have C0 := fun X (hX : Below wd.heap.size wd X) => (HN.out.below hX HN.out.lt).cell 0
      have C1 := fun X (hX : Below wd.heap.size wd X) => (HN.out.below hX HN.out.lt).cell 1
      have C2 := fun X (hX : Below wd.heap.size wd X) => (HN.out.below hX HN.out.lt).cell 2
      have hbd := Below.refl wd.heap.size wd
      have hq := fun X => eq3_yes ((c0 : Int) + c2) c1 0 X
      have hww : IntKind.i64.wrap ((c0 : Int) + c2) = (c0 : Int) + c2 := IntWalk.i64_in _ (by omega)
      refine wpI_start (Below wd.heap.size wd) [0, 1, 2, 3, 4, 5, 6, 8, 9, 10, 11, 12, 13, 14, 15, 7, 16, 17, 18] hmx rfl hwd ?_
      clear hwd
      iterate 15 (
        refine wpI_read (v := ?_) hbd rfl (by kernel_rfl) (by kernel_rfl) (by kernel_rfl) (fun _ _ _ h => h) (.inl ⟨by rfl, ?_⟩) ?_
        rotate_left
        · intro X hX
          have hXa := C0 X hX
          have hXb := C1 X hX
          have hXc := C2 X hX
          clear hX
          go_simp
          with_reducible rfl
        try simp only [Act.put, List.setIfInBounds_toArray, List.set_cons_zero, List.set_cons_succ])
      refine wpI_lone rfl (by kernel_rfl) (fun K hK => ?_)
      go_simp
      refine (counted_at _ _ _ (settleL s) wd (own_bsl HZ.out) HMZ.out ((c0 : Int) + c2) (c1) (0) K0.out K1.out K2.out).mono ?_
      rintro e wa ⟨rfl, bb⟩
      refine hK _ _ bb ?_
      clear hK K
      try simp only [Act.put, List.setIfInBounds_toArray, List.set_cons_zero, List.set_cons_succ]
      clear hbd
      have hbd : Below wd.heap.size wd wa := bb
      clear bb
      iterate 3 (
        refine wpI_read (v := ?_) hbd rfl (by kernel_rfl) (by kernel_rfl) (by kernel_rfl) (fun _ _ _ h => h) (.inl ⟨by rfl, ?_⟩) ?_
        rotate_left
        · intro X hX
          have hXa := C0 X hX
          have hXb := C1 X hX
          have hXc := C2 X hX
          clear hX
          go_simp
          with_reducible rfl
        try simp only [Act.put, List.setIfInBounds_toArray, List.set_cons_zero, List.set_cons_succ])
      refine wpI_done (by kernel_rfl) ?_
      replace HS := Lib.hid (HS.out.step hbd)
      replace HN := Lib.hid (HN.out.below hbd HN.out.lt)
      replace HE := Lib.hid (HE.out.trans (hbd.mono HE.out.size))
      clear hbd C0 C1 C2
      go_wp2_with fail
      go_ret
      exact ⟨rfl, HE.out⟩
    · obtain ⟨k', rfl⟩ := Int.eq_ofNat_of_zero_le (show 0 ≤ q by omega)
      by_cases h1 : mkT s k' = 1
      · have hk0 : 12 ≤ k' := by omega
        have hk1 : k' < 256 := by omega
        have hl : k' < s.length := by rw [HM.out.1]; exact hk1
        have m0 := cntTo_set s k' 2 hl 0 256
        have m1 := cntTo_set s k' 2 hl 1 256
        have m2 := cntTo_set s k' 2 hl 2 256
        have e2 : (2 : UInt8).toNat = 2 := rfl
        rw [h1, e2] at m0 m1 m2
        simp only [hk1, true_and, H0.out, H1.out, H2.out] at m0 m1 m2
        simp at m0 m1 m2
        have K0 := Lib.hid (show ((cntTo (s.set k' 2) 0 256 : Nat) : Int) = (c0 : Int) by omega)
        have K1 := Lib.hid (show ((cntTo (s.set k' 2) 1 256 : Nat) : Int) = (c1 : Int) - 1 by omega)
        have K2 := Lib.hid (show ((cntTo (s.set k' 2) 2 256 : Nat) : Int) = (c2 : Int) + 1 by omega)
        have HMG := Lib.hid (set_may HM.out hk0 hk1 2 (by decide))
        have hl2 : (s.set k' 2).length = 256 := by simp [HM.out.1]
        refine (spGive_ok a 256 c s k' hk0 hk1 wd HS.out HM.out h1).mono ?_
        rintro e w6 ⟨v, rfl, ho, bb⟩
        replace HS := Lib.hid (HS.out.step bb)
        replace HN := Lib.hid (HN.out.below bb HN.out.lt)
        replace HE := Lib.hid (HE.out.trans (bb.mono HE.out.size))
        rw [hl2] at ho
        obtain ⟨ag, cg, rfl⟩ := own_slice ho
        have HG := Lib.hid ho
        clear bb ho m0 m1 m2 h1 hk0 hk1 hl hl2 e2 hkk
        go_wp2_with fail
        obtain ⟨wd, hwd⟩ : ∃ wd, w6.drew = wd := ⟨_, rfl⟩
        have bb : Below w6.heap.size w6 wd := by rw [← hwd]; exact (Below.refl _ w6).drew
        replace HG := Lib.hid (own_below HG.out bb)
        replace HS := Lib.hid (HS.out.step bb)
        replace HN := Lib.hid (HN.out.below bb HN.out.lt)
        replace HE := Lib.hid (HE.out.trans (bb.mono HE.out.size))
        clear bb
        have C0 := fun X (hX : Below wd.heap.size wd X) => (HN.out.below hX HN.out.lt).cell 0
        have C1 := fun X (hX : Below wd.heap.size wd X) => (HN.out.below hX HN.out.lt).cell 1
        have C2 := fun X (hX : Below wd.heap.size wd X) => (HN.out.below hX HN.out.lt).cell 2
        have hbd := Below.refl wd.heap.size wd
        have hq := fun X => eq3_yes (c0 : Int) ((c1 : Int) - 1) ((c2 : Int) + 1) X
        have hww : IntKind.i64.wrap ((c1 : Int) - 1) = (c1 : Int) - 1 := IntWalk.i64_in _ (by omega)
        have hwv : IntKind.i64.wrap ((c2 : Int) + 1) = (c2 : Int) + 1 := IntWalk.i64_in _ (by omega)
        refine wpI_start (Below wd.heap.size wd) [0, 1, 2, 3, 5, 6, 7, 8, 9, 10, 11, 12, 13, 4, 14, 15] hmx rfl hwd ?_
        clear hwd
        iterate 13 (
          refine wpI_read (v := ?_) hbd rfl (by kernel_rfl) (by kernel_rfl) (by kernel_rfl) (fun _ _ _ h => h) (.inl ⟨by rfl, ?_⟩) ?_
          rotate_left
          · intro X hX
            have hXa := C0 X hX
            have hXb := C1 X hX
            have hXc := C2 X hX
            clear hX
            go_simp
            with_reducible rfl
          try simp only [Act.put, List.setIfInBounds_toArray, List.set_cons_zero, List.set_cons_succ])
        refine wpI_lone rfl (by kernel_rfl) (fun K hK => ?_)
        go_simp
        refine (counted_at _ _ _ (s.set k' 2) wd (own_bsl HG.out) HMG.out (c0) ((c1 : Int) - 1) ((c2 : Int) + 1) K0.out K1.out K2.out).mono ?_
        rintro e wb ⟨rfl, bb⟩
        refine hK _ _ bb ?_
        clear hK K
        try simp only [Act.put, List.setIfInBounds_toArray, List.set_cons_zero, List.set_cons_succ]
        clear hbd
        have hbd : Below wd.heap.size wd wb := bb
        clear bb
        iterate 2 (
          refine wpI_read (v := ?_) hbd rfl (by kernel_rfl) (by kernel_rfl) (by kernel_rfl) (fun _ _ _ h => h) (.inl ⟨by rfl, ?_⟩) ?_
          rotate_left
          · intro X hX
            have hXa := C0 X hX
            have hXb := C1 X hX
            have hXc := C2 X hX
            clear hX
            go_simp
            with_reducible rfl
          try simp only [Act.put, List.setIfInBounds_toArray, List.set_cons_zero, List.set_cons_succ])
        refine wpI_done (by kernel_rfl) ?_
        replace HS := Lib.hid (HS.out.step hbd)
        replace HN := Lib.hid (HN.out.below hbd HN.out.lt)
        replace HE := Lib.hid (HE.out.trans (hbd.mono HE.out.size))
        clear hbd C0 C1 C2
        clear hq hww hwv HG HMG K0 K1 K2
        go_wp2_with fail
        refine (spSettle_ok a 256 c s wb HS.out HM.out).mono ?_
        rintro e w9 ⟨v, rfl, ho, bb⟩
        replace HS := Lib.hid (HS.out.step bb)
        replace HN := Lib.hid (HN.out.below bb HN.out.lt)
        replace HE := Lib.hid (HE.out.trans (bb.mono HE.out.size))
        rw [(settleL_may HM.out).1] at ho
        obtain ⟨az, cz, rfl⟩ := own_slice ho
        have HZ := Lib.hid ho
        clear bb ho
        have hcs := cnt_settled (s := s) (z := settleL s) (n := 256) fun i hi => settleL_mk HM.out hi
        rw [H0.out, H1.out, H2.out] at hcs
        have K0 := Lib.hid (show ((cntTo (settleL s) 0 256 : Nat) : Int) = (c0 : Int) + c2 by rw [hcs.1]; omega)
        have K1 := Lib.hid (show ((cntTo (settleL s) 1 256 : Nat) : Int) = (c1 : Int) by rw [hcs.2.1])
        have K2 := Lib.hid (show ((cntTo (settleL s) 2 256 : Nat) : Int) = 0 by rw [hcs.2.2]; rfl)
        have HMZ := Lib.hid (settleL_may HM.out)
        clear hcs
        go_wp2_with fail
        obtain ⟨wd, hwd⟩ : ∃ wd, w9.drew = wd := ⟨_, rfl⟩
        have bb : Below w9.heap.size w9 wd := by rw [← hwd]; exact (Below.refl _ w9).drew
        replace HZ := Lib.hid (own_below HZ.out bb)
        replace HS := Lib.hid (HS.out.step bb)
        replace HN := Lib.hid (HN.out.below bb HN.out.lt)
        replace HE := Lib.hid (HE.out.trans (bb.mono HE.out.size))
        clear bb
        have C0 := fun X (hX : Below wd.heap.size wd X) => (HN.out.below hX HN.out.lt).cell 0
        have C1 := fun X (hX : Below wd.heap.size wd X) => (HN.out.below hX HN.out.lt).cell 1
        have C2 := fun X (hX : Below wd.heap.size wd X) => (HN.out.below hX HN.out.lt).cell 2
        have hbd := Below.refl wd.heap.size wd
        have hq := fun X => eq3_yes ((c0 : Int) + c2) c1 0 X
        have hww : IntKind.i64.wrap ((c0 : Int) + c2) = (c0 : Int) + c2 := IntWalk.i64_in _ (by omega)
        refine wpI_start (Below wd.heap.size wd) [0, 1, 2, 3, 4, 5, 6, 8, 9, 10, 11, 12, 13, 14, 15, 7, 16, 17, 18] hmx rfl hwd ?_
        clear hwd
        iterate 15 (
          refine wpI_read (v := ?_) hbd rfl (by kernel_rfl) (by kernel_rfl) (by kernel_rfl) (fun _ _ _ h => h) (.inl ⟨by rfl, ?_⟩) ?_
          rotate_left
          · intro X hX
            have hXa := C0 X hX
            have hXb := C1 X hX
            have hXc := C2 X hX
            clear hX
            go_simp
            with_reducible rfl
          try simp only [Act.put, List.setIfInBounds_toArray, List.set_cons_zero, List.set_cons_succ])
        refine wpI_lone rfl (by kernel_rfl) (fun K hK => ?_)
        go_simp
        refine (counted_at _ _ _ (settleL s) wd (own_bsl HZ.out) HMZ.out ((c0 : Int) + c2) (c1) (0) K0.out K1.out K2.out).mono ?_
        rintro e wa ⟨rfl, bb⟩
        refine hK _ _ bb ?_
        clear hK K
        try simp only [Act.put, List.setIfInBounds_toArray, List.set_cons_zero, List.set_cons_succ]
        clear hbd
        have hbd : Below wd.heap.size wd wa := bb
        clear bb
        iterate 3 (
          refine wpI_read (v := ?_) hbd rfl (by kernel_rfl) (by kernel_rfl) (by kernel_rfl) (fun _ _ _ h => h) (.inl ⟨by rfl, ?_⟩) ?_
          rotate_left
          · intro X hX
            have hXa := C0 X hX
            have hXb := C1 X hX
            have hXc := C2 X hX
            clear hX
            go_simp
            with_reducible rfl
          try simp only [Act.put, List.setIfInBounds_toArray, List.set_cons_zero, List.set_cons_succ])
        refine wpI_done (by kernel_rfl) ?_
        replace HS := Lib.hid (HS.out.step hbd)
        replace HN := Lib.hid (HN.out.below hbd HN.out.lt)
        replace HE := Lib.hid (HE.out.trans (hbd.mono HE.out.size))
        clear hbd C0 C1 C2
        go_wp2_with fail
        go_ret
        exact ⟨rfl, HE.out⟩
      · have hgv := spGive_none a 256 c _ s k' (by omega) (by omega) wd HS.out HM.out h1
        clear hkk h1
        refine hgv.mono ?_
        rintro e w6 ⟨v, rfl, ho, bb⟩
        replace HS := Lib.hid (HS.out.step bb)
        replace HN := Lib.hid (HN.out.below bb HN.out.lt)
        replace HE := Lib.hid (HE.out.trans (bb.mono HE.out.size))
        obtain ⟨ag, cg, rfl⟩ := own_slice ho
        clear bb ho hgv
        go_wp2_with fail
        obtain ⟨wd, hwd⟩ : ∃ wd, w6.drew = wd := ⟨_, rfl⟩
        have bb : Below w6.heap.size w6 wd := by rw [← hwd]; exact (Below.refl _ w6).drew
        replace HS := Lib.hid (HS.out.step bb)
        replace HN := Lib.hid (HN.out.below bb HN.out.lt)
        replace HE := Lib.hid (HE.out.trans (bb.mono HE.out.size))
        clear bb
        have C0 := fun X (hX : Below wd.heap.size wd X) => (HN.out.below hX HN.out.lt).cell 0
        have C1 := fun X (hX : Below wd.heap.size wd X) => (HN.out.below hX HN.out.lt).cell 1
        have C2 := fun X (hX : Below wd.heap.size wd X) => (HN.out.below hX HN.out.lt).cell 2
        have hbd := Below.refl wd.heap.size wd
        refine wpI_start (Below wd.heap.size wd) [0, 1, 2, 3, 4, 5, 6, 7, 8, 9, 10, 11, 12, 13, 14, 15] hmx rfl hwd ?_
        clear hwd
        iterate 3 (
          refine wpI_read (v := ?_) hbd rfl (by kernel_rfl) (by kernel_rfl) (by kernel_rfl) (fun _ _ _ h => h) (.inl ⟨by rfl, ?_⟩) ?_
          rotate_left
          · intro X hX
            have hXa := C0 X hX
            have hXb := C1 X hX
            have hXc := C2 X hX
            clear hX
            go_simp
            with_reducible rfl
          try simp only [Act.put, List.setIfInBounds_toArray, List.set_cons_zero, List.set_cons_succ])
        iterate 12 (
          refine wpI_read (v := undef) hbd rfl (by kernel_rfl) (by kernel_rfl) (by kernel_rfl) (fun _ _ _ h => h) (.inr ⟨by rfl, rfl⟩) ?_
          try simp only [Act.put, List.setIfInBounds_toArray, List.set_cons_zero, List.set_cons_succ])
        iterate 1 (
          refine wpI_read (v := ?_) hbd rfl (by kernel_rfl) (by kernel_rfl) (by kernel_rfl) (fun _ _ _ h => h) (.inl ⟨by rfl, ?_⟩) ?_
          rotate_left
          · intro X hX
            clear hX
            go_simp
            with_reducible rfl
          try simp only [Act.put, List.setIfInBounds_toArray, List.set_cons_zero, List.set_cons_succ])
        refine wpI_done (by kernel_rfl) ?_
        replace HS := Lib.hid (HS.out.step hbd)
        replace HN := Lib.hid (HN.out.below hbd HN.out.lt)
        replace HE := Lib.hid (HE.out.trans (hbd.mono HE.out.size))
        clear hbd C0 C1 C2
        go_wp2_with fail
        refine (spSettle_ok a 256 c s wd HS.out HM.out).mono ?_
        rintro e w9 ⟨v, rfl, ho, bb⟩
        replace HS := Lib.hid (HS.out.step bb)
        replace HN := Lib.hid (HN.out.below bb HN.out.lt)
        replace HE := Lib.hid (HE.out.trans (bb.mono HE.out.size))
        rw [(settleL_may HM.out).1] at ho
        obtain ⟨az, cz, rfl⟩ := own_slice ho
        have HZ := Lib.hid ho
        clear bb ho
        have hcs := cnt_settled (s := s) (z := settleL s) (n := 256) fun i hi => settleL_mk HM.out hi
        rw [H0.out, H1.out, H2.out] at hcs
        have K0 := Lib.hid (show ((cntTo (settleL s) 0 256 : Nat) : Int) = (c0 : Int) + c2 by rw [hcs.1]; omega)
        have K1 := Lib.hid (show ((cntTo (settleL s) 1 256 : Nat) : Int) = (c1 : Int) by rw [hcs.2.1])
        have K2 := Lib.hid (show ((cntTo (settleL s) 2 256 : Nat) : Int) = 0 by rw [hcs.2.2]; rfl)
        have HMZ := Lib.hid (settleL_may HM.out)
        clear hcs
        go_wp2_with fail
        obtain ⟨wd, hwd⟩ : ∃ wd, w9.drew = wd := ⟨_, rfl⟩
        have bb : Below w9.heap.size w9 wd := by rw [← hwd]; exact (Below.refl _ w9).drew
        replace HZ := Lib.hid (own_below HZ.out bb)
        replace HS := Lib.hid (HS.out.step bb)
        replace HN := Lib.hid (HN.out.below bb HN.out.lt)
        replace HE := Lib.hid (HE.out.trans (bb.mono HE.out.size))
        clear bb
        have C0 := fun X (hX : Below wd.heap.size wd X) => (HN.out.below hX HN.out.lt).cell 0
        have C1 := fun X (hX : Below wd.heap.size wd X) => (HN.out.below hX HN.out.lt).cell 1
        have C2 := fun X (hX : Below wd.heap.size wd X) => (HN.out.below hX HN.out.lt).cell 2
        have hbd := Below.refl wd.heap.size wd
        have hq := fun X => eq3_yes ((c0 : Int) + c2) c1 0 X
        have hww : IntKind.i64.wrap ((c0 : Int) + c2) = (c0 : Int) + c2 := IntWalk.i64_in _ (by omega)
        refine wpI_start (Below wd.heap.size wd) [0, 1, 2, 3, 4, 5, 6, 8, 9, 10, 11, 12, 13, 14, 15, 7, 16, 17, 18] hmx rfl hwd ?_
        clear hwd
        iterate 15 (
          refine wpI_read (v := ?_) hbd rfl (by kernel_rfl) (by kernel_rfl) (by kernel_rfl) (fun _ _ _ h => h) (.inl ⟨by rfl, ?_⟩) ?_
          rotate_left
          · intro X hX
            have hXa := C0 X hX
            have hXb := C1 X hX
            have hXc := C2 X hX
            clear hX
            go_simp
            with_reducible rfl
          try simp only [Act.put, List.setIfInBounds_toArray, List.set_cons_zero, List.set_cons_succ])
        refine wpI_lone rfl (by kernel_rfl) (fun K hK => ?_)
        go_simp
        refine (counted_at _ _ _ (settleL s) wd (own_bsl HZ.out) HMZ.out ((c0 : Int) + c2) (c1) (0) K0.out K1.out K2.out).mono ?_
        rintro e wa ⟨rfl, bb⟩
        refine hK _ _ bb ?_
        clear hK K
        try simp only [Act.put, List.setIfInBounds_toArray, List.set_cons_zero, List.set_cons_succ]
        clear hbd
        have hbd : Below wd.heap.size wd wa := bb
        clear bb
        iterate 3 (
          refine wpI_read (v := ?_) hbd rfl (by kernel_rfl) (by kernel_rfl) (by kernel_rfl) (fun _ _ _ h => h) (.inl ⟨by rfl, ?_⟩) ?_
          rotate_left
          · intro X hX
            have hXa := C0 X hX
            have hXb := C1 X hX
            have hXc := C2 X hX
            clear hX
            go_simp
            with_reducible rfl
          try simp only [Act.put, List.setIfInBounds_toArray, List.set_cons_zero, List.set_cons_succ])
        refine wpI_done (by kernel_rfl) ?_
        replace HS := Lib.hid (HS.out.step hbd)
        replace HN := Lib.hid (HN.out.below hbd HN.out.lt)
        replace HE := Lib.hid (HE.out.trans (hbd.mono HE.out.size))
        clear hbd C0 C1 C2
        go_wp2_with fail
        go_ret
        exact ⟨rfl, HE.out⟩
theorem spaceCounts_walk (a0 : Option Addr) (len0 cap0 : Nat) (s0 : List UInt8) (a1 : Int) (w : World) (h0 : Bsl w w.heap.size a0 len0 cap0 s0) (_w1 : (Lit.int .i64 a1).wf = true) :
    Calls Try.prog 6 #[.slice a0 len0 cap0, .int .i64 a1] w fun e w' => e = .returned (.bool true) ∧ Below w.heap.size w w' := by
  rcases MayT_dec s0 with hm | hm
  · exact spaceCounts_may a0 len0 cap0 s0 a1 w h0 hm
  · by_cases h : (len0 : Int) ≤ 10000
    · exact spaceCounts_not a0 len0 cap0 s0 a1 w h h0 hm
    · exact spaceCounts_far a0 len0 cap0 a1 w h0.len_le (by omega)
end Go.Proofs.Ytiekbgfglmfbkaa
namespace Go.Proofs.Ytiekbgfglmfbkaa.spaceCounts
open Go.ChangeShapes Go.WideShapes Go.ChangeAt Go.RowKit
set_option linter.unusedVariables false

theorem own : ownKnob Try.prog.godebug = none := by kernel_rfl
theorem laidOut : laidOutB Try.prog = true := by kernel_rfl

set_option maxRecDepth 100000 in
theorem lifted (os : Os) (started : os.Started) (H : Type) (enc : TypeId × Value → H) :
    ReturnsInHanded {} Try.checked os 6 .any (Rows.spaceCountsSpec.pre6 enc Try.prog Try.f6 Rows.spaceCountsRow.domain false) (Rows.spaceCountsSpec.post enc Try.prog Try.f6 false true false false) := by
  refine returnsInHanded_of_change (C := Try.checked) own started (by kernel_rfl) Try.func6
    (ChangeSpec.witness6 (enc := enc) (C := Try.checked) false ⟨#[], #[.slice none 0 0, .int .i64 0], []⟩ 8 (by kernel_rfl) (by kernel_rfl) (by kernel_rfl) (by kernel_rfl)) ?_
  intro W base args ds gs before hval0 hW hcnd _
  have hval : ∀ (j : Nat) t v, Try.f6.params[j]? = some t → args[j]? = some v → Value.okWide Try.prog W .any base t v := hval0
  have hW' := hW
  obtain ⟨p, q, hA0, hV, rfl, hfz, hnd⟩ := hW
  have hA : DataW.TrodAll enc Try.prog W 0 (fun _ => true) true Try.f6.params.toList args.toList ds p := hA0
  rw [Try.params6] at hA hval
  obtain ⟨v0, vs0, d0, ds0, p0, q0, hargs, rfl, rfl, h0, r0⟩ := trodAll_cons hA
  obtain ⟨v1, vs1, d1, ds1, p1, q1, rfl, rfl, rfl, h1, r1⟩ := trodAll_cons r0
  obtain ⟨rfl, rfl, rfl⟩ := trodAll_nil r1
  obtain rfl : args = #[v0, v1] := by cases args; simp_all
  obtain ⟨rfl, rfl⟩ := trodVars_none hV
  obtain ⟨a0, len0, cap0, rfl⟩ := okWide_slice Try.underlying26 (hval 0 26 v0 rfl rfl)
  have k0 := h0
  have lt0 : ∀ x ∈ p0, x.block < W.heap.size := by obtain ⟨m, hm⟩ := k0; exact DataW.trod_lt m _ _ _ hm
  obtain ⟨z0, w0⟩ : ∃ zs, IsRow .u8 W a0 len0 cap0 zs := by
    obtain ⟨fuel, hf⟩ := h0
    rcases open_ints Try.underlying26 Try.underlying5 (by kernel_rfl) hf with ⟨hcs, _⟩ | ⟨x, l, c, zs, hcs, _, hl, hm, hz, _, hcell, hwz⟩
    · simp [Value.cells] at hcs
      obtain ⟨rfl, rfl, rfl⟩ := hcs
      exact ⟨[], .inl ⟨rfl, rfl, rfl, rfl⟩⟩
    · simp [Value.cells] at hcs
      obtain ⟨rfl, rfl, rfl⟩ := hcs
      exact ⟨zs, .inr ⟨_, rfl, hl, hm, by simpa using hz, hcell, hwz⟩⟩
  obtain ⟨a1, rfl, rfl, rfl, w1⟩ := open_int Try.underlying3 (hval 1 3 v1 rfl rfl) h1
  clear hA0 hval0
  refine (spaceCounts_walk a0 len0 cap0 _ a1 W (bsl_of_row w0) w1).mono fun e W' ⟨he, bel⟩ => ?_
  subst he
  exact ⟨_, rfl, _, _, _, [], _, [], hW', trodAll_mk1 (shut_bool Try.underlying4 _), (trodAll_cons_mk (Below.trod laidOut (by kernel_rfl) (of_decide_eq_true (by kernel_rfl)) k0 bel lt0) (trodAll_cons_mk (shut_int Try.underlying3 w1) trodAll_mk0)), rfl, bel.frame _, fun h => by cases h⟩

theorem over : Rows.spaceCountsRow.holds Try.pinned (OpenSpec.ofChange Rows.spaceCountsSpec) :=
  OpenClaim.holds_of_wide 6 Try.f6 rfl rfl rfl rfl rfl rfl rfl ⟨rfl, rfl, rfl, rfl, rfl⟩ rfl rfl rfl rfl rfl (by kernel_rfl) Try.func6 (by kernel_rfl)
    (of_decide_eq_true (by kernel_rfl)) (by unfold Func.isWrapper; first | (rw [if_pos (by decide +kernel)]; kernel_rfl) | (rw [if_neg (by decide +kernel)]; exact ⟨rfl, rfl⟩))
    (fun os started H enc _ => lifted os started H enc)

/-- The statement. -/
theorem proved : Rows.SpaceCountsSaid := over
end Go.Proofs.Ytiekbgfglmfbkaa.spaceCounts
