/-
  StoreNumbersSaid: for any store, key, and how many blocks are sealed (where they are great the law itself answers what its example answers) each block's number is greater than the one ahead, and none is of another Epoch. No condition.
-/
import Derived.Test.YtdpmdlibgabjaaaRows
import Derived.Laws.BitsAllLaws
import Derived.Test.YtdpmdlibgabjaaaPkSP6
namespace Go.Proofs.Ytdpmdlibgabjaaa
open Go.RowKit Go.Shelf
set_option maxRecDepth 100000

theorem or_16 (z x : Nat) (hx : x < 65536) (hz : z * 65536 < 4294967296) : bits .or .u32 ((z * 65536 : Nat) : Int) (x : Int) = ((z * 65536 + x : Nat) : Int) := by
  rw [u32_or_nat _ _ hz (by omega)]
  congr 1
  have h := Nat.two_pow_add_eq_or_of_lt (i := 16) (b := x) (by omega) z
  rw [show z * 65536 = 2 ^ 16 * z by omega, ← h]
theorem shl_16 (z : Nat) (hz : z * 65536 < 4294967296) : IntKind.u32.wrap ((z : Int) * 65536) = ((z * 65536 : Nat) : Int) := by
  rw [IntWalk.u32_in _ (by omega)]
  omega
theorem eqP_none (W : World) : (Op.equalIn 10000 32 (.agg #[.int .i64 0, .int .u32 0, .int .u32 0, .int .u32 0, .int .u32 0]) (.agg #[.int .i64 0, .int .u32 0, .int .u32 0, .int .u32 0, .int .u32 0])).run Try.prog W = .ok true W := by
  have := eqPt_zero 0 0 0 0 0 W
  rw [(eqP_iff _ _).2 rfl] at this
  exact this
set_option maxHeartbeats 64000000 in
theorem storeNumbers_at (x : SAt) (S : StL) (B : Option Addr) (ck : Nat) (key : List UInt8) (many : Int) (w : World) (h : Str w w.heap.size x S) (hnear : Near S.1) (hwf : WfS S) (hK : Bsl w w.heap.size B key.length ck key) (hm0 : 0 ≤ many) (hm9 : many ≤ 255) :
    Calls Try.prog 4 #[stV x S, .slice B key.length ck, .int .u8 many] w fun e w' => e = .returned (.bool true) ∧ Below w.heap.size w w' := by
  have hmx : Try.prog.follows Departure.mixedOrders = true := by kernel_rfl
  obtain ⟨Z, hZ⟩ : ∃ Z, List.replicate 256 (0 : UInt8) = Z := ⟨_, rfl⟩
  have HZN := Lib.hid hZ
  have HZL := Lib.hid (show Z.length = 256 by rw [← hZ]; exact List.length_replicate ..)
  have h1 := h.lasts (Nat.le_refl _)
  have HK0 := Lib.hid hK
  have lk9 := hK.len_le
  have lk0 : (0 : Int) ≤ key.length := by omega
  obtain ⟨L, hL⟩ : ∃ L, w.heap.size = L := ⟨_, rfl⟩
  have HLE := Lib.hid hL
  rw [hL] at h1
  obtain ⟨w0, hw0⟩ : ∃ w0, w.alloc (.cells (stC x S) 30) = w0 := ⟨_, rfl⟩
  have b0 : Below w.heap.size w w0 := by rw [← hw0]; exact (Below.refl _ w).alloc (Nat.le_refl _) _
  have HX := Lib.hid (show Blk w0 w.heap.size 30 (stC x S) by rw [← hw0]; exact Blk.new w _ _)
  have HT := Lib.hid (h1.bel b0)
  have HLW := Lib.hid (show L ≤ w0.heap.size by rw [← hL]; exact b0.size)
  have HB := Lib.hid b0
  have HN := Lib.hid hnear
  have HWF := Lib.hid hwf
  have HKY := Lib.hid (hK.step b0)
  rw [hL] at HX
  simp only [stC] at hw0
  clear h h1 b0 hnear hwf hK hZ
  go_enter Try.func4, Try.ntmps4
  go_wp2_with fail
  try rw [hw0]
  try rw [hL]
  clear hw0 hL
  refine (stAlive_any w0).mono ?_
  rintro e w1 ⟨rfl, b1⟩
  replace HX := Lib.hid (HX.out.below b1 HX.out.lt)
  replace HT := Lib.hid (HT.out.bel b1)
  replace HKY := Lib.hid (HKY.out.step b1)
  replace HB := Lib.hid (HB.out.trans (b1.mono HB.out.size))
  replace HLW := Lib.hid (Nat.le_trans HLW.out b1.size)
  clear b1
  have d0 := bx0 HX.out
  have d1 := bx1 HX.out
  have d2 := bx2 HX.out
  have d3 := bx3 HX.out
  have d4 := bx4 HX.out
  have HGR := Lib.hid (rtGreat_any L x S w1 HT.out HN.out)
  go_wp2_with fail
  clear d0 d1 d2 d3 d4
  refine HGR.out.mono ?_
  rintro e w2 ⟨gr, rfl, hsm, b2⟩
  replace HX := Lib.hid (HX.out.below b2 HX.out.lt)
  replace HT := Lib.hid (HT.out.bel b2)
  replace HKY := Lib.hid (HKY.out.step b2)
  replace HB := Lib.hid (HB.out.trans (b2.mono HB.out.size))
  replace HLW := Lib.hid (Nat.le_trans HLW.out b2.size)
  clear b2 HGR
  cases gr with
  | true =>
    go_wp2_with fail
    go_ret
    exact ⟨rfl, HB.out⟩
  | false =>
    have HOK := Lib.hid (show OkS S from ⟨small_fits (hsm rfl).1, by have := (hsm rfl).2; omega, HWF.out⟩)
    clear hsm
    by_cases h1 : (100 : Int) < key.length
    · go_wp2_with fail
      go_ret
      exact ⟨rfl, HB.out⟩
    · by_cases h2 : (20 : Int) < many
      · go_wp2_with fail
        go_ret
        exact ⟨rfl, HB.out⟩
      · obtain ⟨E0, hE0⟩ : ∃ n : Nat, S.2.2.1 = n := ⟨_, rfl⟩
        obtain ⟨C0, hC0⟩ : ∃ n : Nat, S.2.2.2 = n := ⟨_, rfl⟩
        obtain ⟨z0, hz0⟩ : ∃ z : Int, IntKind.u32.wrap ((E0 : Int) * 65536) = z := ⟨_, rfl⟩
        obtain ⟨v0, hv0⟩ : ∃ z : Int, bits .or .u32 z0 (C0 : Int) = z := ⟨_, rfl⟩
        have HV0 := Lib.hid (show MayS S → v0 = ((S.2.2.1 * 65536 + S.2.2.2 : Nat) : Int) by
          intro hm
          have h5 := hm.2.2.1.2
          have h6 := hm.2.2.2
          rw [← hv0, ← hz0, ← hE0, ← hC0, shl_16 _ (by omega), or_16 _ _ (by omega) (by omega)])
        have d2 := bx2 HX.out
        have d3 := bx3 HX.out
        have d2' := d2
        have d3' := bx3 HX.out
        have d4' := bx4 HX.out
        rw [hE0] at d3'
        rw [hC0] at d4'
        clear d2 d3 d2' hE0 hC0
        go_wp2_with fail
        clear d3' d4' h1 h2 hz0 hv0
        obtain ⟨mn, hmn⟩ : ∃ n : Nat, many = (n : Int) := ⟨many.toNat, by omega⟩
        subst hmn
        have mn9 : (mn : Int) ≤ 255 := hm9
        go_loopw [8, 9] (fun lv i wr => ∃ (j : Nat) (v : Int) (xk : SAt) (Sk : StL), j ≤ mn ∧ i = .int .i64 j ∧ lv = .int .u32 v ∧ Hid (Blk wr L 30 (stC xk Sk)) ∧ Hid (StP L wr xk Sk) ∧ Hid (OkS Sk) ∧ Hid (MayS Sk → v = ((Sk.2.2.1 * 65536 + Sk.2.2.2 : Nat) : Int)) ∧ Hid (Below w.heap.size w wr)) (fun _ i _ => mn - (intOf i).toNat)
        case atStart => exact ⟨0, v0, x, S, Nat.zero_le _, rfl, rfl, HX, HT, HOK, HV0, HB⟩
        case round =>
          clear HX HT HLW HB HKY HOK HN HWF HV0
          obtain ⟨j, v, xk, Sk, hj, rfl, rfl, HX, HT, HOK, HV, HB⟩ := hrel
          have HLW := Lib.hid (show L ≤ wr.heap.size by rw [← HLE.out]; exact HB.out.size)
          have HKY := Lib.hid ((HK0.out.below HB.out).more HB.out.size)
          have j0 : (0 : Int) ≤ j := by omega
          by_cases hlt : j < mn
          · have j1 : (j : Int) < mn := by omega
            obtain ⟨⟨T, ⟨pa, pb, pi, pt, ps⟩, er⟩, ho⟩ : ∃ o, sealO Sk 1 key Z = o := ⟨_, rfl⟩
            have HO := Lib.hid ho
            clear ho
            go_wp2_with fail
            go_cut [10, 11, 12] from 34 to 82 (fun a b c wx => ∃ gA gB y, gA ≠ L ∧ a = .pointer (some ⟨gA, 0, none⟩) ∧ b = .pointer (some ⟨gB, 0, none⟩) ∧ c = .int .i64 (er : Int) ∧ Blk wx gA 30 (stC y T) ∧ Blk wx gB 32 #[.int .i64 pa, .int .u32 (pb : Int), .int .u32 (pi : Int), .int .u32 (pt : Int), .int .u32 (ps : Int)] ∧ StP L wx y T ∧ Below wr.heap.size wr wx)
            case first =>
              obtain ⟨wd, hwd⟩ : ∃ wd, wr.drew = wd := ⟨_, rfl⟩
              have HBd := Lib.hid (show Below wr.heap.size wr wd by rw [← hwd]; exact (Below.refl _ _).drew)
              have HXd := Lib.hid (HX.out.below HBd.out HX.out.lt)
              have HTd := Lib.hid (HT.out.bel HBd.out)
              have HKd := Lib.hid (HKY.out.step HBd.out)
              have HLD := Lib.hid (Nat.le_trans HLW.out HBd.out.size)
              have HW_ := Lib.hid (Below.refl wd.heap.size wd)
              have HC : Hid (∀ (gz : Nat) (W : World), Below wd.heap.size wd W → Bsl W W.heap.size (some ⟨gz, 0, none⟩) 256 256 Z → Calls Try.prog 11 #[stV xk Sk, .int .u32 1, .slice B key.length ck, .slice (some ⟨gz, 0, none⟩) 256 256] W (NewSP (T, (pa, pb, pi, pt, ps), er) W)) := Lib.hid (fun gz W hb hz => by
                have hc := stSeal_any L xk Sk 1 B ck key (some ⟨gz, 0, none⟩) 256 Z W (HTd.out.bel hb) (HKd.out.step hb) (by rw [HZL.out]; exact hz) HOK.out (Nat.le_trans HLD.out hb.size) (by omega)
                rw [HO.out, HZL.out] at hc
                exact hc)
              have mz : ∀ W : World, (Instr.makeSlice 23 (.int .i64 256) (.int .i64 256)).run Try.prog W = .ok (.slice (some ⟨W.heap.size, 0, none⟩) 256 256) (W.alloc (.cells (Array.replicate 256 (.int .u8 0)) 5)) := fun W => make_noughts 256 (by omega) W
              refine wpI_start (Below wd.heap.size wd) [0, 1, 2, 8, 9, 3, 4, 5, 6, 7, 10, 11, 12] hmx rfl hwd ?_
              clear hwd
              iterate 2 (
                refine wpI_read (v := ?_) HW_.out rfl (by kernel_rfl) (by kernel_rfl) (by kernel_rfl) (fun _ _ _ h => h) (.inl ⟨by rfl, ?_⟩) ?_
                rotate_left
                · intro X hX
                  have hx := HXd.out.below hX HXd.out.lt
                  have c0 := stC0 hx
                  have c1 := stC1 hx
                  have c2 := stC2 hx
                  have c3 := stC3 hx
                  have c4 := stC4 hx
                  clear hX hx
                  go_simp
                  with_reducible rfl
                try simp only [Act.put, List.setIfInBounds_toArray, List.set_cons_zero, List.set_cons_succ])
              refine wpI_turn [2, 8, 9, 3, 4, 5, 6, 7, 10, 11, 12] rfl ?_
              refine wpI_fork3 rfl rfl rfl (by kernel_rfl) (fun K hK => ?_) (fun K hK => ?_) (fun K hK => ?_)
              · go_simp
                have bq := (Below.refl wd.heap.size wd).alloc (Nat.le_refl _) (.cells (Array.replicate 256 (.int .u8 0)) 5)
                have xz := noughts_bsl 256 (by omega) wd
                rw [HZN.out] at xz
                obtain ⟨ww1, hn⟩ : ∃ X, wd.alloc (.cells (Array.replicate 256 (.int .u8 0)) 5) = X := ⟨_, rfl⟩
                obtain ⟨gz, hgz⟩ : ∃ X, wd.heap.size = X := ⟨_, rfl⟩
                rw [hn] at bq xz ⊢
                rw [hgz] at xz ⊢
                replace HW_ := Lib.hid (HW_.out.trans (bq.mono HW_.out.size))
                have HZ_ := Lib.hid xz
                refine hK _ _ HW_.out ?_
                clear hK K hn hgz xz bq
                try simp only [Act.put, List.setIfInBounds_toArray, List.set_cons_zero, List.set_cons_succ]
                refine wpI_turn [3, 8, 9, 4, 5, 6, 7, 10, 11, 12] rfl ?_
                refine wpI_fork3 rfl rfl rfl (by kernel_rfl) (fun K hK => ?_) (fun K hK => ?_) (fun K hK => ?_)
                · go_simp
                  refine (HC.out gz ww1 HW_.out HZ_.out).mono ?_
                  rintro ev ww2 ⟨y, rfl, hy, _, bq⟩
                  replace HW_ := Lib.hid (HW_.out.trans (bq.mono HW_.out.size))
                  replace HZ_ := Lib.hid (HZ_.out.step bq)
                  have HY_ := Lib.hid (StP.any (L := L) hy)
                  refine hK _ _ HW_.out ?_
                  clear hK K hy bq
                  simp only [stV, ptV]
                  try simp only [Act.put, List.setIfInBounds_toArray, List.set_cons_zero, List.set_cons_succ]
                  refine wpI_turn [4, 5, 6, 7, 8, 9, 10, 11, 12] rfl ?_
                  iterate 4 (
                    refine wpI_read (v := ?_) HW_.out rfl (by kernel_rfl) (by kernel_rfl) (by kernel_rfl) (fun _ _ _ h => h) (.inl ⟨by rfl, ?_⟩) ?_
                    rotate_left
                    · intro X hX
                      clear hX
                      go_simp
                      with_reducible rfl
                    try simp only [Act.put, List.setIfInBounds_toArray, List.set_cons_zero, List.set_cons_succ])
                  refine wpI_turn [8, 9, 10, 11, 12] rfl ?_
                  refine wpI_fork rfl rfl (by kernel_rfl) (fun K hK => ?_) (fun K hK => ?_)
                  · go_simp
                    have bq := (Below.refl ww2.heap.size ww2).alloc (Nat.le_refl _) (.cells #[.slice none 0 0, .slice none 0 0, .slice none 0 0, .int .u32 0, .int .u32 0] 30)
                    have hx := Blk.new ww2 30 #[.slice none 0 0, .slice none 0 0, .slice none 0 0, .int .u32 0, .int .u32 0]
                    obtain ⟨ww3, hn⟩ : ∃ X, ww2.alloc (.cells #[.slice none 0 0, .slice none 0 0, .slice none 0 0, .int .u32 0, .int .u32 0] 30) = X := ⟨_, rfl⟩
                    obtain ⟨gA, hg⟩ : ∃ X, ww2.heap.size = X := ⟨_, rfl⟩
                    have HGA := Lib.hid (show wd.heap.size ≤ gA by rw [← hg]; exact HW_.out.size)
                    rw [hn] at bq hx ⊢
                    rw [hg] at hx ⊢
                    replace HW_ := Lib.hid (HW_.out.trans (bq.mono HW_.out.size))
                    replace HZ_ := Lib.hid (HZ_.out.step bq)
                    replace HY_ := Lib.hid (HY_.out.bel bq)
                    have HA_ := Lib.hid hx
                    refine hK _ _ HW_.out ?_
                    clear hK K hn hg hx bq
                    try simp only [Act.put, List.setIfInBounds_toArray, List.set_cons_zero, List.set_cons_succ]
                    refine wpI_turn [9, 10, 11, 12] rfl ?_
                    refine wpI_lone rfl (by kernel_rfl) (fun K hK => ?_)
                    go_simp
                    have bq := (Below.refl ww3.heap.size ww3).alloc (Nat.le_refl _) (.cells #[.int .i64 0, .int .u32 0, .int .u32 0, .int .u32 0, .int .u32 0] 32)
                    have hx := Blk.new ww3 32 #[.int .i64 0, .int .u32 0, .int .u32 0, .int .u32 0, .int .u32 0]
                    obtain ⟨ww4, hn⟩ : ∃ X, ww3.alloc (.cells #[.int .i64 0, .int .u32 0, .int .u32 0, .int .u32 0, .int .u32 0] 32) = X := ⟨_, rfl⟩
                    obtain ⟨gB, hg⟩ : ∃ X, ww3.heap.size = X := ⟨_, rfl⟩
                    have HGB := Lib.hid (show wd.heap.size ≤ gB by rw [← hg]; exact HW_.out.size)
                    rw [hn] at bq hx ⊢
                    rw [hg] at hx ⊢
                    replace HW_ := Lib.hid (HW_.out.trans (bq.mono HW_.out.size))
                    replace HZ_ := Lib.hid (HZ_.out.step bq)
                    replace HA_ := Lib.hid (HA_.out.below bq HA_.out.lt)
                    replace HY_ := Lib.hid (HY_.out.bel bq)
                    have HB_ := Lib.hid hx
                    refine hK _ _ HW_.out ?_
                    clear hK K hn hg hx bq
                    try simp only [Act.put, List.setIfInBounds_toArray, List.set_cons_zero, List.set_cons_succ]
                    have HNE := Lib.hid (show gA ≠ gB from HA_.out.ne HB_.out (by decide))
                    refine wpI_lone rfl (by kernel_rfl) (fun K hK => ?_)
                    have m0 := stZ0 HA_.out
                    have m1 := stZ1 HA_.out
                    have m2 := stZ2 HA_.out
                    have m3 := stZ3 HA_.out
                    have m4 := stZ4 HA_.out
                    have hfz := fun i => HA_.out.frozen i
                    obtain ⟨xa, ka, ba⟩ := box_five (L := L) HA_.out (by decide) (Nat.le_trans HLD.out HGA.out) HW_.out HGA.out (.slice y.d.ba T.1.1.length y.d.bc) (.slice y.d.wa T.1.2.length y.d.wc) (.slice y.a T.2.1.length y.c) (.int .u32 (T.2.2.1 : Int)) (.int .u32 (T.2.2.2 : Int))
                    have xo := far5_bl HB_.out (HNE.out.symm) (.slice y.d.ba T.1.1.length y.d.bc) (.slice y.d.wa T.1.2.length y.d.wc) (.slice y.a T.2.1.length y.c) (.int .u32 (T.2.2.1 : Int)) (.int .u32 (T.2.2.2 : Int))
                    obtain ⟨ww5, hn⟩ : ∃ X, set5 ww4 gA (.slice y.d.ba T.1.1.length y.d.bc) (.slice y.d.wa T.1.2.length y.d.wc) (.slice y.a T.2.1.length y.c) (.int .u32 (T.2.2.1 : Int)) (.int .u32 (T.2.2.2 : Int)) = X := ⟨_, rfl⟩
                    rw [hn] at xa ka ba xo
                    simp only [set5] at hn
                    go_simp
                    replace HW_ := Lib.hid ba
                    replace HA_ := Lib.hid xa
                    replace HB_ := Lib.hid xo
                    replace HY_ := Lib.hid (HY_.out.step ka)
                    refine hK _ _ HW_.out ?_
                    clear hK K hn xa ka ba xo hfz m0 m1 m2 m3 m4
                    try simp only [Act.put, List.setIfInBounds_toArray, List.set_cons_zero, List.set_cons_succ]
                    refine wpI_lone rfl (by kernel_rfl) (fun K hK => ?_)
                    have m0 := ptZ0 HB_.out
                    have m1 := ptZ1 HB_.out
                    have m2 := ptZ2 HB_.out
                    have m3 := ptZ3 HB_.out
                    have m4 := ptZ4 HB_.out
                    have hfz := fun i => HB_.out.frozen i
                    obtain ⟨xa, ka, ba⟩ := box_five (L := L) HB_.out (by decide) (Nat.le_trans HLD.out HGB.out) HW_.out HGB.out (.int .i64 pa) (.int .u32 (pb : Int)) (.int .u32 (pi : Int)) (.int .u32 (pt : Int)) (.int .u32 (ps : Int))
                    have xo := far5_bl HA_.out HNE.out (.int .i64 pa) (.int .u32 (pb : Int)) (.int .u32 (pi : Int)) (.int .u32 (pt : Int)) (.int .u32 (ps : Int))
                    obtain ⟨ww6, hn⟩ : ∃ X, set5 ww5 gB (.int .i64 pa) (.int .u32 (pb : Int)) (.int .u32 (pi : Int)) (.int .u32 (pt : Int)) (.int .u32 (ps : Int)) = X := ⟨_, rfl⟩
                    rw [hn] at xa ka ba xo
                    simp only [set5] at hn
                    go_simp
                    replace HW_ := Lib.hid ba
                    replace HB_ := Lib.hid xa
                    replace HA_ := Lib.hid xo
                    replace HY_ := Lib.hid (HY_.out.step ka)
                    refine hK _ _ HW_.out ?_
                    clear hK K hn xa ka ba xo hfz m0 m1 m2 m3 m4
                    try simp only [Act.put, List.setIfInBounds_toArray, List.set_cons_zero, List.set_cons_succ]
                    iterate 1 (
                      refine wpI_read (v := ?_) HW_.out rfl (by kernel_rfl) (by kernel_rfl) (by kernel_rfl) (fun _ _ _ h => h) (.inl ⟨by rfl, ?_⟩) ?_
                      rotate_left
                      · intro X hX
                        clear hX
                        go_simp
                        with_reducible rfl
                      try simp only [Act.put, List.setIfInBounds_toArray, List.set_cons_zero, List.set_cons_succ])
                    refine wpI_done (by kernel_rfl) ?_
                    go_wp2_with fail
                    go_meet
                    exact ⟨gA, gB, y, by have h1 := HGA.out; have h2 := HXd.out.lt; omega, rfl, rfl, rfl, HA_.out, HB_.out, HY_.out, HBd.out.trans (HW_.out.mono HBd.out.size)⟩

                  · go_simp
                    have bq := (Below.refl ww2.heap.size ww2).alloc (Nat.le_refl _) (.cells #[.int .i64 0, .int .u32 0, .int .u32 0, .int .u32 0, .int .u32 0] 32)
                    have hx := Blk.new ww2 32 #[.int .i64 0, .int .u32 0, .int .u32 0, .int .u32 0, .int .u32 0]
                    obtain ⟨ww3, hn⟩ : ∃ X, ww2.alloc (.cells #[.int .i64 0, .int .u32 0, .int .u32 0, .int .u32 0, .int .u32 0] 32) = X := ⟨_, rfl⟩
                    obtain ⟨gB, hg⟩ : ∃ X, ww2.heap.size = X := ⟨_, rfl⟩
                    have HGB := Lib.hid (show wd.heap.size ≤ gB by rw [← hg]; exact HW_.out.size)
                    rw [hn] at bq hx ⊢
                    rw [hg] at hx ⊢
                    replace HW_ := Lib.hid (HW_.out.trans (bq.mono HW_.out.size))
                    replace HZ_ := Lib.hid (HZ_.out.step bq)
                    replace HY_ := Lib.hid (HY_.out.bel bq)
                    have HB_ := Lib.hid hx
                    refine hK _ _ HW_.out ?_
                    clear hK K hn hg hx bq
                    try simp only [Act.put, List.setIfInBounds_toArray, List.set_cons_zero, List.set_cons_succ]
                    refine wpI_turn [8, 10, 11, 12] rfl ?_
                    refine wpI_lone rfl (by kernel_rfl) (fun K hK => ?_)
                    go_simp
                    have bq := (Below.refl ww3.heap.size ww3).alloc (Nat.le_refl _) (.cells #[.slice none 0 0, .slice none 0 0, .slice none 0 0, .int .u32 0, .int .u32 0] 30)
                    have hx := Blk.new ww3 30 #[.slice none 0 0, .slice none 0 0, .slice none 0 0, .int .u32 0, .int .u32 0]
                    obtain ⟨ww4, hn⟩ : ∃ X, ww3.alloc (.cells #[.slice none 0 0, .slice none 0 0, .slice none 0 0, .int .u32 0, .int .u32 0] 30) = X := ⟨_, rfl⟩
                    obtain ⟨gA, hg⟩ : ∃ X, ww3.heap.size = X := ⟨_, rfl⟩
                    have HGA := Lib.hid (show wd.heap.size ≤ gA by rw [← hg]; exact HW_.out.size)
                    rw [hn] at bq hx ⊢
                    rw [hg] at hx ⊢
                    replace HW_ := Lib.hid (HW_.out.trans (bq.mono HW_.out.size))
                    replace HZ_ := Lib.hid (HZ_.out.step bq)
                    replace HB_ := Lib.hid (HB_.out.below bq HB_.out.lt)
                    replace HY_ := Lib.hid (HY_.out.bel bq)
                    have HA_ := Lib.hid hx
                    refine hK _ _ HW_.out ?_
                    clear hK K hn hg hx bq
                    try simp only [Act.put, List.setIfInBounds_toArray, List.set_cons_zero, List.set_cons_succ]
                    have HNE := Lib.hid (show gA ≠ gB from HA_.out.ne HB_.out (by decide))
                    refine wpI_lone rfl (by kernel_rfl) (fun K hK => ?_)
                    have m0 := stZ0 HA_.out
                    have m1 := stZ1 HA_.out
                    have m2 := stZ2 HA_.out
                    have m3 := stZ3 HA_.out
                    have m4 := stZ4 HA_.out
                    have hfz := fun i => HA_.out.frozen i
                    obtain ⟨xa, ka, ba⟩ := box_five (L := L) HA_.out (by decide) (Nat.le_trans HLD.out HGA.out) HW_.out HGA.out (.slice y.d.ba T.1.1.length y.d.bc) (.slice y.d.wa T.1.2.length y.d.wc) (.slice y.a T.2.1.length y.c) (.int .u32 (T.2.2.1 : Int)) (.int .u32 (T.2.2.2 : Int))
                    have xo := far5_bl HB_.out (HNE.out.symm) (.slice y.d.ba T.1.1.length y.d.bc) (.slice y.d.wa T.1.2.length y.d.wc) (.slice y.a T.2.1.length y.c) (.int .u32 (T.2.2.1 : Int)) (.int .u32 (T.2.2.2 : Int))
                    obtain ⟨ww5, hn⟩ : ∃ X, set5 ww4 gA (.slice y.d.ba T.1.1.length y.d.bc) (.slice y.d.wa T.1.2.length y.d.wc) (.slice y.a T.2.1.length y.c) (.int .u32 (T.2.2.1 : Int)) (.int .u32 (T.2.2.2 : Int)) = X := ⟨_, rfl⟩
                    rw [hn] at xa ka ba xo
                    simp only [set5] at hn
                    go_simp
                    replace HW_ := Lib.hid ba
                    replace HA_ := Lib.hid xa
                    replace HB_ := Lib.hid xo
                    replace HY_ := Lib.hid (HY_.out.step ka)
                    refine hK _ _ HW_.out ?_
                    clear hK K hn xa ka ba xo hfz m0 m1 m2 m3 m4
                    try simp only [Act.put, List.setIfInBounds_toArray, List.set_cons_zero, List.set_cons_succ]
                    refine wpI_lone rfl (by kernel_rfl) (fun K hK => ?_)
                    have m0 := ptZ0 HB_.out
                    have m1 := ptZ1 HB_.out
                    have m2 := ptZ2 HB_.out
                    have m3 := ptZ3 HB_.out
                    have m4 := ptZ4 HB_.out
                    have hfz := fun i => HB_.out.frozen i
                    obtain ⟨xa, ka, ba⟩ := box_five (L := L) HB_.out (by decide) (Nat.le_trans HLD.out HGB.out) HW_.out HGB.out (.int .i64 pa) (.int .u32 (pb : Int)) (.int .u32 (pi : Int)) (.int .u32 (pt : Int)) (.int .u32 (ps : Int))
                    have xo := far5_bl HA_.out HNE.out (.int .i64 pa) (.int .u32 (pb : Int)) (.int .u32 (pi : Int)) (.int .u32 (pt : Int)) (.int .u32 (ps : Int))
                    obtain ⟨ww6, hn⟩ : ∃ X, set5 ww5 gB (.int .i64 pa) (.int .u32 (pb : Int)) (.int .u32 (pi : Int)) (.int .u32 (pt : Int)) (.int .u32 (ps : Int)) = X := ⟨_, rfl⟩
                    rw [hn] at xa ka ba xo
                    simp only [set5] at hn
                    go_simp
                    replace HW_ := Lib.hid ba
                    replace HB_ := Lib.hid xa
                    replace HA_ := Lib.hid xo
                    replace HY_ := Lib.hid (HY_.out.step ka)
                    refine hK _ _ HW_.out ?_
                    clear hK K hn xa ka ba xo hfz m0 m1 m2 m3 m4
                    try simp only [Act.put, List.setIfInBounds_toArray, List.set_cons_zero, List.set_cons_succ]
                    iterate 1 (
                      refine wpI_read (v := ?_) HW_.out rfl (by kernel_rfl) (by kernel_rfl) (by kernel_rfl) (fun _ _ _ h => h) (.inl ⟨by rfl, ?_⟩) ?_
                      rotate_left
                      · intro X hX
                        clear hX
                        go_simp
                        with_reducible rfl
                      try simp only [Act.put, List.setIfInBounds_toArray, List.set_cons_zero, List.set_cons_succ])
                    refine wpI_done (by kernel_rfl) ?_
                    go_wp2_with fail
                    go_meet
                    exact ⟨gA, gB, y, by have h1 := HGA.out; have h2 := HXd.out.lt; omega, rfl, rfl, rfl, HA_.out, HB_.out, HY_.out, HBd.out.trans (HW_.out.mono HBd.out.size)⟩

                · go_simp
                  have bq := (Below.refl ww1.heap.size ww1).alloc (Nat.le_refl _) (.cells #[.slice none 0 0, .slice none 0 0, .slice none 0 0, .int .u32 0, .int .u32 0] 30)
                  have hx := Blk.new ww1 30 #[.slice none 0 0, .slice none 0 0, .slice none 0 0, .int .u32 0, .int .u32 0]
                  obtain ⟨ww2, hn⟩ : ∃ X, ww1.alloc (.cells #[.slice none 0 0, .slice none 0 0, .slice none 0 0, .int .u32 0, .int .u32 0] 30) = X := ⟨_, rfl⟩
                  obtain ⟨gA, hg⟩ : ∃ X, ww1.heap.size = X := ⟨_, rfl⟩
                  have HGA := Lib.hid (show wd.heap.size ≤ gA by rw [← hg]; exact HW_.out.size)
                  rw [hn] at bq hx ⊢
                  rw [hg] at hx ⊢
                  replace HW_ := Lib.hid (HW_.out.trans (bq.mono HW_.out.size))
                  replace HZ_ := Lib.hid (HZ_.out.step bq)
                  have HA_ := Lib.hid hx
                  refine hK _ _ HW_.out ?_
                  clear hK K hn hg hx bq
                  try simp only [Act.put, List.setIfInBounds_toArray, List.set_cons_zero, List.set_cons_succ]
                  refine wpI_turn [3, 9, 4, 5, 6, 7, 10, 11, 12] rfl ?_
                  refine wpI_fork rfl rfl (by kernel_rfl) (fun K hK => ?_) (fun K hK => ?_)
                  · go_simp
                    refine (HC.out gz ww2 HW_.out HZ_.out).mono ?_
                    rintro ev ww3 ⟨y, rfl, hy, _, bq⟩
                    replace HW_ := Lib.hid (HW_.out.trans (bq.mono HW_.out.size))
                    replace HZ_ := Lib.hid (HZ_.out.step bq)
                    replace HA_ := Lib.hid (HA_.out.below bq HA_.out.lt)
                    have HY_ := Lib.hid (StP.any (L := L) hy)
                    refine hK _ _ HW_.out ?_
                    clear hK K hy bq
                    simp only [stV, ptV]
                    try simp only [Act.put, List.setIfInBounds_toArray, List.set_cons_zero, List.set_cons_succ]
                    refine wpI_turn [4, 5, 6, 7, 9, 10, 11, 12] rfl ?_
                    iterate 4 (
                      refine wpI_read (v := ?_) HW_.out rfl (by kernel_rfl) (by kernel_rfl) (by kernel_rfl) (fun _ _ _ h => h) (.inl ⟨by rfl, ?_⟩) ?_
                      rotate_left
                      · intro X hX
                        clear hX
                        go_simp
                        with_reducible rfl
                      try simp only [Act.put, List.setIfInBounds_toArray, List.set_cons_zero, List.set_cons_succ])
                    refine wpI_turn [9, 10, 11, 12] rfl ?_
                    refine wpI_lone rfl (by kernel_rfl) (fun K hK => ?_)
                    go_simp
                    have bq := (Below.refl ww3.heap.size ww3).alloc (Nat.le_refl _) (.cells #[.int .i64 0, .int .u32 0, .int .u32 0, .int .u32 0, .int .u32 0] 32)
                    have hx := Blk.new ww3 32 #[.int .i64 0, .int .u32 0, .int .u32 0, .int .u32 0, .int .u32 0]
                    obtain ⟨ww4, hn⟩ : ∃ X, ww3.alloc (.cells #[.int .i64 0, .int .u32 0, .int .u32 0, .int .u32 0, .int .u32 0] 32) = X := ⟨_, rfl⟩
                    obtain ⟨gB, hg⟩ : ∃ X, ww3.heap.size = X := ⟨_, rfl⟩
                    have HGB := Lib.hid (show wd.heap.size ≤ gB by rw [← hg]; exact HW_.out.size)
                    rw [hn] at bq hx ⊢
                    rw [hg] at hx ⊢
                    replace HW_ := Lib.hid (HW_.out.trans (bq.mono HW_.out.size))
                    replace HZ_ := Lib.hid (HZ_.out.step bq)
                    replace HA_ := Lib.hid (HA_.out.below bq HA_.out.lt)
                    replace HY_ := Lib.hid (HY_.out.bel bq)
                    have HB_ := Lib.hid hx
                    refine hK _ _ HW_.out ?_
                    clear hK K hn hg hx bq
                    try simp only [Act.put, List.setIfInBounds_toArray, List.set_cons_zero, List.set_cons_succ]
                    have HNE := Lib.hid (show gA ≠ gB from HA_.out.ne HB_.out (by decide))
                    refine wpI_lone rfl (by kernel_rfl) (fun K hK => ?_)
                    have m0 := stZ0 HA_.out
                    have m1 := stZ1 HA_.out
                    have m2 := stZ2 HA_.out
                    have m3 := stZ3 HA_.out
                    have m4 := stZ4 HA_.out
                    have hfz := fun i => HA_.out.frozen i
                    obtain ⟨xa, ka, ba⟩ := box_five (L := L) HA_.out (by decide) (Nat.le_trans HLD.out HGA.out) HW_.out HGA.out (.slice y.d.ba T.1.1.length y.d.bc) (.slice y.d.wa T.1.2.length y.d.wc) (.slice y.a T.2.1.length y.c) (.int .u32 (T.2.2.1 : Int)) (.int .u32 (T.2.2.2 : Int))
                    have xo := far5_bl HB_.out (HNE.out.symm) (.slice y.d.ba T.1.1.length y.d.bc) (.slice y.d.wa T.1.2.length y.d.wc) (.slice y.a T.2.1.length y.c) (.int .u32 (T.2.2.1 : Int)) (.int .u32 (T.2.2.2 : Int))
                    obtain ⟨ww5, hn⟩ : ∃ X, set5 ww4 gA (.slice y.d.ba T.1.1.length y.d.bc) (.slice y.d.wa T.1.2.length y.d.wc) (.slice y.a T.2.1.length y.c) (.int .u32 (T.2.2.1 : Int)) (.int .u32 (T.2.2.2 : Int)) = X := ⟨_, rfl⟩
                    rw [hn] at xa ka ba xo
                    simp only [set5] at hn
                    go_simp
                    replace HW_ := Lib.hid ba
                    replace HA_ := Lib.hid xa
                    replace HB_ := Lib.hid xo
                    replace HY_ := Lib.hid (HY_.out.step ka)
                    refine hK _ _ HW_.out ?_
                    clear hK K hn xa ka ba xo hfz m0 m1 m2 m3 m4
                    try simp only [Act.put, List.setIfInBounds_toArray, List.set_cons_zero, List.set_cons_succ]
                    refine wpI_lone rfl (by kernel_rfl) (fun K hK => ?_)
                    have m0 := ptZ0 HB_.out
                    have m1 := ptZ1 HB_.out
                    have m2 := ptZ2 HB_.out
                    have m3 := ptZ3 HB_.out
                    have m4 := ptZ4 HB_.out
                    have hfz := fun i => HB_.out.frozen i
                    obtain ⟨xa, ka, ba⟩ := box_five (L := L) HB_.out (by decide) (Nat.le_trans HLD.out HGB.out) HW_.out HGB.out (.int .i64 pa) (.int .u32 (pb : Int)) (.int .u32 (pi : Int)) (.int .u32 (pt : Int)) (.int .u32 (ps : Int))
                    have xo := far5_bl HA_.out HNE.out (.int .i64 pa) (.int .u32 (pb : Int)) (.int .u32 (pi : Int)) (.int .u32 (pt : Int)) (.int .u32 (ps : Int))
                    obtain ⟨ww6, hn⟩ : ∃ X, set5 ww5 gB (.int .i64 pa) (.int .u32 (pb : Int)) (.int .u32 (pi : Int)) (.int .u32 (pt : Int)) (.int .u32 (ps : Int)) = X := ⟨_, rfl⟩
                    rw [hn] at xa ka ba xo
                    simp only [set5] at hn
                    go_simp
                    replace HW_ := Lib.hid ba
                    replace HB_ := Lib.hid xa
                    replace HA_ := Lib.hid xo
                    replace HY_ := Lib.hid (HY_.out.step ka)
                    refine hK _ _ HW_.out ?_
                    clear hK K hn xa ka ba xo hfz m0 m1 m2 m3 m4
                    try simp only [Act.put, List.setIfInBounds_toArray, List.set_cons_zero, List.set_cons_succ]
                    iterate 1 (
                      refine wpI_read (v := ?_) HW_.out rfl (by kernel_rfl) (by kernel_rfl) (by kernel_rfl) (fun _ _ _ h => h) (.inl ⟨by rfl, ?_⟩) ?_
                      rotate_left
                      · intro X hX
                        clear hX
                        go_simp
                        with_reducible rfl
                      try simp only [Act.put, List.setIfInBounds_toArray, List.set_cons_zero, List.set_cons_succ])
                    refine wpI_done (by kernel_rfl) ?_
                    go_wp2_with fail
                    go_meet
                    exact ⟨gA, gB, y, by have h1 := HGA.out; have h2 := HXd.out.lt; omega, rfl, rfl, rfl, HA_.out, HB_.out, HY_.out, HBd.out.trans (HW_.out.mono HBd.out.size)⟩

                  · go_simp
                    have bq := (Below.refl ww2.heap.size ww2).alloc (Nat.le_refl _) (.cells #[.int .i64 0, .int .u32 0, .int .u32 0, .int .u32 0, .int .u32 0] 32)
                    have hx := Blk.new ww2 32 #[.int .i64 0, .int .u32 0, .int .u32 0, .int .u32 0, .int .u32 0]
                    obtain ⟨ww3, hn⟩ : ∃ X, ww2.alloc (.cells #[.int .i64 0, .int .u32 0, .int .u32 0, .int .u32 0, .int .u32 0] 32) = X := ⟨_, rfl⟩
                    obtain ⟨gB, hg⟩ : ∃ X, ww2.heap.size = X := ⟨_, rfl⟩
                    have HGB := Lib.hid (show wd.heap.size ≤ gB by rw [← hg]; exact HW_.out.size)
                    rw [hn] at bq hx ⊢
                    rw [hg] at hx ⊢
                    replace HW_ := Lib.hid (HW_.out.trans (bq.mono HW_.out.size))
                    replace HZ_ := Lib.hid (HZ_.out.step bq)
                    replace HA_ := Lib.hid (HA_.out.below bq HA_.out.lt)
                    have HB_ := Lib.hid hx
                    refine hK _ _ HW_.out ?_
                    clear hK K hn hg hx bq
                    try simp only [Act.put, List.setIfInBounds_toArray, List.set_cons_zero, List.set_cons_succ]
                    refine wpI_turn [3, 4, 5, 6, 7, 10, 11, 12] rfl ?_
                    refine wpI_lone rfl (by kernel_rfl) (fun K hK => ?_)
                    go_simp
                    refine (HC.out gz ww3 HW_.out HZ_.out).mono ?_
                    rintro ev ww4 ⟨y, rfl, hy, _, bq⟩
                    replace HW_ := Lib.hid (HW_.out.trans (bq.mono HW_.out.size))
                    replace HZ_ := Lib.hid (HZ_.out.step bq)
                    replace HA_ := Lib.hid (HA_.out.below bq HA_.out.lt)
                    replace HB_ := Lib.hid (HB_.out.below bq HB_.out.lt)
                    have HY_ := Lib.hid (StP.any (L := L) hy)
                    refine hK _ _ HW_.out ?_
                    clear hK K hy bq
                    simp only [stV, ptV]
                    try simp only [Act.put, List.setIfInBounds_toArray, List.set_cons_zero, List.set_cons_succ]
                    iterate 4 (
                      refine wpI_read (v := ?_) HW_.out rfl (by kernel_rfl) (by kernel_rfl) (by kernel_rfl) (fun _ _ _ h => h) (.inl ⟨by rfl, ?_⟩) ?_
                      rotate_left
                      · intro X hX
                        clear hX
                        go_simp
                        with_reducible rfl
                      try simp only [Act.put, List.setIfInBounds_toArray, List.set_cons_zero, List.set_cons_succ])
                    have HNE := Lib.hid (show gA ≠ gB from HA_.out.ne HB_.out (by decide))
                    refine wpI_lone rfl (by kernel_rfl) (fun K hK => ?_)
                    have m0 := stZ0 HA_.out
                    have m1 := stZ1 HA_.out
                    have m2 := stZ2 HA_.out
                    have m3 := stZ3 HA_.out
                    have m4 := stZ4 HA_.out
                    have hfz := fun i => HA_.out.frozen i
                    obtain ⟨xa, ka, ba⟩ := box_five (L := L) HA_.out (by decide) (Nat.le_trans HLD.out HGA.out) HW_.out HGA.out (.slice y.d.ba T.1.1.length y.d.bc) (.slice y.d.wa T.1.2.length y.d.wc) (.slice y.a T.2.1.length y.c) (.int .u32 (T.2.2.1 : Int)) (.int .u32 (T.2.2.2 : Int))
                    have xo := far5_bl HB_.out (HNE.out.symm) (.slice y.d.ba T.1.1.length y.d.bc) (.slice y.d.wa T.1.2.length y.d.wc) (.slice y.a T.2.1.length y.c) (.int .u32 (T.2.2.1 : Int)) (.int .u32 (T.2.2.2 : Int))
                    obtain ⟨ww5, hn⟩ : ∃ X, set5 ww4 gA (.slice y.d.ba T.1.1.length y.d.bc) (.slice y.d.wa T.1.2.length y.d.wc) (.slice y.a T.2.1.length y.c) (.int .u32 (T.2.2.1 : Int)) (.int .u32 (T.2.2.2 : Int)) = X := ⟨_, rfl⟩
                    rw [hn] at xa ka ba xo
                    simp only [set5] at hn
                    go_simp
                    replace HW_ := Lib.hid ba
                    replace HA_ := Lib.hid xa
                    replace HB_ := Lib.hid xo
                    replace HY_ := Lib.hid (HY_.out.step ka)
                    refine hK _ _ HW_.out ?_
                    clear hK K hn xa ka ba xo hfz m0 m1 m2 m3 m4
                    try simp only [Act.put, List.setIfInBounds_toArray, List.set_cons_zero, List.set_cons_succ]
                    refine wpI_lone rfl (by kernel_rfl) (fun K hK => ?_)
                    have m0 := ptZ0 HB_.out
                    have m1 := ptZ1 HB_.out
                    have m2 := ptZ2 HB_.out
                    have m3 := ptZ3 HB_.out
                    have m4 := ptZ4 HB_.out
                    have hfz := fun i => HB_.out.frozen i
                    obtain ⟨xa, ka, ba⟩ := box_five (L := L) HB_.out (by decide) (Nat.le_trans HLD.out HGB.out) HW_.out HGB.out (.int .i64 pa) (.int .u32 (pb : Int)) (.int .u32 (pi : Int)) (.int .u32 (pt : Int)) (.int .u32 (ps : Int))
                    have xo := far5_bl HA_.out HNE.out (.int .i64 pa) (.int .u32 (pb : Int)) (.int .u32 (pi : Int)) (.int .u32 (pt : Int)) (.int .u32 (ps : Int))
                    obtain ⟨ww6, hn⟩ : ∃ X, set5 ww5 gB (.int .i64 pa) (.int .u32 (pb : Int)) (.int .u32 (pi : Int)) (.int .u32 (pt : Int)) (.int .u32 (ps : Int)) = X := ⟨_, rfl⟩
                    rw [hn] at xa ka ba xo
                    simp only [set5] at hn
                    go_simp
                    replace HW_ := Lib.hid ba
                    replace HB_ := Lib.hid xa
                    replace HA_ := Lib.hid xo
                    replace HY_ := Lib.hid (HY_.out.step ka)
                    refine hK _ _ HW_.out ?_
                    clear hK K hn xa ka ba xo hfz m0 m1 m2 m3 m4
                    try simp only [Act.put, List.setIfInBounds_toArray, List.set_cons_zero, List.set_cons_succ]
                    iterate 1 (
                      refine wpI_read (v := ?_) HW_.out rfl (by kernel_rfl) (by kernel_rfl) (by kernel_rfl) (fun _ _ _ h => h) (.inl ⟨by rfl, ?_⟩) ?_
                      rotate_left
                      · intro X hX
                        clear hX
                        go_simp
                        with_reducible rfl
                      try simp only [Act.put, List.setIfInBounds_toArray, List.set_cons_zero, List.set_cons_succ])
                    refine wpI_done (by kernel_rfl) ?_
                    go_wp2_with fail
                    go_meet
                    exact ⟨gA, gB, y, by have h1 := HGA.out; have h2 := HXd.out.lt; omega, rfl, rfl, rfl, HA_.out, HB_.out, HY_.out, HBd.out.trans (HW_.out.mono HBd.out.size)⟩

                · go_simp
                  have bq := (Below.refl ww1.heap.size ww1).alloc (Nat.le_refl _) (.cells #[.int .i64 0, .int .u32 0, .int .u32 0, .int .u32 0, .int .u32 0] 32)
                  have hx := Blk.new ww1 32 #[.int .i64 0, .int .u32 0, .int .u32 0, .int .u32 0, .int .u32 0]
                  obtain ⟨ww2, hn⟩ : ∃ X, ww1.alloc (.cells #[.int .i64 0, .int .u32 0, .int .u32 0, .int .u32 0, .int .u32 0] 32) = X := ⟨_, rfl⟩
                  obtain ⟨gB, hg⟩ : ∃ X, ww1.heap.size = X := ⟨_, rfl⟩
                  have HGB := Lib.hid (show wd.heap.size ≤ gB by rw [← hg]; exact HW_.out.size)
                  rw [hn] at bq hx ⊢
                  rw [hg] at hx ⊢
                  replace HW_ := Lib.hid (HW_.out.trans (bq.mono HW_.out.size))
                  replace HZ_ := Lib.hid (HZ_.out.step bq)
                  have HB_ := Lib.hid hx
                  refine hK _ _ HW_.out ?_
                  clear hK K hn hg hx bq
                  try simp only [Act.put, List.setIfInBounds_toArray, List.set_cons_zero, List.set_cons_succ]
                  refine wpI_turn [3, 8, 4, 5, 6, 7, 10, 11, 12] rfl ?_
                  refine wpI_fork rfl rfl (by kernel_rfl) (fun K hK => ?_) (fun K hK => ?_)
                  · go_simp
                    refine (HC.out gz ww2 HW_.out HZ_.out).mono ?_
                    rintro ev ww3 ⟨y, rfl, hy, _, bq⟩
                    replace HW_ := Lib.hid (HW_.out.trans (bq.mono HW_.out.size))
                    replace HZ_ := Lib.hid (HZ_.out.step bq)
                    replace HB_ := Lib.hid (HB_.out.below bq HB_.out.lt)
                    have HY_ := Lib.hid (StP.any (L := L) hy)
                    refine hK _ _ HW_.out ?_
                    clear hK K hy bq
                    simp only [stV, ptV]
                    try simp only [Act.put, List.setIfInBounds_toArray, List.set_cons_zero, List.set_cons_succ]
                    refine wpI_turn [4, 5, 6, 7, 8, 10, 11, 12] rfl ?_
                    iterate 4 (
                      refine wpI_read (v := ?_) HW_.out rfl (by kernel_rfl) (by kernel_rfl) (by kernel_rfl) (fun _ _ _ h => h) (.inl ⟨by rfl, ?_⟩) ?_
                      rotate_left
                      · intro X hX
                        clear hX
                        go_simp
                        with_reducible rfl
                      try simp only [Act.put, List.setIfInBounds_toArray, List.set_cons_zero, List.set_cons_succ])
                    refine wpI_turn [8, 10, 11, 12] rfl ?_
                    refine wpI_lone rfl (by kernel_rfl) (fun K hK => ?_)
                    go_simp
                    have bq := (Below.refl ww3.heap.size ww3).alloc (Nat.le_refl _) (.cells #[.slice none 0 0, .slice none 0 0, .slice none 0 0, .int .u32 0, .int .u32 0] 30)
                    have hx := Blk.new ww3 30 #[.slice none 0 0, .slice none 0 0, .slice none 0 0, .int .u32 0, .int .u32 0]
                    obtain ⟨ww4, hn⟩ : ∃ X, ww3.alloc (.cells #[.slice none 0 0, .slice none 0 0, .slice none 0 0, .int .u32 0, .int .u32 0] 30) = X := ⟨_, rfl⟩
                    obtain ⟨gA, hg⟩ : ∃ X, ww3.heap.size = X := ⟨_, rfl⟩
                    have HGA := Lib.hid (show wd.heap.size ≤ gA by rw [← hg]; exact HW_.out.size)
                    rw [hn] at bq hx ⊢
                    rw [hg] at hx ⊢
                    replace HW_ := Lib.hid (HW_.out.trans (bq.mono HW_.out.size))
                    replace HZ_ := Lib.hid (HZ_.out.step bq)
                    replace HB_ := Lib.hid (HB_.out.below bq HB_.out.lt)
                    replace HY_ := Lib.hid (HY_.out.bel bq)
                    have HA_ := Lib.hid hx
                    refine hK _ _ HW_.out ?_
                    clear hK K hn hg hx bq
                    try simp only [Act.put, List.setIfInBounds_toArray, List.set_cons_zero, List.set_cons_succ]
                    have HNE := Lib.hid (show gA ≠ gB from HA_.out.ne HB_.out (by decide))
                    refine wpI_lone rfl (by kernel_rfl) (fun K hK => ?_)
                    have m0 := stZ0 HA_.out
                    have m1 := stZ1 HA_.out
                    have m2 := stZ2 HA_.out
                    have m3 := stZ3 HA_.out
                    have m4 := stZ4 HA_.out
                    have hfz := fun i => HA_.out.frozen i
                    obtain ⟨xa, ka, ba⟩ := box_five (L := L) HA_.out (by decide) (Nat.le_trans HLD.out HGA.out) HW_.out HGA.out (.slice y.d.ba T.1.1.length y.d.bc) (.slice y.d.wa T.1.2.length y.d.wc) (.slice y.a T.2.1.length y.c) (.int .u32 (T.2.2.1 : Int)) (.int .u32 (T.2.2.2 : Int))
                    have xo := far5_bl HB_.out (HNE.out.symm) (.slice y.d.ba T.1.1.length y.d.bc) (.slice y.d.wa T.1.2.length y.d.wc) (.slice y.a T.2.1.length y.c) (.int .u32 (T.2.2.1 : Int)) (.int .u32 (T.2.2.2 : Int))
                    obtain ⟨ww5, hn⟩ : ∃ X, set5 ww4 gA (.slice y.d.ba T.1.1.length y.d.bc) (.slice y.d.wa T.1.2.length y.d.wc) (.slice y.a T.2.1.length y.c) (.int .u32 (T.2.2.1 : Int)) (.int .u32 (T.2.2.2 : Int)) = X := ⟨_, rfl⟩
                    rw [hn] at xa ka ba xo
                    simp only [set5] at hn
                    go_simp
                    replace HW_ := Lib.hid ba
                    replace HA_ := Lib.hid xa
                    replace HB_ := Lib.hid xo
                    replace HY_ := Lib.hid (HY_.out.step ka)
                    refine hK _ _ HW_.out ?_
                    clear hK K hn xa ka ba xo hfz m0 m1 m2 m3 m4
                    try simp only [Act.put, List.setIfInBounds_toArray, List.set_cons_zero, List.set_cons_succ]
                    refine wpI_lone rfl (by kernel_rfl) (fun K hK => ?_)
                    have m0 := ptZ0 HB_.out
                    have m1 := ptZ1 HB_.out
                    have m2 := ptZ2 HB_.out
                    have m3 := ptZ3 HB_.out
                    have m4 := ptZ4 HB_.out
                    have hfz := fun i => HB_.out.frozen i
                    obtain ⟨xa, ka, ba⟩ := box_five (L := L) HB_.out (by decide) (Nat.le_trans HLD.out HGB.out) HW_.out HGB.out (.int .i64 pa) (.int .u32 (pb : Int)) (.int .u32 (pi : Int)) (.int .u32 (pt : Int)) (.int .u32 (ps : Int))
                    have xo := far5_bl HA_.out HNE.out (.int .i64 pa) (.int .u32 (pb : Int)) (.int .u32 (pi : Int)) (.int .u32 (pt : Int)) (.int .u32 (ps : Int))
                    obtain ⟨ww6, hn⟩ : ∃ X, set5 ww5 gB (.int .i64 pa) (.int .u32 (pb : Int)) (.int .u32 (pi : Int)) (.int .u32 (pt : Int)) (.int .u32 (ps : Int)) = X := ⟨_, rfl⟩
                    rw [hn] at xa ka ba xo
                    simp only [set5] at hn
                    go_simp
                    replace HW_ := Lib.hid ba
                    replace HB_ := Lib.hid xa
                    replace HA_ := Lib.hid xo
                    replace HY_ := Lib.hid (HY_.out.step ka)
                    refine hK _ _ HW_.out ?_
                    clear hK K hn xa ka ba xo hfz m0 m1 m2 m3 m4
                    try simp only [Act.put, List.setIfInBounds_toArray, List.set_cons_zero, List.set_cons_succ]
                    iterate 1 (
                      refine wpI_read (v := ?_) HW_.out rfl (by kernel_rfl) (by kernel_rfl) (by kernel_rfl) (fun _ _ _ h => h) (.inl ⟨by rfl, ?_⟩) ?_
                      rotate_left
                      · intro X hX
                        clear hX
                        go_simp
                        with_reducible rfl
                      try simp only [Act.put, List.setIfInBounds_toArray, List.set_cons_zero, List.set_cons_succ])
                    refine wpI_done (by kernel_rfl) ?_
                    go_wp2_with fail
                    go_meet
                    exact ⟨gA, gB, y, by have h1 := HGA.out; have h2 := HXd.out.lt; omega, rfl, rfl, rfl, HA_.out, HB_.out, HY_.out, HBd.out.trans (HW_.out.mono HBd.out.size)⟩

                  · go_simp
                    have bq := (Below.refl ww2.heap.size ww2).alloc (Nat.le_refl _) (.cells #[.slice none 0 0, .slice none 0 0, .slice none 0 0, .int .u32 0, .int .u32 0] 30)
                    have hx := Blk.new ww2 30 #[.slice none 0 0, .slice none 0 0, .slice none 0 0, .int .u32 0, .int .u32 0]
                    obtain ⟨ww3, hn⟩ : ∃ X, ww2.alloc (.cells #[.slice none 0 0, .slice none 0 0, .slice none 0 0, .int .u32 0, .int .u32 0] 30) = X := ⟨_, rfl⟩
                    obtain ⟨gA, hg⟩ : ∃ X, ww2.heap.size = X := ⟨_, rfl⟩
                    have HGA := Lib.hid (show wd.heap.size ≤ gA by rw [← hg]; exact HW_.out.size)
                    rw [hn] at bq hx ⊢
                    rw [hg] at hx ⊢
                    replace HW_ := Lib.hid (HW_.out.trans (bq.mono HW_.out.size))
                    replace HZ_ := Lib.hid (HZ_.out.step bq)
                    replace HB_ := Lib.hid (HB_.out.below bq HB_.out.lt)
                    have HA_ := Lib.hid hx
                    refine hK _ _ HW_.out ?_
                    clear hK K hn hg hx bq
                    try simp only [Act.put, List.setIfInBounds_toArray, List.set_cons_zero, List.set_cons_succ]
                    refine wpI_turn [3, 4, 5, 6, 7, 10, 11, 12] rfl ?_
                    refine wpI_lone rfl (by kernel_rfl) (fun K hK => ?_)
                    go_simp
                    refine (HC.out gz ww3 HW_.out HZ_.out).mono ?_
                    rintro ev ww4 ⟨y, rfl, hy, _, bq⟩
                    replace HW_ := Lib.hid (HW_.out.trans (bq.mono HW_.out.size))
                    replace HZ_ := Lib.hid (HZ_.out.step bq)
                    replace HA_ := Lib.hid (HA_.out.below bq HA_.out.lt)
                    replace HB_ := Lib.hid (HB_.out.below bq HB_.out.lt)
                    have HY_ := Lib.hid (StP.any (L := L) hy)
                    refine hK _ _ HW_.out ?_
                    clear hK K hy bq
                    simp only [stV, ptV]
                    try simp only [Act.put, List.setIfInBounds_toArray, List.set_cons_zero, List.set_cons_succ]
                    iterate 4 (
                      refine wpI_read (v := ?_) HW_.out rfl (by kernel_rfl) (by kernel_rfl) (by kernel_rfl) (fun _ _ _ h => h) (.inl ⟨by rfl, ?_⟩) ?_
                      rotate_left
                      · intro X hX
                        clear hX
                        go_simp
                        with_reducible rfl
                      try simp only [Act.put, List.setIfInBounds_toArray, List.set_cons_zero, List.set_cons_succ])
                    have HNE := Lib.hid (show gA ≠ gB from HA_.out.ne HB_.out (by decide))
                    refine wpI_lone rfl (by kernel_rfl) (fun K hK => ?_)
                    have m0 := stZ0 HA_.out
                    have m1 := stZ1 HA_.out
                    have m2 := stZ2 HA_.out
                    have m3 := stZ3 HA_.out
                    have m4 := stZ4 HA_.out
                    have hfz := fun i => HA_.out.frozen i
                    obtain ⟨xa, ka, ba⟩ := box_five (L := L) HA_.out (by decide) (Nat.le_trans HLD.out HGA.out) HW_.out HGA.out (.slice y.d.ba T.1.1.length y.d.bc) (.slice y.d.wa T.1.2.length y.d.wc) (.slice y.a T.2.1.length y.c) (.int .u32 (T.2.2.1 : Int)) (.int .u32 (T.2.2.2 : Int))
                    have xo := far5_bl HB_.out (HNE.out.symm) (.slice y.d.ba T.1.1.length y.d.bc) (.slice y.d.wa T.1.2.length y.d.wc) (.slice y.a T.2.1.length y.c) (.int .u32 (T.2.2.1 : Int)) (.int .u32 (T.2.2.2 : Int))
                    obtain ⟨ww5, hn⟩ : ∃ X, set5 ww4 gA (.slice y.d.ba T.1.1.length y.d.bc) (.slice y.d.wa T.1.2.length y.d.wc) (.slice y.a T.2.1.length y.c) (.int .u32 (T.2.2.1 : Int)) (.int .u32 (T.2.2.2 : Int)) = X := ⟨_, rfl⟩
                    rw [hn] at xa ka ba xo
                    simp only [set5] at hn
                    go_simp
                    replace HW_ := Lib.hid ba
                    replace HA_ := Lib.hid xa
                    replace HB_ := Lib.hid xo
                    replace HY_ := Lib.hid (HY_.out.step ka)
                    refine hK _ _ HW_.out ?_
                    clear hK K hn xa ka ba xo hfz m0 m1 m2 m3 m4
                    try simp only [Act.put, List.setIfInBounds_toArray, List.set_cons_zero, List.set_cons_succ]
                    refine wpI_lone rfl (by kernel_rfl) (fun K hK => ?_)
                    have m0 := ptZ0 HB_.out
                    have m1 := ptZ1 HB_.out
                    have m2 := ptZ2 HB_.out
                    have m3 := ptZ3 HB_.out
                    have m4 := ptZ4 HB_.out
                    have hfz := fun i => HB_.out.frozen i
                    obtain ⟨xa, ka, ba⟩ := box_five (L := L) HB_.out (by decide) (Nat.le_trans HLD.out HGB.out) HW_.out HGB.out (.int .i64 pa) (.int .u32 (pb : Int)) (.int .u32 (pi : Int)) (.int .u32 (pt : Int)) (.int .u32 (ps : Int))
                    have xo := far5_bl HA_.out HNE.out (.int .i64 pa) (.int .u32 (pb : Int)) (.int .u32 (pi : Int)) (.int .u32 (pt : Int)) (.int .u32 (ps : Int))
                    obtain ⟨ww6, hn⟩ : ∃ X, set5 ww5 gB (.int .i64 pa) (.int .u32 (pb : Int)) (.int .u32 (pi : Int)) (.int .u32 (pt : Int)) (.int .u32 (ps : Int)) = X := ⟨_, rfl⟩
                    rw [hn] at xa ka ba xo
                    simp only [set5] at hn
                    go_simp
                    replace HW_ := Lib.hid ba
                    replace HB_ := Lib.hid xa
                    replace HA_ := Lib.hid xo
                    replace HY_ := Lib.hid (HY_.out.step ka)
                    refine hK _ _ HW_.out ?_
                    clear hK K hn xa ka ba xo hfz m0 m1 m2 m3 m4
                    try simp only [Act.put, List.setIfInBounds_toArray, List.set_cons_zero, List.set_cons_succ]
                    iterate 1 (
                      refine wpI_read (v := ?_) HW_.out rfl (by kernel_rfl) (by kernel_rfl) (by kernel_rfl) (fun _ _ _ h => h) (.inl ⟨by rfl, ?_⟩) ?_
                      rotate_left
                      · intro X hX
                        clear hX
                        go_simp
                        with_reducible rfl
                      try simp only [Act.put, List.setIfInBounds_toArray, List.set_cons_zero, List.set_cons_succ])
                    refine wpI_done (by kernel_rfl) ?_
                    go_wp2_with fail
                    go_meet
                    exact ⟨gA, gB, y, by have h1 := HGA.out; have h2 := HXd.out.lt; omega, rfl, rfl, rfl, HA_.out, HB_.out, HY_.out, HBd.out.trans (HW_.out.mono HBd.out.size)⟩

              · go_simp
                have bq := (Below.refl wd.heap.size wd).alloc (Nat.le_refl _) (.cells #[.slice none 0 0, .slice none 0 0, .slice none 0 0, .int .u32 0, .int .u32 0] 30)
                have hx := Blk.new wd 30 #[.slice none 0 0, .slice none 0 0, .slice none 0 0, .int .u32 0, .int .u32 0]
                obtain ⟨ww1, hn⟩ : ∃ X, wd.alloc (.cells #[.slice none 0 0, .slice none 0 0, .slice none 0 0, .int .u32 0, .int .u32 0] 30) = X := ⟨_, rfl⟩
                obtain ⟨gA, hg⟩ : ∃ X, wd.heap.size = X := ⟨_, rfl⟩
                have HGA := Lib.hid (show wd.heap.size ≤ gA by rw [← hg]; exact HW_.out.size)
                rw [hn] at bq hx ⊢
                rw [hg] at hx ⊢
                replace HW_ := Lib.hid (HW_.out.trans (bq.mono HW_.out.size))
                have HA_ := Lib.hid hx
                refine hK _ _ HW_.out ?_
                clear hK K hn hg hx bq
                try simp only [Act.put, List.setIfInBounds_toArray, List.set_cons_zero, List.set_cons_succ]
                refine wpI_turn [2, 9, 3, 4, 5, 6, 7, 10, 11, 12] rfl ?_
                refine wpI_fork rfl rfl (by kernel_rfl) (fun K hK => ?_) (fun K hK => ?_)
                · go_simp
                  have bq := (Below.refl ww1.heap.size ww1).alloc (Nat.le_refl _) (.cells (Array.replicate 256 (.int .u8 0)) 5)
                  have xz := noughts_bsl 256 (by omega) ww1
                  rw [HZN.out] at xz
                  obtain ⟨ww2, hn⟩ : ∃ X, ww1.alloc (.cells (Array.replicate 256 (.int .u8 0)) 5) = X := ⟨_, rfl⟩
                  obtain ⟨gz, hgz⟩ : ∃ X, ww1.heap.size = X := ⟨_, rfl⟩
                  rw [hn] at bq xz ⊢
                  rw [hgz] at xz ⊢
                  replace HW_ := Lib.hid (HW_.out.trans (bq.mono HW_.out.size))
                  replace HA_ := Lib.hid (HA_.out.below bq HA_.out.lt)
                  have HZ_ := Lib.hid xz
                  refine hK _ _ HW_.out ?_
                  clear hK K hn hgz xz bq
                  try simp only [Act.put, List.setIfInBounds_toArray, List.set_cons_zero, List.set_cons_succ]
                  refine wpI_turn [3, 9, 4, 5, 6, 7, 10, 11, 12] rfl ?_
                  refine wpI_fork rfl rfl (by kernel_rfl) (fun K hK => ?_) (fun K hK => ?_)
                  · go_simp
                    refine (HC.out gz ww2 HW_.out HZ_.out).mono ?_
                    rintro ev ww3 ⟨y, rfl, hy, _, bq⟩
                    replace HW_ := Lib.hid (HW_.out.trans (bq.mono HW_.out.size))
                    replace HZ_ := Lib.hid (HZ_.out.step bq)
                    replace HA_ := Lib.hid (HA_.out.below bq HA_.out.lt)
                    have HY_ := Lib.hid (StP.any (L := L) hy)
                    refine hK _ _ HW_.out ?_
                    clear hK K hy bq
                    simp only [stV, ptV]
                    try simp only [Act.put, List.setIfInBounds_toArray, List.set_cons_zero, List.set_cons_succ]
                    refine wpI_turn [4, 5, 6, 7, 9, 10, 11, 12] rfl ?_
                    iterate 4 (
                      refine wpI_read (v := ?_) HW_.out rfl (by kernel_rfl) (by kernel_rfl) (by kernel_rfl) (fun _ _ _ h => h) (.inl ⟨by rfl, ?_⟩) ?_
                      rotate_left
                      · intro X hX
                        clear hX
                        go_simp
                        with_reducible rfl
                      try simp only [Act.put, List.setIfInBounds_toArray, List.set_cons_zero, List.set_cons_succ])
                    refine wpI_turn [9, 10, 11, 12] rfl ?_
                    refine wpI_lone rfl (by kernel_rfl) (fun K hK => ?_)
                    go_simp
                    have bq := (Below.refl ww3.heap.size ww3).alloc (Nat.le_refl _) (.cells #[.int .i64 0, .int .u32 0, .int .u32 0, .int .u32 0, .int .u32 0] 32)
                    have hx := Blk.new ww3 32 #[.int .i64 0, .int .u32 0, .int .u32 0, .int .u32 0, .int .u32 0]
                    obtain ⟨ww4, hn⟩ : ∃ X, ww3.alloc (.cells #[.int .i64 0, .int .u32 0, .int .u32 0, .int .u32 0, .int .u32 0] 32) = X := ⟨_, rfl⟩
                    obtain ⟨gB, hg⟩ : ∃ X, ww3.heap.size = X := ⟨_, rfl⟩
                    have HGB := Lib.hid (show wd.heap.size ≤ gB by rw [← hg]; exact HW_.out.size)
                    rw [hn] at bq hx ⊢
                    rw [hg] at hx ⊢
                    replace HW_ := Lib.hid (HW_.out.trans (bq.mono HW_.out.size))
                    replace HZ_ := Lib.hid (HZ_.out.step bq)
                    replace HA_ := Lib.hid (HA_.out.below bq HA_.out.lt)
                    replace HY_ := Lib.hid (HY_.out.bel bq)
                    have HB_ := Lib.hid hx
                    refine hK _ _ HW_.out ?_
                    clear hK K hn hg hx bq
                    try simp only [Act.put, List.setIfInBounds_toArray, List.set_cons_zero, List.set_cons_succ]
                    have HNE := Lib.hid (show gA ≠ gB from HA_.out.ne HB_.out (by decide))
                    refine wpI_lone rfl (by kernel_rfl) (fun K hK => ?_)
                    have m0 := stZ0 HA_.out
                    have m1 := stZ1 HA_.out
                    have m2 := stZ2 HA_.out
                    have m3 := stZ3 HA_.out
                    have m4 := stZ4 HA_.out
                    have hfz := fun i => HA_.out.frozen i
                    obtain ⟨xa, ka, ba⟩ := box_five (L := L) HA_.out (by decide) (Nat.le_trans HLD.out HGA.out) HW_.out HGA.out (.slice y.d.ba T.1.1.length y.d.bc) (.slice y.d.wa T.1.2.length y.d.wc) (.slice y.a T.2.1.length y.c) (.int .u32 (T.2.2.1 : Int)) (.int .u32 (T.2.2.2 : Int))
                    have xo := far5_bl HB_.out (HNE.out.symm) (.slice y.d.ba T.1.1.length y.d.bc) (.slice y.d.wa T.1.2.length y.d.wc) (.slice y.a T.2.1.length y.c) (.int .u32 (T.2.2.1 : Int)) (.int .u32 (T.2.2.2 : Int))
                    obtain ⟨ww5, hn⟩ : ∃ X, set5 ww4 gA (.slice y.d.ba T.1.1.length y.d.bc) (.slice y.d.wa T.1.2.length y.d.wc) (.slice y.a T.2.1.length y.c) (.int .u32 (T.2.2.1 : Int)) (.int .u32 (T.2.2.2 : Int)) = X := ⟨_, rfl⟩
                    rw [hn] at xa ka ba xo
                    simp only [set5] at hn
                    go_simp
                    replace HW_ := Lib.hid ba
                    replace HA_ := Lib.hid xa
                    replace HB_ := Lib.hid xo
                    replace HY_ := Lib.hid (HY_.out.step ka)
                    refine hK _ _ HW_.out ?_
                    clear hK K hn xa ka ba xo hfz m0 m1 m2 m3 m4
                    try simp only [Act.put, List.setIfInBounds_toArray, List.set_cons_zero, List.set_cons_succ]
                    refine wpI_lone rfl (by kernel_rfl) (fun K hK => ?_)
                    have m0 := ptZ0 HB_.out
                    have m1 := ptZ1 HB_.out
                    have m2 := ptZ2 HB_.out
                    have m3 := ptZ3 HB_.out
                    have m4 := ptZ4 HB_.out
                    have hfz := fun i => HB_.out.frozen i
                    obtain ⟨xa, ka, ba⟩ := box_five (L := L) HB_.out (by decide) (Nat.le_trans HLD.out HGB.out) HW_.out HGB.out (.int .i64 pa) (.int .u32 (pb : Int)) (.int .u32 (pi : Int)) (.int .u32 (pt : Int)) (.int .u32 (ps : Int))
                    have xo := far5_bl HA_.out HNE.out (.int .i64 pa) (.int .u32 (pb : Int)) (.int .u32 (pi : Int)) (.int .u32 (pt : Int)) (.int .u32 (ps : Int))
                    obtain ⟨ww6, hn⟩ : ∃ X, set5 ww5 gB (.int .i64 pa) (.int .u32 (pb : Int)) (.int .u32 (pi : Int)) (.int .u32 (pt : Int)) (.int .u32 (ps : Int)) = X := ⟨_, rfl⟩
                    rw [hn] at xa ka ba xo
                    simp only [set5] at hn
                    go_simp
                    replace HW_ := Lib.hid ba
                    replace HB_ := Lib.hid xa
                    replace HA_ := Lib.hid xo
                    replace HY_ := Lib.hid (HY_.out.step ka)
                    refine hK _ _ HW_.out ?_
                    clear hK K hn xa ka ba xo hfz m0 m1 m2 m3 m4
                    try simp only [Act.put, List.setIfInBounds_toArray, List.set_cons_zero, List.set_cons_succ]
                    iterate 1 (
                      refine wpI_read (v := ?_) HW_.out rfl (by kernel_rfl) (by kernel_rfl) (by kernel_rfl) (fun _ _ _ h => h) (.inl ⟨by rfl, ?_⟩) ?_
                      rotate_left
                      · intro X hX
                        clear hX
                        go_simp
                        with_reducible rfl
                      try simp only [Act.put, List.setIfInBounds_toArray, List.set_cons_zero, List.set_cons_succ])
                    refine wpI_done (by kernel_rfl) ?_
                    go_wp2_with fail
                    go_meet
                    exact ⟨gA, gB, y, by have h1 := HGA.out; have h2 := HXd.out.lt; omega, rfl, rfl, rfl, HA_.out, HB_.out, HY_.out, HBd.out.trans (HW_.out.mono HBd.out.size)⟩

                  · go_simp
                    have bq := (Below.refl ww2.heap.size ww2).alloc (Nat.le_refl _) (.cells #[.int .i64 0, .int .u32 0, .int .u32 0, .int .u32 0, .int .u32 0] 32)
                    have hx := Blk.new ww2 32 #[.int .i64 0, .int .u32 0, .int .u32 0, .int .u32 0, .int .u32 0]
                    obtain ⟨ww3, hn⟩ : ∃ X, ww2.alloc (.cells #[.int .i64 0, .int .u32 0, .int .u32 0, .int .u32 0, .int .u32 0] 32) = X := ⟨_, rfl⟩
                    obtain ⟨gB, hg⟩ : ∃ X, ww2.heap.size = X := ⟨_, rfl⟩
                    have HGB := Lib.hid (show wd.heap.size ≤ gB by rw [← hg]; exact HW_.out.size)
                    rw [hn] at bq hx ⊢
                    rw [hg] at hx ⊢
                    replace HW_ := Lib.hid (HW_.out.trans (bq.mono HW_.out.size))
                    replace HZ_ := Lib.hid (HZ_.out.step bq)
                    replace HA_ := Lib.hid (HA_.out.below bq HA_.out.lt)
                    have HB_ := Lib.hid hx
                    refine hK _ _ HW_.out ?_
                    clear hK K hn hg hx bq
                    try simp only [Act.put, List.setIfInBounds_toArray, List.set_cons_zero, List.set_cons_succ]
                    refine wpI_turn [3, 4, 5, 6, 7, 10, 11, 12] rfl ?_
                    refine wpI_lone rfl (by kernel_rfl) (fun K hK => ?_)
                    go_simp
                    refine (HC.out gz ww3 HW_.out HZ_.out).mono ?_
                    rintro ev ww4 ⟨y, rfl, hy, _, bq⟩
                    replace HW_ := Lib.hid (HW_.out.trans (bq.mono HW_.out.size))
                    replace HZ_ := Lib.hid (HZ_.out.step bq)
                    replace HA_ := Lib.hid (HA_.out.below bq HA_.out.lt)
                    replace HB_ := Lib.hid (HB_.out.below bq HB_.out.lt)
                    have HY_ := Lib.hid (StP.any (L := L) hy)
                    refine hK _ _ HW_.out ?_
                    clear hK K hy bq
                    simp only [stV, ptV]
                    try simp only [Act.put, List.setIfInBounds_toArray, List.set_cons_zero, List.set_cons_succ]
                    iterate 4 (
                      refine wpI_read (v := ?_) HW_.out rfl (by kernel_rfl) (by kernel_rfl) (by kernel_rfl) (fun _ _ _ h => h) (.inl ⟨by rfl, ?_⟩) ?_
                      rotate_left
                      · intro X hX
                        clear hX
                        go_simp
                        with_reducible rfl
                      try simp only [Act.put, List.setIfInBounds_toArray, List.set_cons_zero, List.set_cons_succ])
                    have HNE := Lib.hid (show gA ≠ gB from HA_.out.ne HB_.out (by decide))
                    refine wpI_lone rfl (by kernel_rfl) (fun K hK => ?_)
                    have m0 := stZ0 HA_.out
                    have m1 := stZ1 HA_.out
                    have m2 := stZ2 HA_.out
                    have m3 := stZ3 HA_.out
                    have m4 := stZ4 HA_.out
                    have hfz := fun i => HA_.out.frozen i
                    obtain ⟨xa, ka, ba⟩ := box_five (L := L) HA_.out (by decide) (Nat.le_trans HLD.out HGA.out) HW_.out HGA.out (.slice y.d.ba T.1.1.length y.d.bc) (.slice y.d.wa T.1.2.length y.d.wc) (.slice y.a T.2.1.length y.c) (.int .u32 (T.2.2.1 : Int)) (.int .u32 (T.2.2.2 : Int))
                    have xo := far5_bl HB_.out (HNE.out.symm) (.slice y.d.ba T.1.1.length y.d.bc) (.slice y.d.wa T.1.2.length y.d.wc) (.slice y.a T.2.1.length y.c) (.int .u32 (T.2.2.1 : Int)) (.int .u32 (T.2.2.2 : Int))
                    obtain ⟨ww5, hn⟩ : ∃ X, set5 ww4 gA (.slice y.d.ba T.1.1.length y.d.bc) (.slice y.d.wa T.1.2.length y.d.wc) (.slice y.a T.2.1.length y.c) (.int .u32 (T.2.2.1 : Int)) (.int .u32 (T.2.2.2 : Int)) = X := ⟨_, rfl⟩
                    rw [hn] at xa ka ba xo
                    simp only [set5] at hn
                    go_simp
                    replace HW_ := Lib.hid ba
                    replace HA_ := Lib.hid xa
                    replace HB_ := Lib.hid xo
                    replace HY_ := Lib.hid (HY_.out.step ka)
                    refine hK _ _ HW_.out ?_
                    clear hK K hn xa ka ba xo hfz m0 m1 m2 m3 m4
                    try simp only [Act.put, List.setIfInBounds_toArray, List.set_cons_zero, List.set_cons_succ]
                    refine wpI_lone rfl (by kernel_rfl) (fun K hK => ?_)
                    have m0 := ptZ0 HB_.out
                    have m1 := ptZ1 HB_.out
                    have m2 := ptZ2 HB_.out
                    have m3 := ptZ3 HB_.out
                    have m4 := ptZ4 HB_.out
                    have hfz := fun i => HB_.out.frozen i
                    obtain ⟨xa, ka, ba⟩ := box_five (L := L) HB_.out (by decide) (Nat.le_trans HLD.out HGB.out) HW_.out HGB.out (.int .i64 pa) (.int .u32 (pb : Int)) (.int .u32 (pi : Int)) (.int .u32 (pt : Int)) (.int .u32 (ps : Int))
                    have xo := far5_bl HA_.out HNE.out (.int .i64 pa) (.int .u32 (pb : Int)) (.int .u32 (pi : Int)) (.int .u32 (pt : Int)) (.int .u32 (ps : Int))
                    obtain ⟨ww6, hn⟩ : ∃ X, set5 ww5 gB (.int .i64 pa) (.int .u32 (pb : Int)) (.int .u32 (pi : Int)) (.int .u32 (pt : Int)) (.int .u32 (ps : Int)) = X := ⟨_, rfl⟩
                    rw [hn] at xa ka ba xo
                    simp only [set5] at hn
                    go_simp
                    replace HW_ := Lib.hid ba
                    replace HB_ := Lib.hid xa
                    replace HA_ := Lib.hid xo
                    replace HY_ := Lib.hid (HY_.out.step ka)
                    refine hK _ _ HW_.out ?_
                    clear hK K hn xa ka ba xo hfz m0 m1 m2 m3 m4
                    try simp only [Act.put, List.setIfInBounds_toArray, List.set_cons_zero, List.set_cons_succ]
                    iterate 1 (
                      refine wpI_read (v := ?_) HW_.out rfl (by kernel_rfl) (by kernel_rfl) (by kernel_rfl) (fun _ _ _ h => h) (.inl ⟨by rfl, ?_⟩) ?_
                      rotate_left
                      · intro X hX
                        clear hX
                        go_simp
                        with_reducible rfl
                      try simp only [Act.put, List.setIfInBounds_toArray, List.set_cons_zero, List.set_cons_succ])
                    refine wpI_done (by kernel_rfl) ?_
                    go_wp2_with fail
                    go_meet
                    exact ⟨gA, gB, y, by have h1 := HGA.out; have h2 := HXd.out.lt; omega, rfl, rfl, rfl, HA_.out, HB_.out, HY_.out, HBd.out.trans (HW_.out.mono HBd.out.size)⟩

                · go_simp
                  have bq := (Below.refl ww1.heap.size ww1).alloc (Nat.le_refl _) (.cells #[.int .i64 0, .int .u32 0, .int .u32 0, .int .u32 0, .int .u32 0] 32)
                  have hx := Blk.new ww1 32 #[.int .i64 0, .int .u32 0, .int .u32 0, .int .u32 0, .int .u32 0]
                  obtain ⟨ww2, hn⟩ : ∃ X, ww1.alloc (.cells #[.int .i64 0, .int .u32 0, .int .u32 0, .int .u32 0, .int .u32 0] 32) = X := ⟨_, rfl⟩
                  obtain ⟨gB, hg⟩ : ∃ X, ww1.heap.size = X := ⟨_, rfl⟩
                  have HGB := Lib.hid (show wd.heap.size ≤ gB by rw [← hg]; exact HW_.out.size)
                  rw [hn] at bq hx ⊢
                  rw [hg] at hx ⊢
                  replace HW_ := Lib.hid (HW_.out.trans (bq.mono HW_.out.size))
                  replace HA_ := Lib.hid (HA_.out.below bq HA_.out.lt)
                  have HB_ := Lib.hid hx
                  refine hK _ _ HW_.out ?_
                  clear hK K hn hg hx bq
                  try simp only [Act.put, List.setIfInBounds_toArray, List.set_cons_zero, List.set_cons_succ]
                  refine wpI_turn [2, 3, 4, 5, 6, 7, 10, 11, 12] rfl ?_
                  refine wpI_lone rfl (by kernel_rfl) (fun K hK => ?_)
                  go_simp
                  have bq := (Below.refl ww2.heap.size ww2).alloc (Nat.le_refl _) (.cells (Array.replicate 256 (.int .u8 0)) 5)
                  have xz := noughts_bsl 256 (by omega) ww2
                  rw [HZN.out] at xz
                  obtain ⟨ww3, hn⟩ : ∃ X, ww2.alloc (.cells (Array.replicate 256 (.int .u8 0)) 5) = X := ⟨_, rfl⟩
                  obtain ⟨gz, hgz⟩ : ∃ X, ww2.heap.size = X := ⟨_, rfl⟩
                  rw [hn] at bq xz ⊢
                  rw [hgz] at xz ⊢
                  replace HW_ := Lib.hid (HW_.out.trans (bq.mono HW_.out.size))
                  replace HA_ := Lib.hid (HA_.out.below bq HA_.out.lt)
                  replace HB_ := Lib.hid (HB_.out.below bq HB_.out.lt)
                  have HZ_ := Lib.hid xz
                  refine hK _ _ HW_.out ?_
                  clear hK K hn hgz xz bq
                  try simp only [Act.put, List.setIfInBounds_toArray, List.set_cons_zero, List.set_cons_succ]
                  refine wpI_turn [3, 4, 5, 6, 7, 10, 11, 12] rfl ?_
                  refine wpI_lone rfl (by kernel_rfl) (fun K hK => ?_)
                  go_simp
                  refine (HC.out gz ww3 HW_.out HZ_.out).mono ?_
                  rintro ev ww4 ⟨y, rfl, hy, _, bq⟩
                  replace HW_ := Lib.hid (HW_.out.trans (bq.mono HW_.out.size))
                  replace HZ_ := Lib.hid (HZ_.out.step bq)
                  replace HA_ := Lib.hid (HA_.out.below bq HA_.out.lt)
                  replace HB_ := Lib.hid (HB_.out.below bq HB_.out.lt)
                  have HY_ := Lib.hid (StP.any (L := L) hy)
                  refine hK _ _ HW_.out ?_
                  clear hK K hy bq
                  simp only [stV, ptV]
                  try simp only [Act.put, List.setIfInBounds_toArray, List.set_cons_zero, List.set_cons_succ]
                  iterate 4 (
                    refine wpI_read (v := ?_) HW_.out rfl (by kernel_rfl) (by kernel_rfl) (by kernel_rfl) (fun _ _ _ h => h) (.inl ⟨by rfl, ?_⟩) ?_
                    rotate_left
                    · intro X hX
                      clear hX
                      go_simp
                      with_reducible rfl
                    try simp only [Act.put, List.setIfInBounds_toArray, List.set_cons_zero, List.set_cons_succ])
                  have HNE := Lib.hid (show gA ≠ gB from HA_.out.ne HB_.out (by decide))
                  refine wpI_lone rfl (by kernel_rfl) (fun K hK => ?_)
                  have m0 := stZ0 HA_.out
                  have m1 := stZ1 HA_.out
                  have m2 := stZ2 HA_.out
                  have m3 := stZ3 HA_.out
                  have m4 := stZ4 HA_.out
                  have hfz := fun i => HA_.out.frozen i
                  obtain ⟨xa, ka, ba⟩ := box_five (L := L) HA_.out (by decide) (Nat.le_trans HLD.out HGA.out) HW_.out HGA.out (.slice y.d.ba T.1.1.length y.d.bc) (.slice y.d.wa T.1.2.length y.d.wc) (.slice y.a T.2.1.length y.c) (.int .u32 (T.2.2.1 : Int)) (.int .u32 (T.2.2.2 : Int))
                  have xo := far5_bl HB_.out (HNE.out.symm) (.slice y.d.ba T.1.1.length y.d.bc) (.slice y.d.wa T.1.2.length y.d.wc) (.slice y.a T.2.1.length y.c) (.int .u32 (T.2.2.1 : Int)) (.int .u32 (T.2.2.2 : Int))
                  obtain ⟨ww5, hn⟩ : ∃ X, set5 ww4 gA (.slice y.d.ba T.1.1.length y.d.bc) (.slice y.d.wa T.1.2.length y.d.wc) (.slice y.a T.2.1.length y.c) (.int .u32 (T.2.2.1 : Int)) (.int .u32 (T.2.2.2 : Int)) = X := ⟨_, rfl⟩
                  rw [hn] at xa ka ba xo
                  simp only [set5] at hn
                  go_simp
                  replace HW_ := Lib.hid ba
                  replace HA_ := Lib.hid xa
                  replace HB_ := Lib.hid xo
                  replace HY_ := Lib.hid (HY_.out.step ka)
                  refine hK _ _ HW_.out ?_
                  clear hK K hn xa ka ba xo hfz m0 m1 m2 m3 m4
                  try simp only [Act.put, List.setIfInBounds_toArray, List.set_cons_zero, List.set_cons_succ]
                  refine wpI_lone rfl (by kernel_rfl) (fun K hK => ?_)
                  have m0 := ptZ0 HB_.out
                  have m1 := ptZ1 HB_.out
                  have m2 := ptZ2 HB_.out
                  have m3 := ptZ3 HB_.out
                  have m4 := ptZ4 HB_.out
                  have hfz := fun i => HB_.out.frozen i
                  obtain ⟨xa, ka, ba⟩ := box_five (L := L) HB_.out (by decide) (Nat.le_trans HLD.out HGB.out) HW_.out HGB.out (.int .i64 pa) (.int .u32 (pb : Int)) (.int .u32 (pi : Int)) (.int .u32 (pt : Int)) (.int .u32 (ps : Int))
                  have xo := far5_bl HA_.out HNE.out (.int .i64 pa) (.int .u32 (pb : Int)) (.int .u32 (pi : Int)) (.int .u32 (pt : Int)) (.int .u32 (ps : Int))
                  obtain ⟨ww6, hn⟩ : ∃ X, set5 ww5 gB (.int .i64 pa) (.int .u32 (pb : Int)) (.int .u32 (pi : Int)) (.int .u32 (pt : Int)) (.int .u32 (ps : Int)) = X := ⟨_, rfl⟩
                  rw [hn] at xa ka ba xo
                  simp only [set5] at hn
                  go_simp
                  replace HW_ := Lib.hid ba
                  replace HB_ := Lib.hid xa
                  replace HA_ := Lib.hid xo
                  replace HY_ := Lib.hid (HY_.out.step ka)
                  refine hK _ _ HW_.out ?_
                  clear hK K hn xa ka ba xo hfz m0 m1 m2 m3 m4
                  try simp only [Act.put, List.setIfInBounds_toArray, List.set_cons_zero, List.set_cons_succ]
                  iterate 1 (
                    refine wpI_read (v := ?_) HW_.out rfl (by kernel_rfl) (by kernel_rfl) (by kernel_rfl) (fun _ _ _ h => h) (.inl ⟨by rfl, ?_⟩) ?_
                    rotate_left
                    · intro X hX
                      clear hX
                      go_simp
                      with_reducible rfl
                    try simp only [Act.put, List.setIfInBounds_toArray, List.set_cons_zero, List.set_cons_succ])
                  refine wpI_done (by kernel_rfl) ?_
                  go_wp2_with fail
                  go_meet
                  exact ⟨gA, gB, y, by have h1 := HGA.out; have h2 := HXd.out.lt; omega, rfl, rfl, rfl, HA_.out, HB_.out, HY_.out, HBd.out.trans (HW_.out.mono HBd.out.size)⟩

              · go_simp
                have bq := (Below.refl wd.heap.size wd).alloc (Nat.le_refl _) (.cells #[.int .i64 0, .int .u32 0, .int .u32 0, .int .u32 0, .int .u32 0] 32)
                have hx := Blk.new wd 32 #[.int .i64 0, .int .u32 0, .int .u32 0, .int .u32 0, .int .u32 0]
                obtain ⟨ww1, hn⟩ : ∃ X, wd.alloc (.cells #[.int .i64 0, .int .u32 0, .int .u32 0, .int .u32 0, .int .u32 0] 32) = X := ⟨_, rfl⟩
                obtain ⟨gB, hg⟩ : ∃ X, wd.heap.size = X := ⟨_, rfl⟩
                have HGB := Lib.hid (show wd.heap.size ≤ gB by rw [← hg]; exact HW_.out.size)
                rw [hn] at bq hx ⊢
                rw [hg] at hx ⊢
                replace HW_ := Lib.hid (HW_.out.trans (bq.mono HW_.out.size))
                have HB_ := Lib.hid hx
                refine hK _ _ HW_.out ?_
                clear hK K hn hg hx bq
                try simp only [Act.put, List.setIfInBounds_toArray, List.set_cons_zero, List.set_cons_succ]
                refine wpI_turn [2, 8, 3, 4, 5, 6, 7, 10, 11, 12] rfl ?_
                refine wpI_fork rfl rfl (by kernel_rfl) (fun K hK => ?_) (fun K hK => ?_)
                · go_simp
                  have bq := (Below.refl ww1.heap.size ww1).alloc (Nat.le_refl _) (.cells (Array.replicate 256 (.int .u8 0)) 5)
                  have xz := noughts_bsl 256 (by omega) ww1
                  rw [HZN.out] at xz
                  obtain ⟨ww2, hn⟩ : ∃ X, ww1.alloc (.cells (Array.replicate 256 (.int .u8 0)) 5) = X := ⟨_, rfl⟩
                  obtain ⟨gz, hgz⟩ : ∃ X, ww1.heap.size = X := ⟨_, rfl⟩
                  rw [hn] at bq xz ⊢
                  rw [hgz] at xz ⊢
                  replace HW_ := Lib.hid (HW_.out.trans (bq.mono HW_.out.size))
                  replace HB_ := Lib.hid (HB_.out.below bq HB_.out.lt)
                  have HZ_ := Lib.hid xz
                  refine hK _ _ HW_.out ?_
                  clear hK K hn hgz xz bq
                  try simp only [Act.put, List.setIfInBounds_toArray, List.set_cons_zero, List.set_cons_succ]
                  refine wpI_turn [3, 8, 4, 5, 6, 7, 10, 11, 12] rfl ?_
                  refine wpI_fork rfl rfl (by kernel_rfl) (fun K hK => ?_) (fun K hK => ?_)
                  · go_simp
                    refine (HC.out gz ww2 HW_.out HZ_.out).mono ?_
                    rintro ev ww3 ⟨y, rfl, hy, _, bq⟩
                    replace HW_ := Lib.hid (HW_.out.trans (bq.mono HW_.out.size))
                    replace HZ_ := Lib.hid (HZ_.out.step bq)
                    replace HB_ := Lib.hid (HB_.out.below bq HB_.out.lt)
                    have HY_ := Lib.hid (StP.any (L := L) hy)
                    refine hK _ _ HW_.out ?_
                    clear hK K hy bq
                    simp only [stV, ptV]
                    try simp only [Act.put, List.setIfInBounds_toArray, List.set_cons_zero, List.set_cons_succ]
                    refine wpI_turn [4, 5, 6, 7, 8, 10, 11, 12] rfl ?_
                    iterate 4 (
                      refine wpI_read (v := ?_) HW_.out rfl (by kernel_rfl) (by kernel_rfl) (by kernel_rfl) (fun _ _ _ h => h) (.inl ⟨by rfl, ?_⟩) ?_
                      rotate_left
                      · intro X hX
                        clear hX
                        go_simp
                        with_reducible rfl
                      try simp only [Act.put, List.setIfInBounds_toArray, List.set_cons_zero, List.set_cons_succ])
                    refine wpI_turn [8, 10, 11, 12] rfl ?_
                    refine wpI_lone rfl (by kernel_rfl) (fun K hK => ?_)
                    go_simp
                    have bq := (Below.refl ww3.heap.size ww3).alloc (Nat.le_refl _) (.cells #[.slice none 0 0, .slice none 0 0, .slice none 0 0, .int .u32 0, .int .u32 0] 30)
                    have hx := Blk.new ww3 30 #[.slice none 0 0, .slice none 0 0, .slice none 0 0, .int .u32 0, .int .u32 0]
                    obtain ⟨ww4, hn⟩ : ∃ X, ww3.alloc (.cells #[.slice none 0 0, .slice none 0 0, .slice none 0 0, .int .u32 0, .int .u32 0] 30) = X := ⟨_, rfl⟩
                    obtain ⟨gA, hg⟩ : ∃ X, ww3.heap.size = X := ⟨_, rfl⟩
                    have HGA := Lib.hid (show wd.heap.size ≤ gA by rw [← hg]; exact HW_.out.size)
                    rw [hn] at bq hx ⊢
                    rw [hg] at hx ⊢
                    replace HW_ := Lib.hid (HW_.out.trans (bq.mono HW_.out.size))
                    replace HZ_ := Lib.hid (HZ_.out.step bq)
                    replace HB_ := Lib.hid (HB_.out.below bq HB_.out.lt)
                    replace HY_ := Lib.hid (HY_.out.bel bq)
                    have HA_ := Lib.hid hx
                    refine hK _ _ HW_.out ?_
                    clear hK K hn hg hx bq
                    try simp only [Act.put, List.setIfInBounds_toArray, List.set_cons_zero, List.set_cons_succ]
                    have HNE := Lib.hid (show gA ≠ gB from HA_.out.ne HB_.out (by decide))
                    refine wpI_lone rfl (by kernel_rfl) (fun K hK => ?_)
                    have m0 := stZ0 HA_.out
                    have m1 := stZ1 HA_.out
                    have m2 := stZ2 HA_.out
                    have m3 := stZ3 HA_.out
                    have m4 := stZ4 HA_.out
                    have hfz := fun i => HA_.out.frozen i
                    obtain ⟨xa, ka, ba⟩ := box_five (L := L) HA_.out (by decide) (Nat.le_trans HLD.out HGA.out) HW_.out HGA.out (.slice y.d.ba T.1.1.length y.d.bc) (.slice y.d.wa T.1.2.length y.d.wc) (.slice y.a T.2.1.length y.c) (.int .u32 (T.2.2.1 : Int)) (.int .u32 (T.2.2.2 : Int))
                    have xo := far5_bl HB_.out (HNE.out.symm) (.slice y.d.ba T.1.1.length y.d.bc) (.slice y.d.wa T.1.2.length y.d.wc) (.slice y.a T.2.1.length y.c) (.int .u32 (T.2.2.1 : Int)) (.int .u32 (T.2.2.2 : Int))
                    obtain ⟨ww5, hn⟩ : ∃ X, set5 ww4 gA (.slice y.d.ba T.1.1.length y.d.bc) (.slice y.d.wa T.1.2.length y.d.wc) (.slice y.a T.2.1.length y.c) (.int .u32 (T.2.2.1 : Int)) (.int .u32 (T.2.2.2 : Int)) = X := ⟨_, rfl⟩
                    rw [hn] at xa ka ba xo
                    simp only [set5] at hn
                    go_simp
                    replace HW_ := Lib.hid ba
                    replace HA_ := Lib.hid xa
                    replace HB_ := Lib.hid xo
                    replace HY_ := Lib.hid (HY_.out.step ka)
                    refine hK _ _ HW_.out ?_
                    clear hK K hn xa ka ba xo hfz m0 m1 m2 m3 m4
                    try simp only [Act.put, List.setIfInBounds_toArray, List.set_cons_zero, List.set_cons_succ]
                    refine wpI_lone rfl (by kernel_rfl) (fun K hK => ?_)
                    have m0 := ptZ0 HB_.out
                    have m1 := ptZ1 HB_.out
                    have m2 := ptZ2 HB_.out
                    have m3 := ptZ3 HB_.out
                    have m4 := ptZ4 HB_.out
                    have hfz := fun i => HB_.out.frozen i
                    obtain ⟨xa, ka, ba⟩ := box_five (L := L) HB_.out (by decide) (Nat.le_trans HLD.out HGB.out) HW_.out HGB.out (.int .i64 pa) (.int .u32 (pb : Int)) (.int .u32 (pi : Int)) (.int .u32 (pt : Int)) (.int .u32 (ps : Int))
                    have xo := far5_bl HA_.out HNE.out (.int .i64 pa) (.int .u32 (pb : Int)) (.int .u32 (pi : Int)) (.int .u32 (pt : Int)) (.int .u32 (ps : Int))
                    obtain ⟨ww6, hn⟩ : ∃ X, set5 ww5 gB (.int .i64 pa) (.int .u32 (pb : Int)) (.int .u32 (pi : Int)) (.int .u32 (pt : Int)) (.int .u32 (ps : Int)) = X := ⟨_, rfl⟩
                    rw [hn] at xa ka ba xo
                    simp only [set5] at hn
                    go_simp
                    replace HW_ := Lib.hid ba
                    replace HB_ := Lib.hid xa
                    replace HA_ := Lib.hid xo
                    replace HY_ := Lib.hid (HY_.out.step ka)
                    refine hK _ _ HW_.out ?_
                    clear hK K hn xa ka ba xo hfz m0 m1 m2 m3 m4
                    try simp only [Act.put, List.setIfInBounds_toArray, List.set_cons_zero, List.set_cons_succ]
                    iterate 1 (
                      refine wpI_read (v := ?_) HW_.out rfl (by kernel_rfl) (by kernel_rfl) (by kernel_rfl) (fun _ _ _ h => h) (.inl ⟨by rfl, ?_⟩) ?_
                      rotate_left
                      · intro X hX
                        clear hX
                        go_simp
                        with_reducible rfl
                      try simp only [Act.put, List.setIfInBounds_toArray, List.set_cons_zero, List.set_cons_succ])
                    refine wpI_done (by kernel_rfl) ?_
                    go_wp2_with fail
                    go_meet
                    exact ⟨gA, gB, y, by have h1 := HGA.out; have h2 := HXd.out.lt; omega, rfl, rfl, rfl, HA_.out, HB_.out, HY_.out, HBd.out.trans (HW_.out.mono HBd.out.size)⟩

                  · go_simp
                    have bq := (Below.refl ww2.heap.size ww2).alloc (Nat.le_refl _) (.cells #[.slice none 0 0, .slice none 0 0, .slice none 0 0, .int .u32 0, .int .u32 0] 30)
                    have hx := Blk.new ww2 30 #[.slice none 0 0, .slice none 0 0, .slice none 0 0, .int .u32 0, .int .u32 0]
                    obtain ⟨ww3, hn⟩ : ∃ X, ww2.alloc (.cells #[.slice none 0 0, .slice none 0 0, .slice none 0 0, .int .u32 0, .int .u32 0] 30) = X := ⟨_, rfl⟩
                    obtain ⟨gA, hg⟩ : ∃ X, ww2.heap.size = X := ⟨_, rfl⟩
                    have HGA := Lib.hid (show wd.heap.size ≤ gA by rw [← hg]; exact HW_.out.size)
                    rw [hn] at bq hx ⊢
                    rw [hg] at hx ⊢
                    replace HW_ := Lib.hid (HW_.out.trans (bq.mono HW_.out.size))
                    replace HZ_ := Lib.hid (HZ_.out.step bq)
                    replace HB_ := Lib.hid (HB_.out.below bq HB_.out.lt)
                    have HA_ := Lib.hid hx
                    refine hK _ _ HW_.out ?_
                    clear hK K hn hg hx bq
                    try simp only [Act.put, List.setIfInBounds_toArray, List.set_cons_zero, List.set_cons_succ]
                    refine wpI_turn [3, 4, 5, 6, 7, 10, 11, 12] rfl ?_
                    refine wpI_lone rfl (by kernel_rfl) (fun K hK => ?_)
                    go_simp
                    refine (HC.out gz ww3 HW_.out HZ_.out).mono ?_
                    rintro ev ww4 ⟨y, rfl, hy, _, bq⟩
                    replace HW_ := Lib.hid (HW_.out.trans (bq.mono HW_.out.size))
                    replace HZ_ := Lib.hid (HZ_.out.step bq)
                    replace HA_ := Lib.hid (HA_.out.below bq HA_.out.lt)
                    replace HB_ := Lib.hid (HB_.out.below bq HB_.out.lt)
                    have HY_ := Lib.hid (StP.any (L := L) hy)
                    refine hK _ _ HW_.out ?_
                    clear hK K hy bq
                    simp only [stV, ptV]
                    try simp only [Act.put, List.setIfInBounds_toArray, List.set_cons_zero, List.set_cons_succ]
                    iterate 4 (
                      refine wpI_read (v := ?_) HW_.out rfl (by kernel_rfl) (by kernel_rfl) (by kernel_rfl) (fun _ _ _ h => h) (.inl ⟨by rfl, ?_⟩) ?_
                      rotate_left
                      · intro X hX
                        clear hX
                        go_simp
                        with_reducible rfl
                      try simp only [Act.put, List.setIfInBounds_toArray, List.set_cons_zero, List.set_cons_succ])
                    have HNE := Lib.hid (show gA ≠ gB from HA_.out.ne HB_.out (by decide))
                    refine wpI_lone rfl (by kernel_rfl) (fun K hK => ?_)
                    have m0 := stZ0 HA_.out
                    have m1 := stZ1 HA_.out
                    have m2 := stZ2 HA_.out
                    have m3 := stZ3 HA_.out
                    have m4 := stZ4 HA_.out
                    have hfz := fun i => HA_.out.frozen i
                    obtain ⟨xa, ka, ba⟩ := box_five (L := L) HA_.out (by decide) (Nat.le_trans HLD.out HGA.out) HW_.out HGA.out (.slice y.d.ba T.1.1.length y.d.bc) (.slice y.d.wa T.1.2.length y.d.wc) (.slice y.a T.2.1.length y.c) (.int .u32 (T.2.2.1 : Int)) (.int .u32 (T.2.2.2 : Int))
                    have xo := far5_bl HB_.out (HNE.out.symm) (.slice y.d.ba T.1.1.length y.d.bc) (.slice y.d.wa T.1.2.length y.d.wc) (.slice y.a T.2.1.length y.c) (.int .u32 (T.2.2.1 : Int)) (.int .u32 (T.2.2.2 : Int))
                    obtain ⟨ww5, hn⟩ : ∃ X, set5 ww4 gA (.slice y.d.ba T.1.1.length y.d.bc) (.slice y.d.wa T.1.2.length y.d.wc) (.slice y.a T.2.1.length y.c) (.int .u32 (T.2.2.1 : Int)) (.int .u32 (T.2.2.2 : Int)) = X := ⟨_, rfl⟩
                    rw [hn] at xa ka ba xo
                    simp only [set5] at hn
                    go_simp
                    replace HW_ := Lib.hid ba
                    replace HA_ := Lib.hid xa
                    replace HB_ := Lib.hid xo
                    replace HY_ := Lib.hid (HY_.out.step ka)
                    refine hK _ _ HW_.out ?_
                    clear hK K hn xa ka ba xo hfz m0 m1 m2 m3 m4
                    try simp only [Act.put, List.setIfInBounds_toArray, List.set_cons_zero, List.set_cons_succ]
                    refine wpI_lone rfl (by kernel_rfl) (fun K hK => ?_)
                    have m0 := ptZ0 HB_.out
                    have m1 := ptZ1 HB_.out
                    have m2 := ptZ2 HB_.out
                    have m3 := ptZ3 HB_.out
                    have m4 := ptZ4 HB_.out
                    have hfz := fun i => HB_.out.frozen i
                    obtain ⟨xa, ka, ba⟩ := box_five (L := L) HB_.out (by decide) (Nat.le_trans HLD.out HGB.out) HW_.out HGB.out (.int .i64 pa) (.int .u32 (pb : Int)) (.int .u32 (pi : Int)) (.int .u32 (pt : Int)) (.int .u32 (ps : Int))
                    have xo := far5_bl HA_.out HNE.out (.int .i64 pa) (.int .u32 (pb : Int)) (.int .u32 (pi : Int)) (.int .u32 (pt : Int)) (.int .u32 (ps : Int))
                    obtain ⟨ww6, hn⟩ : ∃ X, set5 ww5 gB (.int .i64 pa) (.int .u32 (pb : Int)) (.int .u32 (pi : Int)) (.int .u32 (pt : Int)) (.int .u32 (ps : Int)) = X := ⟨_, rfl⟩
                    rw [hn] at xa ka ba xo
                    simp only [set5] at hn
                    go_simp
                    replace HW_ := Lib.hid ba
                    replace HB_ := Lib.hid xa
                    replace HA_ := Lib.hid xo
                    replace HY_ := Lib.hid (HY_.out.step ka)
                    refine hK _ _ HW_.out ?_
                    clear hK K hn xa ka ba xo hfz m0 m1 m2 m3 m4
                    try simp only [Act.put, List.setIfInBounds_toArray, List.set_cons_zero, List.set_cons_succ]
                    iterate 1 (
                      refine wpI_read (v := ?_) HW_.out rfl (by kernel_rfl) (by kernel_rfl) (by kernel_rfl) (fun _ _ _ h => h) (.inl ⟨by rfl, ?_⟩) ?_
                      rotate_left
                      · intro X hX
                        clear hX
                        go_simp
                        with_reducible rfl
                      try simp only [Act.put, List.setIfInBounds_toArray, List.set_cons_zero, List.set_cons_succ])
                    refine wpI_done (by kernel_rfl) ?_
                    go_wp2_with fail
                    go_meet
                    exact ⟨gA, gB, y, by have h1 := HGA.out; have h2 := HXd.out.lt; omega, rfl, rfl, rfl, HA_.out, HB_.out, HY_.out, HBd.out.trans (HW_.out.mono HBd.out.size)⟩

                · go_simp
                  have bq := (Below.refl ww1.heap.size ww1).alloc (Nat.le_refl _) (.cells #[.slice none 0 0, .slice none 0 0, .slice none 0 0, .int .u32 0, .int .u32 0] 30)
                  have hx := Blk.new ww1 30 #[.slice none 0 0, .slice none 0 0, .slice none 0 0, .int .u32 0, .int .u32 0]
                  obtain ⟨ww2, hn⟩ : ∃ X, ww1.alloc (.cells #[.slice none 0 0, .slice none 0 0, .slice none 0 0, .int .u32 0, .int .u32 0] 30) = X := ⟨_, rfl⟩
                  obtain ⟨gA, hg⟩ : ∃ X, ww1.heap.size = X := ⟨_, rfl⟩
                  have HGA := Lib.hid (show wd.heap.size ≤ gA by rw [← hg]; exact HW_.out.size)
                  rw [hn] at bq hx ⊢
                  rw [hg] at hx ⊢
                  replace HW_ := Lib.hid (HW_.out.trans (bq.mono HW_.out.size))
                  replace HB_ := Lib.hid (HB_.out.below bq HB_.out.lt)
                  have HA_ := Lib.hid hx
                  refine hK _ _ HW_.out ?_
                  clear hK K hn hg hx bq
                  try simp only [Act.put, List.setIfInBounds_toArray, List.set_cons_zero, List.set_cons_succ]
                  refine wpI_turn [2, 3, 4, 5, 6, 7, 10, 11, 12] rfl ?_
                  refine wpI_lone rfl (by kernel_rfl) (fun K hK => ?_)
                  go_simp
                  have bq := (Below.refl ww2.heap.size ww2).alloc (Nat.le_refl _) (.cells (Array.replicate 256 (.int .u8 0)) 5)
                  have xz := noughts_bsl 256 (by omega) ww2
                  rw [HZN.out] at xz
                  obtain ⟨ww3, hn⟩ : ∃ X, ww2.alloc (.cells (Array.replicate 256 (.int .u8 0)) 5) = X := ⟨_, rfl⟩
                  obtain ⟨gz, hgz⟩ : ∃ X, ww2.heap.size = X := ⟨_, rfl⟩
                  rw [hn] at bq xz ⊢
                  rw [hgz] at xz ⊢
                  replace HW_ := Lib.hid (HW_.out.trans (bq.mono HW_.out.size))
                  replace HA_ := Lib.hid (HA_.out.below bq HA_.out.lt)
                  replace HB_ := Lib.hid (HB_.out.below bq HB_.out.lt)
                  have HZ_ := Lib.hid xz
                  refine hK _ _ HW_.out ?_
                  clear hK K hn hgz xz bq
                  try simp only [Act.put, List.setIfInBounds_toArray, List.set_cons_zero, List.set_cons_succ]
                  refine wpI_turn [3, 4, 5, 6, 7, 10, 11, 12] rfl ?_
                  refine wpI_lone rfl (by kernel_rfl) (fun K hK => ?_)
                  go_simp
                  refine (HC.out gz ww3 HW_.out HZ_.out).mono ?_
                  rintro ev ww4 ⟨y, rfl, hy, _, bq⟩
                  replace HW_ := Lib.hid (HW_.out.trans (bq.mono HW_.out.size))
                  replace HZ_ := Lib.hid (HZ_.out.step bq)
                  replace HA_ := Lib.hid (HA_.out.below bq HA_.out.lt)
                  replace HB_ := Lib.hid (HB_.out.below bq HB_.out.lt)
                  have HY_ := Lib.hid (StP.any (L := L) hy)
                  refine hK _ _ HW_.out ?_
                  clear hK K hy bq
                  simp only [stV, ptV]
                  try simp only [Act.put, List.setIfInBounds_toArray, List.set_cons_zero, List.set_cons_succ]
                  iterate 4 (
                    refine wpI_read (v := ?_) HW_.out rfl (by kernel_rfl) (by kernel_rfl) (by kernel_rfl) (fun _ _ _ h => h) (.inl ⟨by rfl, ?_⟩) ?_
                    rotate_left
                    · intro X hX
                      clear hX
                      go_simp
                      with_reducible rfl
                    try simp only [Act.put, List.setIfInBounds_toArray, List.set_cons_zero, List.set_cons_succ])
                  have HNE := Lib.hid (show gA ≠ gB from HA_.out.ne HB_.out (by decide))
                  refine wpI_lone rfl (by kernel_rfl) (fun K hK => ?_)
                  have m0 := stZ0 HA_.out
                  have m1 := stZ1 HA_.out
                  have m2 := stZ2 HA_.out
                  have m3 := stZ3 HA_.out
                  have m4 := stZ4 HA_.out
                  have hfz := fun i => HA_.out.frozen i
                  obtain ⟨xa, ka, ba⟩ := box_five (L := L) HA_.out (by decide) (Nat.le_trans HLD.out HGA.out) HW_.out HGA.out (.slice y.d.ba T.1.1.length y.d.bc) (.slice y.d.wa T.1.2.length y.d.wc) (.slice y.a T.2.1.length y.c) (.int .u32 (T.2.2.1 : Int)) (.int .u32 (T.2.2.2 : Int))
                  have xo := far5_bl HB_.out (HNE.out.symm) (.slice y.d.ba T.1.1.length y.d.bc) (.slice y.d.wa T.1.2.length y.d.wc) (.slice y.a T.2.1.length y.c) (.int .u32 (T.2.2.1 : Int)) (.int .u32 (T.2.2.2 : Int))
                  obtain ⟨ww5, hn⟩ : ∃ X, set5 ww4 gA (.slice y.d.ba T.1.1.length y.d.bc) (.slice y.d.wa T.1.2.length y.d.wc) (.slice y.a T.2.1.length y.c) (.int .u32 (T.2.2.1 : Int)) (.int .u32 (T.2.2.2 : Int)) = X := ⟨_, rfl⟩
                  rw [hn] at xa ka ba xo
                  simp only [set5] at hn
                  go_simp
                  replace HW_ := Lib.hid ba
                  replace HA_ := Lib.hid xa
                  replace HB_ := Lib.hid xo
                  replace HY_ := Lib.hid (HY_.out.step ka)
                  refine hK _ _ HW_.out ?_
                  clear hK K hn xa ka ba xo hfz m0 m1 m2 m3 m4
                  try simp only [Act.put, List.setIfInBounds_toArray, List.set_cons_zero, List.set_cons_succ]
                  refine wpI_lone rfl (by kernel_rfl) (fun K hK => ?_)
                  have m0 := ptZ0 HB_.out
                  have m1 := ptZ1 HB_.out
                  have m2 := ptZ2 HB_.out
                  have m3 := ptZ3 HB_.out
                  have m4 := ptZ4 HB_.out
                  have hfz := fun i => HB_.out.frozen i
                  obtain ⟨xa, ka, ba⟩ := box_five (L := L) HB_.out (by decide) (Nat.le_trans HLD.out HGB.out) HW_.out HGB.out (.int .i64 pa) (.int .u32 (pb : Int)) (.int .u32 (pi : Int)) (.int .u32 (pt : Int)) (.int .u32 (ps : Int))
                  have xo := far5_bl HA_.out HNE.out (.int .i64 pa) (.int .u32 (pb : Int)) (.int .u32 (pi : Int)) (.int .u32 (pt : Int)) (.int .u32 (ps : Int))
                  obtain ⟨ww6, hn⟩ : ∃ X, set5 ww5 gB (.int .i64 pa) (.int .u32 (pb : Int)) (.int .u32 (pi : Int)) (.int .u32 (pt : Int)) (.int .u32 (ps : Int)) = X := ⟨_, rfl⟩
                  rw [hn] at xa ka ba xo
                  simp only [set5] at hn
                  go_simp
                  replace HW_ := Lib.hid ba
                  replace HB_ := Lib.hid xa
                  replace HA_ := Lib.hid xo
                  replace HY_ := Lib.hid (HY_.out.step ka)
                  refine hK _ _ HW_.out ?_
                  clear hK K hn xa ka ba xo hfz m0 m1 m2 m3 m4
                  try simp only [Act.put, List.setIfInBounds_toArray, List.set_cons_zero, List.set_cons_succ]
                  iterate 1 (
                    refine wpI_read (v := ?_) HW_.out rfl (by kernel_rfl) (by kernel_rfl) (by kernel_rfl) (fun _ _ _ h => h) (.inl ⟨by rfl, ?_⟩) ?_
                    rotate_left
                    · intro X hX
                      clear hX
                      go_simp
                      with_reducible rfl
                    try simp only [Act.put, List.setIfInBounds_toArray, List.set_cons_zero, List.set_cons_succ])
                  refine wpI_done (by kernel_rfl) ?_
                  go_wp2_with fail
                  go_meet
                  exact ⟨gA, gB, y, by have h1 := HGA.out; have h2 := HXd.out.lt; omega, rfl, rfl, rfl, HA_.out, HB_.out, HY_.out, HBd.out.trans (HW_.out.mono HBd.out.size)⟩
            obtain ⟨gA, gB, y, hna, rfl, rfl, rfl, hA, hB, hy, hbw⟩ := hcut
            rename World => wc
            have HXA := Lib.hid hA
            have HNA := Lib.hid hna
            clear hna
            have HPB := Lib.hid hB
            have HYT := Lib.hid hy
            replace HX := Lib.hid (HX.out.below hbw HX.out.lt)
            replace HB := Lib.hid (HB.out.trans (hbw.mono HB.out.size))
            clear hA hB hy hbw HT HKY
            rcases sealO_cases Sk 1 key Z with ⟨es, hes, hne⟩ | ⟨k, r, hms, hbr, hkl, hbl, hct, hk, hz, hw4, hfr, heg⟩
            · have hh := HO.out.symm.trans hes
              simp only [Prod.mk.injEq] at hh
              obtain ⟨rfl, ⟨rfl, rfl, rfl, rfl, rfl⟩, rfl⟩ := hh
              have HPZ := Lib.hid (show Blk wc gB 32 #[.int .i64 0, .int .u32 0, .int .u32 0, .int .u32 0, .int .u32 0] from HPB.out)
              have e1 : ((er : Int) != 0) = true := by simp; omega
              have e2 : ¬ ((er : Int) = 0) := by omega
              have hpz := eqP_none
              have q0 := bx0 HPZ.out
              have q1 := bx1 HPZ.out
              have q2 := bx2 HPZ.out
              have q3 := bx3 HPZ.out
              have q4 := bx4 HPZ.out
              clear hes hne
              go_wp2_with fail
              go_ret
              exact ⟨rfl, HB.out⟩
            · have hh := HO.out.symm.trans heg
              simp only [Prod.mk.injEq] at hh
              obtain ⟨hT, ⟨_, _, hpi, _, _⟩, her⟩ := hh
              have HTE : Hid (T.2.2.1 = Sk.2.2.1) := Lib.hid (by rw [hT])
              have HTC : Hid (T.2.2.2 = Sk.2.2.2 + 1) := Lib.hid (by rw [hT])
              have HTM : Hid (MayS T) := Lib.hid (by rw [hT]; exact sealAt_may hms hct hk hbl hw4 key)
              obtain ⟨E, hE⟩ : ∃ n : Nat, Sk.2.2.1 = n := ⟨_, rfl⟩
              obtain ⟨CC, hC⟩ : ∃ n : Nat, Sk.2.2.2 = n := ⟨_, rfl⟩
              have h5 := hms.2.2.1.2
              have h6 := hct
              have hv := HV.out hms
              rw [hE] at h5
              rw [hC] at h6
              rw [hE, hC] at hv
              have hpi' : pi = E * 65536 + (CC + 1) := by rw [hpi]; unfold ivS; rw [hE, hC]
              obtain ⟨zz, hzz⟩ : ∃ n : Nat, E * 65536 = n := ⟨_, rfl⟩
              obtain ⟨C1, hC1⟩ : ∃ n : Nat, CC + 1 = n := ⟨_, rfl⟩
              have k1 : IntKind.u32.wrap (v + 1) = (pi : Int) := by rw [hv, IntWalk.u32_in _ (by omega)]; omega
              have k2 : (pi : Int) / 65536 = (E : Int) := by omega
              have k3 : IntKind.u32.wrap ((E : Int) * 65536) = (zz : Int) := by rw [shl_16 _ (by omega), hzz]
              have k4 : bits .or .u32 (zz : Int) (C1 : Int) = (pi : Int) := by rw [← hzz, or_16 _ _ (by omega) (by omega)]; omega
              have e1 : ((pi : Int) != pi) = false := by simp
              have e2 : ((E : Int) != E) = false := by simp
              have e3 : ((er : Int) != 0) = false := by rw [her]; rfl
              have e4 : ((er : Int) = 0) := by rw [her]; rfl
              have HPI := Lib.hid hpi'
              have HE := Lib.hid hE
              have HC_ := Lib.hid hC
              have HC1 := Lib.hid hC1
              have q2 := bx2 HPB.out
              have m3 := bx3 HXA.out
              have m4 := bx4 HXA.out
              have d3 := bx3 HX.out
              rw [HTE.out, hE] at m3
              rw [HTC.out, hC, hC1] at m4
              rw [hE] at d3
              clear hT hpi her hE hC h5 h6 hv hpi' hzz hC1 hbr hkl hbl hk hz hw4 hfr heg hms hct
              go_wp2_with fail
              clear k1 k2 k3 k4 e1 e2 e3 e4 q2 m3 m4 d3
              obtain ⟨wd, hwd⟩ : ∃ wd, wc.drew = wd := ⟨_, rfl⟩
              have bb : Below wc.heap.size wc wd := by rw [← hwd]; exact (Below.refl _ wc).drew
              replace HXA := Lib.hid (HXA.out.below bb HXA.out.lt)
              replace HPB := Lib.hid (HPB.out.below bb HPB.out.lt)
              replace HX := Lib.hid (HX.out.below bb HX.out.lt)
              replace HYT := Lib.hid (HYT.out.bel bb)
              replace HB := Lib.hid (HB.out.trans (bb.mono HB.out.size))
              have hs0 := And.intro HXA.out HPB.out
              refine wpI_start (fun X => Blk X gA 30 (stC y T) ∧ Blk X gB 32 #[.int .i64 pa, .int .u32 (pb : Int), .int .u32 (pi : Int), .int .u32 (pt : Int), .int .u32 (ps : Int)]) [0, 1, 2, 3, 4] hmx rfl hwd ?_
              clear hwd bb
              iterate 4 (
                refine wpI_read (v := ?_) hs0 rfl (by kernel_rfl) (by kernel_rfl) (by kernel_rfl) (fun _ _ _ h => h) (.inl ⟨by rfl, ?_⟩) ?_
                rotate_left
                · intro X hX
                  obtain ⟨hx, hq⟩ := hX
                  have c0 := stC0 hx
                  have c1 := stC1 hx
                  have c2 := stC2 hx
                  have c3 := stC3 hx
                  have c4 := stC4 hx
                  have q2 := bx2 hq
                  go_simp
                  with_reducible rfl
                try simp only [Act.put, List.setIfInBounds_toArray, List.set_cons_zero, List.set_cons_succ])
              refine wpI_lone rfl (by kernel_rfl) (fun K hK => ?_)
              have m0 := stC0 HX.out
              have m1 := stC1 HX.out
              have m2 := stC2 HX.out
              have m3 := stC3 HX.out
              have m4 := stC4 HX.out
              have hfz := fun i => HX.out.frozen i
              obtain ⟨xa, ka, ba⟩ := box_five (L := L) HX.out (by decide) (Nat.le_refl _) HB.out (by rw [HLE.out]; exact Nat.le_refl _) (.slice y.d.ba T.1.1.length y.d.bc) (.slice y.d.wa T.1.2.length y.d.wc) (.slice y.a T.2.1.length y.c) (.int .u32 (T.2.2.1 : Int)) (.int .u32 (T.2.2.2 : Int))
              have xA := far5_bl HXA.out HNA.out (.slice y.d.ba T.1.1.length y.d.bc) (.slice y.d.wa T.1.2.length y.d.wc) (.slice y.a T.2.1.length y.c) (.int .u32 (T.2.2.1 : Int)) (.int .u32 (T.2.2.2 : Int))
              have xB := far5_bl HPB.out (HX.out.ne HPB.out (by decide)).symm (.slice y.d.ba T.1.1.length y.d.bc) (.slice y.d.wa T.1.2.length y.d.wc) (.slice y.a T.2.1.length y.c) (.int .u32 (T.2.2.1 : Int)) (.int .u32 (T.2.2.2 : Int))
              obtain ⟨wf, hn⟩ : ∃ X, set5 wd L (.slice y.d.ba T.1.1.length y.d.bc) (.slice y.d.wa T.1.2.length y.d.wc) (.slice y.a T.2.1.length y.c) (.int .u32 (T.2.2.1 : Int)) (.int .u32 (T.2.2.2 : Int)) = X := ⟨_, rfl⟩
              rw [hn] at xa ka ba xA xB
              simp only [set5] at hn
              have hs1 := And.intro xA xB
              go_simp
              refine hK _ _ hs1 ?_
              have HXF := Lib.hid xa
              have HBF := Lib.hid ba
              have HYF := Lib.hid (HYT.out.step ka)
              clear hK K hn xa ka ba xA xB hs0 hs1 hfz m0 m1 m2 m3 m4
              try simp only [Act.put, List.setIfInBounds_toArray, List.set_cons_zero, List.set_cons_succ]
              refine wpI_done (by kernel_rfl) ?_
              go_wp2_with fail
              go_roundw
              case rel => exact ⟨j + 1, (pi : Int), y, T, by omega, by go_num, rfl, HXF, HYF, Lib.hid HTM.out.ok, Lib.hid (fun _ => by rw [HTE.out, HTC.out, HE.out, HC_.out, HPI.out]), HBF⟩
              case measure => simp [intOf]; omega
          · have j1 : (mn : Int) ≤ j := by omega
            clear hlt hj
            go_wp2_with fail
            go_ret
            exact ⟨rfl, HB.out⟩
theorem storeNumbers_walk (x : SAt) (S : StL) (B : Option Addr) (lk ck : Nat) (key : List UInt8) (many : Int) (w : World) (h : Str w w.heap.size x S) (hnear : Near S.1) (hwf : WfS S) (hK : Bsl w w.heap.size B lk ck key) (hm : (Lit.int .u8 many).wf = true) :
    Calls Try.prog 4 #[stV x S, .slice B lk ck, .int .u8 many] w fun e w' => e = .returned (.bool true) ∧ Below w.heap.size w w' := by
  obtain rfl := hK.1
  simp [Lit.wf, IntKind.min, IntKind.max, IntKind.signed, IntKind.bits] at hm
  exact storeNumbers_at x S B ck key many w h hnear hwf hK hm.1 hm.2
end Go.Proofs.Ytdpmdlibgabjaaa
namespace Go.Proofs.Ytdpmdlibgabjaaa.storeNumbers
open Go.ChangeShapes Go.WideShapes Go.ChangeAt Go.RowKit
set_option linter.unusedVariables false

theorem own : ownKnob Try.prog.godebug = none := by kernel_rfl
theorem laidOut : laidOutB Try.prog = true := by kernel_rfl

set_option maxRecDepth 100000 in
theorem lifted (os : Os) (started : os.Started) (H : Type) (enc : TypeId × Value → H) :
    ReturnsInHanded {} Try.checked os 4 .any (Rows.storeNumbersSpec.pre6 enc Try.prog Try.f4 Rows.storeNumbersRow.domain false) (Rows.storeNumbersSpec.post enc Try.prog Try.f4 false true false false) := by
  refine returnsInHanded_of_change_sized (C := Try.checked) own started (by kernel_rfl) Try.func4
    (ChangeSpec.witness6 (enc := enc) (C := Try.checked) false ⟨#[], #[.agg #[.slice none 0 0, .slice none 0 0, .slice none 0 0, .int .u32 0, .int .u32 0], .slice none 0 0, .int .u8 0], []⟩ 8 (by kernel_rfl) (by kernel_rfl) (by kernel_rfl) (by kernel_rfl)) ?_
  intro W base args ds gs before hval0 hW hcnd hsz _
  have hval : ∀ (j : Nat) t v, Try.f4.params[j]? = some t → args[j]? = some v → Value.okWide Try.prog W .any base t v := hval0
  have hW' := hW
  obtain ⟨p, q, hA0, hV, rfl, hfz, hnd⟩ := hW
  have hA : DataW.TrodAll enc Try.prog W 0 (fun _ => true) true Try.f4.params.toList args.toList ds p := hA0
  rw [Try.params4] at hA hval
  obtain ⟨v0, vs0, d0, ds0, p0, q0, hargs, rfl, rfl, h0, r0⟩ := trodAll_cons hA
  obtain ⟨v1, vs1, d1, ds1, p1, q1, rfl, rfl, rfl, h1, r1⟩ := trodAll_cons r0
  obtain ⟨v2, vs2, d2, ds2, p2, q2, rfl, rfl, rfl, h2, r2⟩ := trodAll_cons r1
  obtain ⟨rfl, rfl, rfl⟩ := trodAll_nil r2
  obtain rfl : args = #[v0, v1, v2] := by cases args; simp_all
  obtain ⟨rfl, rfl⟩ := trodVars_none hV
  have k0 := h0
  have lt0 : ∀ x ∈ p0, x.block < W.heap.size := by obtain ⟨m, hm⟩ := k0; exact DataW.trod_lt m _ _ _ hm
  obtain ⟨x0, S0, rfl, w0, m0, f0⟩ := open_store (hval 0 30 v0 rfl rfl) h0 (fun n hn => by
    have := List.all_eq_true.1 hsz n (DataW.weights_mem_each (j := 0) (t := 30) (by kernel_rfl) rfl n hn)
    simpa using this)
  obtain ⟨a1, len1, cap1, rfl⟩ := okWide_slice Try.underlying23 (hval 1 23 v1 rfl rfl)
  have k1 := h1
  have lt1 : ∀ x ∈ p1, x.block < W.heap.size := by obtain ⟨m, hm⟩ := k1; exact DataW.trod_lt m _ _ _ hm
  obtain ⟨z1, w1⟩ : ∃ zs, IsRow .u8 W a1 len1 cap1 zs := by
    obtain ⟨fuel, hf⟩ := h1
    rcases open_ints Try.underlying23 Try.underlying5 (by kernel_rfl) hf with ⟨hcs, _⟩ | ⟨x, l, c, zs, hcs, _, hl, hm, hz, _, hcell, hwz⟩
    · simp [Value.cells] at hcs
      obtain ⟨rfl, rfl, rfl⟩ := hcs
      exact ⟨[], .inl ⟨rfl, rfl, rfl, rfl⟩⟩
    · simp [Value.cells] at hcs
      obtain ⟨rfl, rfl, rfl⟩ := hcs
      exact ⟨zs, .inr ⟨_, rfl, hl, hm, by simpa using hz, hcell, hwz⟩⟩
  obtain ⟨a2, rfl, rfl, rfl, w2⟩ := open_int Try.underlying5 (hval 2 5 v2 rfl rfl) h2
  clear hA0 hval0
  refine (storeNumbers_walk x0 S0 a1 len1 cap1 _ a2 W w0 m0 f0 (bsl_of_row w1) w2).mono fun e W' ⟨he, bel⟩ => ?_
  subst he
  exact ⟨_, rfl, _, _, _, [], _, [], hW', trodAll_mk1 (shut_bool Try.underlying4 _), (trodAll_cons_mk (Below.trod laidOut (by kernel_rfl) (of_decide_eq_true (by kernel_rfl)) k0 bel lt0) (trodAll_cons_mk (Below.trod laidOut (by kernel_rfl) (of_decide_eq_true (by kernel_rfl)) k1 bel lt1) (trodAll_cons_mk (shut_int Try.underlying5 w2) trodAll_mk0))), rfl, bel.frame _, fun h => by cases h⟩

theorem over : Rows.storeNumbersRow.holds Try.pinned (OpenSpec.ofChange Rows.storeNumbersSpec) :=
  OpenClaim.holds_of_wide 4 Try.f4 rfl rfl rfl rfl rfl rfl rfl ⟨rfl, rfl, rfl, rfl, rfl⟩ rfl rfl rfl rfl rfl (by kernel_rfl) Try.func4 (by kernel_rfl)
    (of_decide_eq_true (by kernel_rfl)) (by unfold Func.isWrapper; first | (rw [if_pos (by decide +kernel)]; kernel_rfl) | (rw [if_neg (by decide +kernel)]; exact ⟨rfl, rfl⟩))
    (fun os started H enc _ => lifted os started H enc)

/-- The statement. -/
theorem proved : Rows.StoreNumbersSaid := over
end Go.Proofs.Ytdpmdlibgabjaaa.storeNumbers
