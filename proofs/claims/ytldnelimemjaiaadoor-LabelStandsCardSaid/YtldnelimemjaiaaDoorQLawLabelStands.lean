/-
  LabelStandsCardSaid: for any disk and label (of a disk that is great the law itself answers what its example answers): what was put stands, and is the first one, if its Gen is greater than all that stood; only what stood in its slot is gone; what stands falls by Gen, each in its slot, and may be. No condition but the tied one: ptr.sizes reads as its own initialiser lays it.
-/
import Derived.Test.YtldnelimemjaiaaDoorRows
import Derived.Test.YtldnelimemjaiaaDoorPkLB5
namespace Go.Proofs.YtldnelimemjaiaaDoor
open Go.RowKit Go.Shelf
set_option maxRecDepth 100000

set_option maxHeartbeats 32000000 in
theorem labelStands_walk (x : DAt) (D : DkL) (l : Lb) (w : World) (hz : Szs w) (h : Dsk w w.heap.size x D) (hnear : Near D) (hwl : WfL l) :
    Calls Tryd.prog 4 #[dval x D, lbV l] w fun e w' => e = .returned (.bool true) ∧ Below w.heap.size w w' := by
  have hmx : Tryd.prog.follows Departure.mixedOrders = true := by kernel_rfl
  have hL0 := lawL_box w x D h
  have bl := alloc_b (w.alloc (.cells #[.slice x.ba D.1.length x.bc, .slice x.wa D.2.length x.wc] 30)) (.cells (lbC l).toArray 38)
  have xl := Blk.new (w.alloc (.cells #[.slice x.ba D.1.length x.bc, .slice x.wa D.2.length x.wc] 30)) 38 (lbC l).toArray
  obtain ⟨w0, hw0⟩ : ∃ w0, (w.alloc (.cells #[.slice x.ba D.1.length x.bc, .slice x.wa D.2.length x.wc] 30)).alloc (.cells (lbC l).toArray 38) = w0 := ⟨_, rfl⟩
  rw [hw0] at bl xl
  rw [World.size_alloc] at xl
  have HB := Lib.hid hL0
  replace HB := Lib.hid (HB.out.step bl)
  have HX := Lib.hid xl
  have HZ := Lib.hid (hz.step HB.out.bel)
  have HNR := Lib.hid hnear
  have HWL := Lib.hid hwl
  have HA := Lib.hid (lAlive_any w0 HZ.out)
  have HPC := Lib.hid (putO_cases D l)
  have HST := Lib.hid (fun (hl : MayL l) => And.intro (stands_in (D := D) hl hwl) (And.intro (fun m => stands_there (D := D) hl hwl (m := m)) (And.intro (stands_length (D := D) hl hwl) (stands_first (D := D) hl hwl))))
  have hln : (findL D).length ≤ 4 := standL_length _ _
  obtain ⟨g, e, a, b, c, d, f⟩ := l
  simp only [lbC] at hw0
  simp only at HPC HST
  simp only [dval]
  clear h hL0 hnear hz bl xl
  go_enter Tryd.func4, Tryd.ntmps4
  go_wp2_with fail
  clear hw0
  refine HA.out.mono ?_
  rintro ev w1 ⟨rfl, b1⟩
  replace HB := Lib.hid (HB.out.step b1)
  replace HX := Lib.hid (HX.out.below b1 HX.out.lt)
  replace HZ := Lib.hid (HZ.out.step b1)
  obtain ⟨Ls, ec, hfo⟩ : ∃ L_ k_, findO D = (L_, k_) := ⟨_, _, rfl⟩
  have hfi := lFind_any x D w1 HB.out.dsk HZ.out
  rw [hfo] at hfi
  simp only [dval] at hfi
  have HFI := Lib.hid hfi
  have HFO := Lib.hid hfo
  have c0 := HB.out.c0
  have c1 := HB.out.c1
  clear b1 HA hfi hfo
  go_wp2_with fail
  clear c0 c1
  refine HFI.out.mono ?_
  rintro ev w2 ⟨v, rfl, r, b2⟩
  obtain ⟨aw, kw, rfl, sw⟩ := r.lbs
  replace HB := Lib.hid (HB.out.step b2)
  replace HX := Lib.hid (HX.out.below b2 HX.out.lt)
  replace HZ := Lib.hid (HZ.out.step b2)
  have HSw := Lib.hid sw
  clear b2 HFI r sw
  have HG := Lib.hid (rdGreat_any x D w2 HB.out.dsk HNR.out)
  have c0 := HB.out.c0
  have c1 := HB.out.c1
  simp only [dval] at HG
  go_wp2_with fail
  clear c0 c1
  refine HG.out.mono ?_
  rintro ev w3 ⟨gr, rfl, hsm, b3⟩
  replace HB := Lib.hid (HB.out.step b3)
  replace HX := Lib.hid (HX.out.below b3 HX.out.lt)
  replace HZ := Lib.hid (HZ.out.step b3)
  replace HSw := Lib.hid (HSw.out.step b3)
  clear b3 HG
  by_cases z1 : ec = 0
  · subst z1
    cases gr with
    | true =>
      go_wp2_with fail
      go_ret
      exact ⟨rfl, HB.out.bel⟩
    | false =>
      clear hsm
      obtain ⟨hmD, rfl⟩ : MayD D ∧ findL D = Ls := by
        have := HFO.out
        unfold findO at this
        by_cases hm : MayD D
        · rw [if_pos hm] at this
          exact ⟨hm, (Prod.mk.inj this).1⟩
        · rw [if_neg hm] at this
          exact absurd (Prod.mk.inj this).2 (by decide)
      have HMD := Lib.hid hmD
      have HST1 := Lib.hid (fun i hi => find_strict (D := D) i hi)
      have HMY := Lib.hid (fun i hi => find_may (D := D) i hi)
      obtain ⟨n, hn⟩ : ∃ n, (findL D).length = n := ⟨_, rfl⟩
      obtain ⟨Ls, hLs⟩ : ∃ L, findL D = L := ⟨_, rfl⟩
      have HEL := Lib.hid hLs
      rw [hLs] at HST1 HMY hn HSw hln
      simp only [hLs] at HST
      rw [hn] at HST1 HMY hln HSw
      have HEN := Lib.hid hn
      have n0 : (0 : Int) ≤ n := by omega
      have n1 : (n : Int) ≤ 4 := by omega
      simp only [hLs, hn]
      clear hmD hLs hn HFO
      go_wp2_with fail
      go_loopw [8] (fun i wr => ∃ k : Nat, k ≤ n ∧ i = .int .i64 k ∧ Below w3.heap.size w3 wr) (fun i _ => n - (intOf i).toNat)
      case atStart => exact ⟨0, Nat.zero_le _, rfl, Below.refl _ _⟩
      case round =>
        obtain ⟨k, hk, rfl, hH⟩ := hrel
        have k0 : (0 : Int) ≤ k := by omega
        by_cases hlt : k < n
        · have k1 : (k : Int) < n := by omega
          have k4 : (k : Int) ≤ 4 := by omega
          obtain ⟨bb, oo, g2, e2, x2, y2, z2, t2, u2, haw, hlt1, v1, hwf, c0, c1, c2, c3, c4, c5, c6⟩ := lb_cells (HSw.out.step hH) k hlt
          subst haw
          have hml := (HMY.out k hlt).1
          rw [v1] at hml
          have i1 : ¬ (g2 : Int) < 1 := by have := hml.1.1; simp only at this; omega
          have i2 : ¬ (e2 : Int) < 1 := by have := hml.2.1.1; simp only at this; omega
          have i1b : ¬ g2 = 0 := by omega
          have i2b : ¬ e2 = 0 := by omega
          have i1c : decide ((g2 : Int) < 1) = false := decide_eq_false i1
          have i2c : decide ((e2 : Int) < 1) = false := decide_eq_false i2
          have hck := fun W => Check_any (x2, y2, z2, t2, u2) W
          simp only [pcheckO, if_pos hml.2.2.2] at hck
          have HCK := Lib.hid hck
          clear hck hml
          by_cases hk0 : k = 0
          · subst hk0
            simp only [Nat.zero_mul, Nat.add_zero] at c0 c1 c2 c3 c4 c5 c6
            have i3 : ¬ (0 : Int) < ((0 : Nat) : Int) := by omega
            go_wp2_with fail
            obtain ⟨wd, hwd⟩ : ∃ wd, wr.drew = wd := ⟨_, rfl⟩
            have bd : Below wr.heap.size wr wd := by rw [← hwd]; exact (Below.refl _ _).drew
            have hHd := hH.trans (bd.mono hH.size)
            have hsev : Sev wr bb (oo) _ _ _ _ _ _ _ := ⟨c0, c1, c2, c3, c4, c5, c6⟩
            have C := fun X (hX : Below wd.heap.size wd X) => (hsev.below bd hlt1).below hX (Nat.lt_of_lt_of_le hlt1 bd.size)
            clear hsev
            have hbwd : Below wd.heap.size wd wd := Below.refl _ _
            clear c0 c1 c2 c3 c4 c5 c6 bd
            refine wpI_start (Below wd.heap.size wd) [0, 1, 2, 3, 4, 5, 6, 7, 8, 9, 10, 11, 12, 13, 14, 15, 16, 17, 18, 19, 20, 21, 22, 23, 24, 25, 26, 27, 28, 29, 30, 31, 32, 33, 34, 35, 36, 37, 38, 39, 40] hmx rfl hwd ?_
            clear hwd
            iterate 20 (
              refine wpI_read (v := ?_) hbwd rfl (by kernel_rfl) (by kernel_rfl) (by kernel_rfl) (fun _ _ _ h => h) (.inl ⟨by rfl, ?_⟩) ?_
              rotate_left
              · intro X hX
                obtain ⟨r0, r1, r2, r3, r4, r5, r6⟩ := C X hX
                clear hX
                go_simp
                with_reducible rfl
              try simp only [Act.put, List.setIfInBounds_toArray, List.set_cons_zero, List.set_cons_succ])
            refine wpI_lone rfl (by kernel_rfl) (fun K hK => ?_)
            go_simp
            refine (HCK.out wd).mono ?_
            rintro ev wk ⟨rfl, bk⟩
            refine hK _ _ bk ?_
            clear hK K
            try simp only [Act.put, List.setIfInBounds_toArray, List.set_cons_zero, List.set_cons_succ]
            iterate 6 (
              refine wpI_read (v := ?_) bk rfl (by kernel_rfl) (by kernel_rfl) (by kernel_rfl) (fun _ _ _ h => h) (.inl ⟨by rfl, ?_⟩) ?_
              rotate_left
              · intro X hX
                obtain ⟨r0, r1, r2, r3, r4, r5, r6⟩ := C X hX
                clear hX
                go_simp
                with_reducible rfl
              try simp only [Act.put, List.setIfInBounds_toArray, List.set_cons_zero, List.set_cons_succ])
            iterate 12 (
              refine wpI_read (v := undef) bk rfl (by kernel_rfl) (by kernel_rfl) (by kernel_rfl) (fun _ _ _ h => h) (.inr ⟨by rfl, rfl⟩) ?_
              try simp only [Act.put, List.setIfInBounds_toArray, List.set_cons_zero, List.set_cons_succ])
            iterate 2 (
              refine wpI_read (v := ?_) bk rfl (by kernel_rfl) (by kernel_rfl) (by kernel_rfl) (fun _ _ _ h => h) (.inl ⟨by rfl, ?_⟩) ?_
              rotate_left
              · intro X hX
                obtain ⟨r0, r1, r2, r3, r4, r5, r6⟩ := C X hX
                clear hX
                go_simp
                with_reducible rfl
              try simp only [Act.put, List.setIfInBounds_toArray, List.set_cons_zero, List.set_cons_succ])
            refine wpI_done (by kernel_rfl) ?_
            have hHk := hHd.trans (bk.mono hHd.size)
            clear C bk
            go_wp2_with fail
            go_roundw
            case rel => exact ⟨0 + 1, by omega, by go_num, hHk⟩
            case measure => simp [intOf]; omega
          · obtain ⟨m, hm⟩ : ∃ m, k = m + 1 := ⟨k - 1, by omega⟩
            have i3 : (0 : Int) < (k : Int) := by omega
            have i3b : 0 < k := by omega
            have i3c : decide ((0 : Int) < (k : Int)) = true := decide_eq_true i3
            have hm1 : (k : Int) - 1 = (m : Int) := by omega
            have m0 : (0 : Int) ≤ (m : Int) := by omega
            have m4 : (m : Int) < n := by omega
            have eW : IntKind.i64.wrap (m : Int) = (m : Int) := IntWalk.i64_in _ (by omega)
            obtain ⟨bb', oo', g3, _, _, _, _, _, _, he, _, v3, _, q0, _⟩ := lb_cells (HSw.out.step hH) m (by omega)
            cases he
            have hst := HST1.out m (by omega)
            rw [← hm, v1, v3] at hst
            simp only at hst
            have i4 : ¬ (g3 : Int) ≤ (g2 : Int) := by omega
            have i4b : ¬ g3 ≤ g2 := by omega
            have i4c : decide ((g3 : Int) ≤ (g2 : Int)) = false := decide_eq_false i4
            clear v1 v3 hst hk0 hm
            go_wp2_with fail
            obtain ⟨wd, hwd⟩ : ∃ wd, wr.drew = wd := ⟨_, rfl⟩
            have bd : Below wr.heap.size wr wd := by rw [← hwd]; exact (Below.refl _ _).drew
            have hHd := hH.trans (bd.mono hH.size)
            have hsev : Sev wr bb (oo + k * 7) _ _ _ _ _ _ _ := ⟨c0, c1, c2, c3, c4, c5, c6⟩
            have C := fun X (hX : Below wd.heap.size wd X) => (hsev.below bd hlt1).below hX (Nat.lt_of_lt_of_le hlt1 bd.size)
            clear hsev
            have P0 := fun X (hX : Below wd.heap.size wd X) => (hX.cell (p := ⟨bb, oo + m * 7, none⟩) (Nat.lt_of_lt_of_le hlt1 bd.size)).trans ((bd.cell (p := ⟨bb, oo + m * 7, none⟩) hlt1).trans q0)
            have hbwd : Below wd.heap.size wd wd := Below.refl _ _
            clear c0 c1 c2 c3 c4 c5 c6 bd q0
            refine wpI_start (Below wd.heap.size wd) [0, 1, 2, 3, 4, 5, 6, 7, 8, 9, 10, 11, 12, 13, 14, 15, 16, 17, 18, 19, 20, 21, 22, 23, 24, 25, 26, 27, 28, 29, 30, 31, 32, 33, 34, 35, 36, 37, 38, 39, 40] hmx rfl hwd ?_
            clear hwd
            iterate 20 (
              refine wpI_read (v := ?_) hbwd rfl (by kernel_rfl) (by kernel_rfl) (by kernel_rfl) (fun _ _ _ h => h) (.inl ⟨by rfl, ?_⟩) ?_
              rotate_left
              · intro X hX
                obtain ⟨r0, r1, r2, r3, r4, r5, r6⟩ := C X hX
                have s0 := P0 X hX
                clear hX
                go_simp
                with_reducible rfl
              try simp only [Act.put, List.setIfInBounds_toArray, List.set_cons_zero, List.set_cons_succ])
            refine wpI_lone rfl (by kernel_rfl) (fun K hK => ?_)
            go_simp
            refine (HCK.out wd).mono ?_
            rintro ev wk ⟨rfl, bk⟩
            refine hK _ _ bk ?_
            clear hK K
            try simp only [Act.put, List.setIfInBounds_toArray, List.set_cons_zero, List.set_cons_succ]
            iterate 20 (
              refine wpI_read (v := ?_) bk rfl (by kernel_rfl) (by kernel_rfl) (by kernel_rfl) (fun _ _ _ h => h) (.inl ⟨by rfl, ?_⟩) ?_
              rotate_left
              · intro X hX
                obtain ⟨r0, r1, r2, r3, r4, r5, r6⟩ := C X hX
                have s0 := P0 X hX
                clear hX
                go_simp
                with_reducible rfl
              try simp only [Act.put, List.setIfInBounds_toArray, List.set_cons_zero, List.set_cons_succ])
            refine wpI_done (by kernel_rfl) ?_
            have hHk := hHd.trans (bk.mono hHd.size)
            clear C bk P0
            go_wp2_with fail
            go_roundw
            case rel => exact ⟨k + 1, by omega, by go_num, hHk⟩
            case measure => simp [intOf]; omega
        · obtain rfl : n = k := by omega
          replace HB := Lib.hid (HB.out.step hH)
          replace HX := Lib.hid (HX.out.below hH HX.out.lt)
          replace HZ := Lib.hid (HZ.out.step hH)
          replace HSw := Lib.hid (HSw.out.step hH)
          have c0 := HB.out.c0
          have c1 := HB.out.c1
          obtain ⟨p0_, p1_, p2_, p3_, p4_, p5_, p6_⟩ := HX.out.seven
          have hput := lPut_any x D (g, e, a, b, c, d, f) wr HB.out.dsk HWL.out HZ.out
          simp only [dval] at hput
          have HPUT := Lib.hid hput
          clear hput hH
          go_wp2_with fail
          clear c0 c1 p0_ p1_ p2_ p3_ p4_ p5_ p6_
          refine HPUT.out.mono ?_
          rintro ev w5 ⟨x5, rfl, o5, b5⟩
          replace HB := Lib.hid (HB.out.step b5)
          replace HX := Lib.hid (HX.out.below b5 HX.out.lt)
          replace HZ := Lib.hid (HZ.out.step b5)
          replace HSw := Lib.hid (HSw.out.step b5)
          have HO := Lib.hid o5
          clear b5 o5 HPUT
          have i4 : ¬ (4 : Int) < (n : Int) := by omega
          rcases HPC.out with ⟨q, hq, hq0⟩ | ⟨_, hml, _, hmw, hq⟩
          · rw [hq]
            have hqb : (q == 0) = false := by simpa using hq0
            have ba := alloc_b w5 (.cells #[.slice x5.ba 0 x5.bc, .slice x5.wa 0 x5.wc] 30)
            replace HB := Lib.hid (HB.out.step ba)
            replace HX := Lib.hid (HX.out.below ba HX.out.lt)
            replace HZ := Lib.hid (HZ.out.step ba)
            replace HSw := Lib.hid (HSw.out.step ba)
            simp only [dval, List.length_nil]
            clear ba hq HPC
            go_wp2_with fail
            go_ret
            exact ⟨rfl, HB.out.bel⟩
          · obtain ⟨hin, hthere, hlen, hfirst⟩ := HST.out hml
            rw [hq] at HO ⊢
            obtain ⟨E, hE⟩ : ∃ E, withD D ((g % 4 : Nat) : Int) (blockL (g, e, a, b, c, d, f)) = E := ⟨_, rfl⟩
            simp only [hE] at hmw HO hin hthere hlen hfirst ⊢
            obtain ⟨N, hN⟩ : ∃ N, findL E = N := ⟨_, rfl⟩
            rw [hN] at hin hlen hfirst
            simp only [hN] at hthere
            have hfo : findO E = (N, 0) := by rw [findO, if_pos hmw, hN]
            have hn4 : N.length ≤ 4 := by rw [← hN]; exact standL_length _ _
            obtain ⟨s, hs⟩ : ∃ s, g % 4 = s := ⟨_, rfl⟩
            rw [hs] at hlen hthere
            obtain ⟨nn, hnn⟩ : ∃ nn, N.length = nn := ⟨_, rfl⟩
            rw [hnn] at hlen hn4
            rw [HEN.out] at hlen hfirst
            have HIN := Lib.hid hin
            have HTH := Lib.hid hthere
            have HLEN := Lib.hid hlen
            have HFS := Lib.hid hfirst
            have HFO := Lib.hid hfo
            have HNN := Lib.hid hnn
            have HSS := Lib.hid hs
            have q0 : (0 : Int) < (nn : Int) := by have := hlen; omega
            have q1 : (nn : Int) ≤ 4 := by omega
            have HU := Lib.hid (HB.out.put HO.out.dsk)
            have ba := alloc_b w5 (.cells #[.slice x5.ba E.1.length x5.bc, .slice x5.wa E.2.length x5.wc] 30)
            clear hin hthere hlen hfirst hfo hnn hml hmw hq hE hN hs HST HPC
            replace HB := Lib.hid (HB.out.step ba)
            replace HX := Lib.hid (HX.out.below ba HX.out.lt)
            replace HZ := Lib.hid (HZ.out.step ba)
            replace HSw := Lib.hid (HSw.out.step ba)
            obtain ⟨w6, hw6⟩ : ∃ w6, w5.alloc (.cells #[.slice x5.ba E.1.length x5.bc, .slice x5.wa E.2.length x5.wc] 30) = w6 := ⟨_, rfl⟩
            obtain ⟨g5, hg5⟩ : ∃ g, w5.heap.size = g := ⟨_, rfl⟩
            rw [hw6] at HU HB HX HZ HSw
            rw [hg5] at HU
            clear ba HO
            have c0 := HU.out.c0
            have c1 := HU.out.c1
            have hfi := lFind_any x5 E w6 HU.out.dsk HZ.out
            rw [HFO.out] at hfi
            simp only [dval] at hfi ⊢
            have HFI := Lib.hid hfi
            clear hfi
            go_wp2_with fail
            clear c0 c1 hw6 hg5
            refine HFI.out.mono ?_
            rintro ev w7 ⟨v, rfl, r, b7⟩
            obtain ⟨an, kn, rfl, sn⟩ := r.lbs
            replace HB := Lib.hid (HB.out.step b7)
            replace HX := Lib.hid (HX.out.below b7 HX.out.lt)
            replace HZ := Lib.hid (HZ.out.step b7)
            replace HSw := Lib.hid (HSw.out.step b7)
            replace HU := Lib.hid (HU.out.step b7)
            rw [HNN.out] at sn
            have HSn := Lib.hid sn
            rw [HNN.out]
            have q2 : ((nn : Int) == 0) = false := by simp; omega
            clear b7 HFI r sn
            go_wp2_with fail
            go_loopw [13, 15, 16] (fun gt kp i wr => ∃ k : Nat, k ≤ n ∧ i = .int .i64 k ∧ kp = .int .i64 (keptN Ls s k : Nat) ∧ gt = .bool (gB Ls g k) ∧ Below w7.heap.size w7 wr) (fun _ _ i _ => n - (intOf i).toNat)
            case atStart => exact ⟨0, Nat.zero_le _, rfl, rfl, rfl, Below.refl _ _⟩
            case round =>
              obtain ⟨k, hk, rfl, rfl, rfl, hH⟩ := hrel
              obtain ⟨wo, hwo⟩ : ∃ wo : World, wo = wr := ⟨_, rfl⟩
              subst hwo
              have k0 : (0 : Int) ≤ k := by omega
              have hkl := keptN_le Ls s k
              have kp0 : (0 : Int) ≤ (keptN Ls s k : Nat) := by omega
              have kp1 : ((keptN Ls s k : Nat) : Int) ≤ 4 := by omega
              by_cases hlt : k < n
              · have k1 : (k : Int) < n := by omega
                obtain ⟨bb, oo, g2, e2, x2, y2, z2, t2, u2, haw, hlt1, v1, hwf, c0, c1, c2, c3, c4, c5, c6⟩ := lb_cells (HSw.out.step hH) k hlt
                subst haw
                have HSV := Lib.hid (show Sev wo bb (oo + k * 7) _ _ _ _ _ _ _ from ⟨c0, c1, c2, c3, c4, c5, c6⟩)
                have HXo := Lib.hid (HX.out.below hH HX.out.lt)
                obtain ⟨p0_, p1_, p2_, p3_, p4_, p5_, p6_⟩ := HXo.out.seven
                have hgs : gB Ls g (k + 1) = (gB Ls g k && decide (g2 < g)) := by rw [gB, v1]
                have hks : keptN Ls s (k + 1) = if g2 % 4 = s then keptN Ls s k else keptN Ls s k + 1 := by rw [keptN, v1]
                have hmem : (g2, e2, x2, y2, z2, t2, u2) ∈ Ls := by
                  rw [← v1, getD_lt (by rw [HEN.out]; exact hlt)]
                  exact List.getElem_mem _
                have hin2 : g2 % 4 ≠ s → inB N (g2, e2, x2, y2, z2, t2, u2) nn = true := fun hne => by
                  rw [← HNN.out]
                  exact inB_mem (HTH.out _ hmem hne)
                have HI2 := Lib.hid hin2
                obtain ⟨gbk, hgb⟩ : ∃ y, gB Ls g k = y := ⟨_, rfl⟩
                obtain ⟨kpk, hkp⟩ : ∃ y, keptN Ls s k = y := ⟨_, rfl⟩
                rw [hgb] at hgs
                rw [hkp] at hks
                simp only [hgb, hkp] at kp0 kp1 ⊢
                have HGS := Lib.hid hgs
                have HKS := Lib.hid hks
                have h2l := hwf.1
                simp only at h2l
                clear hgs hks hin2 hmem v1 hgb hkp hkl hwf
                by_cases hgt : g2 < g
                · have i5 : ¬ (g : Int) ≤ (g2 : Int) := by omega
                  have hgs : gB Ls g (k + 1) = gbk := by rw [HGS.out, decide_eq_true hgt, Bool.and_true]
                  have HGK := Lib.hid hgs
                  clear hgs HGS hgt
                  go_wp2_with fail
                  go_quiet (fail)
                  go_wp2_with fail
                  obtain ⟨v2, hv2⟩ : ∃ v : Int, ((g2 % 4 : Nat) : Int) = v := ⟨_, rfl⟩
                  obtain ⟨v1, hv1⟩ : ∃ v : Int, ((s : Nat) : Int) = v := ⟨_, rfl⟩
                  have hs2 := fun W => lSlot_any g2 h2l W
                  have hs1 := fun W => lSlot_any g HWL.out.1 W
                  rw [HSS.out] at hs1
                  rw [hv2] at hs2
                  rw [hv1] at hs1
                  have HS2 := Lib.hid hs2
                  have HS1 := Lib.hid hs1
                  clear hs1 hs2
                  obtain ⟨wd, hwd⟩ : ∃ wd, (wo.drewN nq).drew = wd := ⟨_, rfl⟩
                  have bd : Below wo.heap.size wo wd := by rw [← hwd]; exact (below_drewN (Below.refl wo.heap.size wo) nq).drew
                  have C := fun X (hX : Below wd.heap.size wd X) => (HSV.out.below bd hlt1).below hX (Nat.lt_of_lt_of_le hlt1 bd.size)
                  have PX := fun X (hX : Below wd.heap.size wd X) => ((HXo.out.below bd HXo.out.lt).below hX (Nat.lt_of_lt_of_le HXo.out.lt bd.size)).seven
                  have hbwd : Below wd.heap.size wd wd := Below.refl _ _
                  clear c0 c1 c2 c3 c4 c5 c6 p0_ p1_ p2_ p3_ p4_ p5_ p6_
                  refine wpI_start (Below wd.heap.size wd) [0, 1, 2, 3, 4, 6, 7, 5, 8, 9] hmx rfl hwd ?_
                  clear hwd
                  iterate 7 (
                    refine wpI_read (v := ?_) hbwd rfl (by kernel_rfl) (by kernel_rfl) (by kernel_rfl) (fun _ _ _ h => h) (.inl ⟨by rfl, ?_⟩) ?_
                    rotate_left
                    · intro X hX
                      obtain ⟨r0, r1, r2, r3, r4, r5, r6⟩ := C X hX
                      obtain ⟨s0, s1, s2, s3, s4, s5, s6⟩ := PX X hX
                      clear hX
                      go_simp
                      with_reducible rfl
                    try simp only [Act.put, List.setIfInBounds_toArray, List.set_cons_zero, List.set_cons_succ])
                  clear C PX
                  refine wpI_lone rfl (by kernel_rfl) (fun K hK => ?_)
                  go_simp
                  refine (HS2.out wd).mono ?_
                  rintro ev wk ⟨rfl, rfl⟩
                  refine hK _ _ hbwd ?_
                  clear hK K
                  try simp only [Act.put, List.setIfInBounds_toArray, List.set_cons_zero, List.set_cons_succ]
                  refine wpI_lone rfl (by kernel_rfl) (fun K hK => ?_)
                  go_simp
                  refine (HS1.out wd).mono ?_
                  rintro ev wk ⟨rfl, rfl⟩
                  refine hK _ _ hbwd ?_
                  clear hK K
                  try simp only [Act.put, List.setIfInBounds_toArray, List.set_cons_zero, List.set_cons_succ]
                  by_cases hsl : g2 % 4 = s
                  · have hvv : (v2 == v1) = true := by simp; omega
                    have hks := HKS.out
                    rw [if_pos hsl] at hks
                    have HKK := Lib.hid hks
                    have HHD := Lib.hid (hH.trans (bd.mono hH.size))
                    clear hks hsl hv1 hv2 HKS HI2
                    iterate 1 (
                      refine wpI_read (v := ?_) hbwd rfl (by kernel_rfl) (by kernel_rfl) (by kernel_rfl) (fun _ _ _ h => h) (.inl ⟨by rfl, ?_⟩) ?_
                      rotate_left
                      · intro X hX
                        clear hX
                        go_simp
                        with_reducible rfl
                      try simp only [Act.put, List.setIfInBounds_toArray, List.set_cons_zero, List.set_cons_succ])
                    refine wpI_done (by kernel_rfl) ?_
                    clear bd hbwd
                    go_wp2_with fail
                    go_roundw
                    case rel => exact ⟨k + 1, by omega, by go_num, by rw [HKK.out], by rw [HGK.out], HHD.out⟩
                    case measure => simp [intOf]; omega
                  · have hvv : (v2 == v1) = false := by simp; omega
                    have hks := HKS.out
                    rw [if_neg hsl] at hks
                    have HKK := Lib.hid hks
                    have hi2 := HI2.out hsl
                    have HI3 := Lib.hid hi2
                    have HBD := Lib.hid bd
                    clear hks hsl hv1 hv2 HKS HI2 hi2
                    iterate 1 (
                      refine wpI_read (v := ?_) hbwd rfl (by kernel_rfl) (by kernel_rfl) (by kernel_rfl) (fun _ _ _ h => h) (.inl ⟨by rfl, ?_⟩) ?_
                      rotate_left
                      · intro X hX
                        clear hX
                        go_simp
                        with_reducible rfl
                      try simp only [Act.put, List.setIfInBounds_toArray, List.set_cons_zero, List.set_cons_succ])
                    refine wpI_done (by kernel_rfl) ?_
                    clear bd hbwd
                    go_wp2_with fail
                    go_loopw [17, 18] (fun th kk wi => ∃ j : Nat, j ≤ nn ∧ kk = .int .i64 j ∧ th = .bool (inB N (g2, e2, x2, y2, z2, t2, u2) j) ∧ Below wo.heap.size wo wi) (fun _ kk _ => nn - (intOf kk).toNat)
                    case atStart => exact ⟨0, Nat.zero_le _, rfl, rfl, HBD.out⟩
                    case round =>
                      obtain ⟨j, hj, rfl, rfl, hI⟩ := hrel
                      obtain ⟨wi, hwi⟩ : ∃ wi : World, wi = wr := ⟨_, rfl⟩
                      subst hwi
                      have j0 : (0 : Int) ≤ j := by omega
                      by_cases hjl : j < nn
                      · have j1 : (j : Int) < nn := by omega
                        obtain ⟨c0, c1, c2, c3, c4, c5, c6⟩ := HSV.out.below hI hlt1
                        obtain ⟨nb, no, n0_, n1_, n2_, n3_, n4_, n5_, n6_, han, _, vn, _, d0, d1, d2, d3, d4, d5, d6⟩ := lb_cells (HSn.out.step (hH.trans (hI.mono hH.size))) j hjl
                        subst han
                        have hstep : inB N (g2, e2, x2, y2, z2, t2, u2) (j + 1) = (inB N (g2, e2, x2, y2, z2, t2, u2) j || eqL (n0_, n1_, n2_, n3_, n4_, n5_, n6_) (g2, e2, x2, y2, z2, t2, u2)) := by rw [inB, vn]; rfl
                        have heq : ∀ W, (Op.equalIn 10000 38 (lbV (n0_, n1_, n2_, n3_, n4_, n5_, n6_)) (lbV (g2, e2, x2, y2, z2, t2, u2))).run Tryd.prog W = .ok (eqL (n0_, n1_, n2_, n3_, n4_, n5_, n6_) (g2, e2, x2, y2, z2, t2, u2)) W := fun W => eqLb _ _ W
                        simp only [lbV] at heq
                        obtain ⟨q, hq⟩ : ∃ q, eqL (n0_, n1_, n2_, n3_, n4_, n5_, n6_) (g2, e2, x2, y2, z2, t2, u2) = q := ⟨_, rfl⟩
                        obtain ⟨p, hp⟩ : ∃ p, inB N (g2, e2, x2, y2, z2, t2, u2) j = p := ⟨_, rfl⟩
                        rw [hq] at heq hstep
                        rw [hp] at hstep
                        simp only [hp]
                        have HSTP := Lib.hid hstep
                        have HIW := Lib.hid hI
                        clear hq hp hstep vn hI
                        cases p with
                        | true =>
                          go_wp2_with fail
                          go_quiet (fail)
                          go_wp2_with fail
                          go_roundw
                          case rel => exact ⟨j + 1, by omega, by go_num, by rw [HSTP.out]; rfl, below_drewN HIW.out _⟩
                          case measure => simp [intOf]; omega
                        | false =>
                          go_wp2_with fail
                          go_quiet (fail)
                          go_wp2_with fail
                          go_roundw
                          case rel => exact ⟨j + 1, by omega, by go_num, by rw [HSTP.out, Bool.false_or], below_drewN HIW.out _⟩
                          case measure => simp [intOf]; omega
                      · obtain rfl : nn = j := by omega
                        rw [HI3.out]
                        have HHD := Lib.hid (hH.trans (hI.mono hH.size))
                        go_wp2_with fail
                        go_roundw
                        case rel => exact ⟨k + 1, by omega, by go_num, by rw [HKK.out]; go_num, by rw [HGK.out], HHD.out⟩
                        case measure => simp [intOf]; omega
                · have i5 : (g : Int) ≤ (g2 : Int) := by omega
                  have hgs : gB Ls g (k + 1) = false := by rw [HGS.out, decide_eq_false hgt, Bool.and_false]
                  have HGK := Lib.hid hgs
                  clear hgs HGS hgt
                  go_wp2_with fail
                  go_quiet (fail)
                  go_wp2_with fail
                  obtain ⟨v2, hv2⟩ : ∃ v : Int, ((g2 % 4 : Nat) : Int) = v := ⟨_, rfl⟩
                  obtain ⟨v1, hv1⟩ : ∃ v : Int, ((s : Nat) : Int) = v := ⟨_, rfl⟩
                  have hs2 := fun W => lSlot_any g2 h2l W
                  have hs1 := fun W => lSlot_any g HWL.out.1 W
                  rw [HSS.out] at hs1
                  rw [hv2] at hs2
                  rw [hv1] at hs1
                  have HS2 := Lib.hid hs2
                  have HS1 := Lib.hid hs1
                  clear hs1 hs2
                  obtain ⟨wd, hwd⟩ : ∃ wd, (wo.drewN nq).drew = wd := ⟨_, rfl⟩
                  have bd : Below wo.heap.size wo wd := by rw [← hwd]; exact (below_drewN (Below.refl wo.heap.size wo) nq).drew
                  have C := fun X (hX : Below wd.heap.size wd X) => (HSV.out.below bd hlt1).below hX (Nat.lt_of_lt_of_le hlt1 bd.size)
                  have PX := fun X (hX : Below wd.heap.size wd X) => ((HXo.out.below bd HXo.out.lt).below hX (Nat.lt_of_lt_of_le HXo.out.lt bd.size)).seven
                  have hbwd : Below wd.heap.size wd wd := Below.refl _ _
                  clear c0 c1 c2 c3 c4 c5 c6 p0_ p1_ p2_ p3_ p4_ p5_ p6_
                  refine wpI_start (Below wd.heap.size wd) [0, 1, 2, 3, 4, 6, 7, 5, 8, 9] hmx rfl hwd ?_
                  clear hwd
                  iterate 7 (
                    refine wpI_read (v := ?_) hbwd rfl (by kernel_rfl) (by kernel_rfl) (by kernel_rfl) (fun _ _ _ h => h) (.inl ⟨by rfl, ?_⟩) ?_
                    rotate_left
                    · intro X hX
                      obtain ⟨r0, r1, r2, r3, r4, r5, r6⟩ := C X hX
                      obtain ⟨s0, s1, s2, s3, s4, s5, s6⟩ := PX X hX
                      clear hX
                      go_simp
                      with_reducible rfl
                    try simp only [Act.put, List.setIfInBounds_toArray, List.set_cons_zero, List.set_cons_succ])
                  clear C PX
                  refine wpI_lone rfl (by kernel_rfl) (fun K hK => ?_)
                  go_simp
                  refine (HS2.out wd).mono ?_
                  rintro ev wk ⟨rfl, rfl⟩
                  refine hK _ _ hbwd ?_
                  clear hK K
                  try simp only [Act.put, List.setIfInBounds_toArray, List.set_cons_zero, List.set_cons_succ]
                  refine wpI_lone rfl (by kernel_rfl) (fun K hK => ?_)
                  go_simp
                  refine (HS1.out wd).mono ?_
                  rintro ev wk ⟨rfl, rfl⟩
                  refine hK _ _ hbwd ?_
                  clear hK K
                  try simp only [Act.put, List.setIfInBounds_toArray, List.set_cons_zero, List.set_cons_succ]
                  by_cases hsl : g2 % 4 = s
                  · have hvv : (v2 == v1) = true := by simp; omega
                    have hks := HKS.out
                    rw [if_pos hsl] at hks
                    have HKK := Lib.hid hks
                    have HHD := Lib.hid (hH.trans (bd.mono hH.size))
                    clear hks hsl hv1 hv2 HKS HI2
                    iterate 1 (
                      refine wpI_read (v := ?_) hbwd rfl (by kernel_rfl) (by kernel_rfl) (by kernel_rfl) (fun _ _ _ h => h) (.inl ⟨by rfl, ?_⟩) ?_
                      rotate_left
                      · intro X hX
                        clear hX
                        go_simp
                        with_reducible rfl
                      try simp only [Act.put, List.setIfInBounds_toArray, List.set_cons_zero, List.set_cons_succ])
                    refine wpI_done (by kernel_rfl) ?_
                    clear bd hbwd
                    go_wp2_with fail
                    go_roundw
                    case rel => exact ⟨k + 1, by omega, by go_num, by rw [HKK.out], by rw [HGK.out], HHD.out⟩
                    case measure => simp [intOf]; omega
                  · have hvv : (v2 == v1) = false := by simp; omega
                    have hks := HKS.out
                    rw [if_neg hsl] at hks
                    have HKK := Lib.hid hks
                    have hi2 := HI2.out hsl
                    have HI3 := Lib.hid hi2
                    have HBD := Lib.hid bd
                    clear hks hsl hv1 hv2 HKS HI2 hi2
                    iterate 1 (
                      refine wpI_read (v := ?_) hbwd rfl (by kernel_rfl) (by kernel_rfl) (by kernel_rfl) (fun _ _ _ h => h) (.inl ⟨by rfl, ?_⟩) ?_
                      rotate_left
                      · intro X hX
                        clear hX
                        go_simp
                        with_reducible rfl
                      try simp only [Act.put, List.setIfInBounds_toArray, List.set_cons_zero, List.set_cons_succ])
                    refine wpI_done (by kernel_rfl) ?_
                    clear bd hbwd
                    go_wp2_with fail
                    go_loopw [17, 18] (fun th kk wi => ∃ j : Nat, j ≤ nn ∧ kk = .int .i64 j ∧ th = .bool (inB N (g2, e2, x2, y2, z2, t2, u2) j) ∧ Below wo.heap.size wo wi) (fun _ kk _ => nn - (intOf kk).toNat)
                    case atStart => exact ⟨0, Nat.zero_le _, rfl, rfl, HBD.out⟩
                    case round =>
                      obtain ⟨j, hj, rfl, rfl, hI⟩ := hrel
                      obtain ⟨wi, hwi⟩ : ∃ wi : World, wi = wr := ⟨_, rfl⟩
                      subst hwi
                      have j0 : (0 : Int) ≤ j := by omega
                      by_cases hjl : j < nn
                      · have j1 : (j : Int) < nn := by omega
                        obtain ⟨c0, c1, c2, c3, c4, c5, c6⟩ := HSV.out.below hI hlt1
                        obtain ⟨nb, no, n0_, n1_, n2_, n3_, n4_, n5_, n6_, han, _, vn, _, d0, d1, d2, d3, d4, d5, d6⟩ := lb_cells (HSn.out.step (hH.trans (hI.mono hH.size))) j hjl
                        subst han
                        have hstep : inB N (g2, e2, x2, y2, z2, t2, u2) (j + 1) = (inB N (g2, e2, x2, y2, z2, t2, u2) j || eqL (n0_, n1_, n2_, n3_, n4_, n5_, n6_) (g2, e2, x2, y2, z2, t2, u2)) := by rw [inB, vn]; rfl
                        have heq : ∀ W, (Op.equalIn 10000 38 (lbV (n0_, n1_, n2_, n3_, n4_, n5_, n6_)) (lbV (g2, e2, x2, y2, z2, t2, u2))).run Tryd.prog W = .ok (eqL (n0_, n1_, n2_, n3_, n4_, n5_, n6_) (g2, e2, x2, y2, z2, t2, u2)) W := fun W => eqLb _ _ W
                        simp only [lbV] at heq
                        obtain ⟨q, hq⟩ : ∃ q, eqL (n0_, n1_, n2_, n3_, n4_, n5_, n6_) (g2, e2, x2, y2, z2, t2, u2) = q := ⟨_, rfl⟩
                        obtain ⟨p, hp⟩ : ∃ p, inB N (g2, e2, x2, y2, z2, t2, u2) j = p := ⟨_, rfl⟩
                        rw [hq] at heq hstep
                        rw [hp] at hstep
                        simp only [hp]
                        have HSTP := Lib.hid hstep
                        have HIW := Lib.hid hI
                        clear hq hp hstep vn hI
                        cases p with
                        | true =>
                          go_wp2_with fail
                          go_quiet (fail)
                          go_wp2_with fail
                          go_roundw
                          case rel => exact ⟨j + 1, by omega, by go_num, by rw [HSTP.out]; rfl, below_drewN HIW.out _⟩
                          case measure => simp [intOf]; omega
                        | false =>
                          go_wp2_with fail
                          go_quiet (fail)
                          go_wp2_with fail
                          go_roundw
                          case rel => exact ⟨j + 1, by omega, by go_num, by rw [HSTP.out, Bool.false_or], below_drewN HIW.out _⟩
                          case measure => simp [intOf]; omega
                      · obtain rfl : nn = j := by omega
                        rw [HI3.out]
                        have HHD := Lib.hid (hH.trans (hI.mono hH.size))
                        go_wp2_with fail
                        go_roundw
                        case rel => exact ⟨k + 1, by omega, by go_num, by rw [HKK.out]; go_num, by rw [HGK.out], HHD.out⟩
                        case measure => simp [intOf]; omega
              · obtain rfl : n = k := by omega
                have hle := HLEN.out
                have HGBF := Lib.hid (fun (h : gB Ls g n = true) => HFS.out h)
                obtain ⟨gt, hgt⟩ : ∃ y, gB Ls g n = y := ⟨_, rfl⟩
                obtain ⟨kp, hkp⟩ : ∃ y, keptN Ls s n = y := ⟨_, rfl⟩
                rw [hgt] at HGBF
                rw [hkp] at hle
                simp only [hgt, hkp] at kp0 kp1 ⊢
                have HHo := Lib.hid hH
                have HLE := Lib.hid hle
                clear hkl hgt hkp hH hle
                go_wp2_with fail
                go_loopw [14, 19] (fun fd i wi => ∃ j : Nat, j ≤ nn ∧ i = .int .i64 j ∧ fd = .bool (inB N (g, e, a, b, c, d, f) j) ∧ Below wo.heap.size wo wi) (fun _ i _ => nn - (intOf i).toNat)
                case atStart => exact ⟨0, Nat.zero_le _, rfl, rfl, Below.refl _ _⟩
                case round =>
                  obtain ⟨j, hj, rfl, rfl, hI⟩ := hrel
                  obtain ⟨wi, hwi⟩ : ∃ wi : World, wi = wr := ⟨_, rfl⟩
                  subst hwi
                  have j0 : (0 : Int) ≤ j := by omega
                  have hHI := HHo.out.trans (hI.mono HHo.out.size)
                  obtain ⟨p0_, p1_, p2_, p3_, p4_, p5_, p6_⟩ := (HX.out.below hHI HX.out.lt).seven
                  by_cases hjl : j < nn
                  · have j1 : (j : Int) < nn := by omega
                    obtain ⟨nb, no, n0_, n1_, n2_, n3_, n4_, n5_, n6_, han, _, vn, _, d0, d1, d2, d3, d4, d5, d6⟩ := lb_cells (HSn.out.step hHI) j hjl
                    subst han
                    have hstep : inB N (g, e, a, b, c, d, f) (j + 1) = (inB N (g, e, a, b, c, d, f) j || eqL (n0_, n1_, n2_, n3_, n4_, n5_, n6_) (g, e, a, b, c, d, f)) := by rw [inB, vn]; rfl
                    have heq : ∀ W, (Op.equalIn 10000 38 (lbV (n0_, n1_, n2_, n3_, n4_, n5_, n6_)) (lbV (g, e, a, b, c, d, f))).run Tryd.prog W = .ok (eqL (n0_, n1_, n2_, n3_, n4_, n5_, n6_) (g, e, a, b, c, d, f)) W := fun W => eqLb _ _ W
                    simp only [lbV] at heq
                    obtain ⟨q, hq⟩ : ∃ q, eqL (n0_, n1_, n2_, n3_, n4_, n5_, n6_) (g, e, a, b, c, d, f) = q := ⟨_, rfl⟩
                    obtain ⟨p, hp⟩ : ∃ p, inB N (g, e, a, b, c, d, f) j = p := ⟨_, rfl⟩
                    rw [hq] at heq hstep
                    rw [hp] at hstep
                    simp only [hp]
                    have HSTP := Lib.hid hstep
                    have HIW := Lib.hid hI
                    clear hq hp hstep vn hI hHI
                    cases p with
                    | true =>
                      go_wp2_with fail
                      go_quiet (fail)
                      go_wp2_with fail
                      go_roundw
                      case rel => exact ⟨j + 1, by omega, by go_num, by rw [HSTP.out]; rfl, below_drewN HIW.out _⟩
                      case measure => simp [intOf]; omega
                    | false =>
                      go_wp2_with fail
                      go_quiet (fail)
                      go_wp2_with fail
                      go_roundw
                      case rel => exact ⟨j + 1, by omega, by go_num, by rw [HSTP.out, Bool.false_or], below_drewN HIW.out _⟩
                      case measure => simp [intOf]; omega
                  · obtain rfl : nn = j := by omega
                    have hfd : inB N (g, e, a, b, c, d, f) nn = true := by rw [← HNN.out]; exact inB_mem HIN.out
                    rw [hfd]
                    obtain ⟨nb, no, n0_, n1_, n2_, n3_, n4_, n5_, n6_, han, _, vn, _, d0, d1, d2, d3, d4, d5, d6⟩ := lb_cells (HSn.out.step hHI) 0 (by omega)
                    subst han
                    simp only [Nat.zero_mul, Nat.add_zero] at d0 d1 d2 d3 d4 d5 d6
                    have hnk : ((nn : Int) == (kp : Int) + 1) = true := by have := HLE.out; simp; omega
                    have hnk2 : (nn : Int) = (kp : Int) + 1 := by have := HLE.out; omega
                    have HBE := Lib.hid (HB.out.bel.trans (hHI.mono HB.out.bel.size))
                    clear hI hHI hfd
                    cases gt with
                    | false =>
                      clear vn hnk
                      go_wp2_with fail
                      go_quiet (fail)
                      go_wp2_with fail
                      go_ret
                      exact ⟨by simp, below_drewN HBE.out _⟩
                    | true =>
                      have hf := HGBF.out rfl
                      rw [vn] at hf
                      have heq : ∀ W, (Op.equalIn 10000 38 (lbV (n0_, n1_, n2_, n3_, n4_, n5_, n6_)) (lbV (g, e, a, b, c, d, f))).run Tryd.prog W = .ok true W := fun W => by rw [eqLb, (eqL_iff _ _).2 hf]
                      simp only [lbV] at heq
                      clear vn hf hnk
                      go_wp2_with fail
                      go_quiet (fail)
                      go_wp2_with fail
                      go_ret
                      exact ⟨by simp, below_drewN HBE.out _⟩
  · have zb : (ec == 0) = false := by simpa using z1
    have hnil : Ls = [] := by
      have := HFO.out
      unfold findO at this
      by_cases hm : MayD D
      · rw [if_pos hm] at this
        exact absurd (Prod.mk.inj this).2.symm z1
      · rw [if_neg hm] at this
        exact (Prod.mk.inj this).1.symm
    subst hnil
    simp only [List.length_nil]
    cases gr with
    | true =>
      go_wp2_with fail
      go_ret
      exact ⟨rfl, HB.out.bel⟩
    | false =>
      go_wp2_with fail
      go_ret
      exact ⟨rfl, HB.out.bel⟩
end Go.Proofs.YtldnelimemjaiaaDoor
namespace Go.Proofs.YtldnelimemjaiaaDoor.labelStands
open Go.ChangeShapes Go.WideShapes Go.ChangeAt Go.RowKit
set_option linter.unusedVariables false

theorem own : ownKnob Tryd.prog.godebug = none := by kernel_rfl
theorem laidOut : laidOutB Tryd.prog = true := by kernel_rfl

set_option maxRecDepth 100000 in
theorem lifted (os : Os) (started : os.Started) (H : Type) (enc : TypeId × Value → H) :
    ReturnsInHanded {} Tryd.checked os 4 .any (fun w args => (Rows.labelStandsSpec.pre enc Tryd.prog Tryd.f4 [] false w args ∧ laidMetH Tryd.prog [("charterhouse/ptr.sizes", Rows.laid_charterhouse_ptr_sizes)] w) ∧ sizedMet enc Tryd.prog Tryd.f4 (OpenSpec.ofChange Rows.labelStandsSpec) false w args)
      (Rows.labelStandsSpec.post enc Tryd.prog Tryd.f4 false true false false) := by
  refine returnsInHanded_of_change_and (C := Tryd.checked) (X := fun w _ => laidMetH Tryd.prog [("charterhouse/ptr.sizes", Rows.laid_charterhouse_ptr_sizes)] w) (fun _ _ _ hh h => h.of_heap hh) own started (by kernel_rfl) Tryd.func4
    (ChangeSpec.witness_shaped (enc := enc) (C := Tryd.checked) (os := os) (X := fun w _ => laidMetH Tryd.prog [("charterhouse/ptr.sizes", Rows.laid_charterhouse_ptr_sizes)] w) false (World.doorLaid Tryd.prog 400 os) #[.agg #[.slice none 0 0, .slice none 0 0], .agg #[.int .u32 0, .int .u32 0, .int .i64 0, .int .u32 0, .int .u32 0, .int .u32 0, .int .u32 0]] 8 rfl (World.shaped_of_RefB (by kernel_rfl) (by kernel_rfl)) (by kernel_rfl) (by kernel_rfl) (by kernel_rfl) (door_met os _)) ?_
  intro W base args ds gs before hval0 hW _ hsz hL _
  have hval : ∀ (j : Nat) t v, Tryd.f4.params[j]? = some t → args[j]? = some v → Value.okWide Tryd.prog W .any base t v := hval0
  have hW' := hW
  obtain ⟨p, q, hA0, hV, rfl, hfz, hnd⟩ := hW
  have hA : DataW.TrodAll enc Tryd.prog W 0 (fun _ => true) true Tryd.f4.params.toList args.toList ds p := hA0
  rw [Tryd.params4] at hA hval
  obtain ⟨v0, vs0, d0, ds0, p0, q0, hargs, rfl, rfl, h0, r0⟩ := trodAll_cons hA
  obtain ⟨v1, vs1, d1, ds1, p1, q1, rfl, rfl, rfl, h1, r1⟩ := trodAll_cons r0
  obtain ⟨rfl, rfl, rfl⟩ := trodAll_nil r1
  obtain rfl : args = #[v0, v1] := by cases args; simp_all
  obtain ⟨rfl, rfl⟩ := trodVars_none hV
  have k0 := h0
  have lt0 : ∀ x ∈ p0, x.block < W.heap.size := by obtain ⟨m, hm⟩ := k0; exact DataW.trod_lt m _ _ _ hm
  obtain ⟨x0, D0, rfl, w0, m0⟩ := open_disk (hval 0 30 v0 rfl rfl) h0 (fun n hn => by
    have := List.all_eq_true.1 hsz n (DataW.weights_mem_each (j := 0) (t := 30) (by kernel_rfl) rfl n hn)
    simpa using this)
  have k1 := h1
  have lt1 : ∀ x ∈ p1, x.block < W.heap.size := by obtain ⟨m, hm⟩ := k1; exact DataW.trod_lt m _ _ _ hm
  obtain ⟨z1, rfl, w1⟩ := open_label (hval 1 38 v1 rfl rfl) h1
  clear hA0 hval0
  refine (labelStands_walk x0 D0 z1 W (szs_of_laid hL) w0 m0 w1).mono fun e W' ⟨he, bel⟩ => ?_
  subst he
  exact ⟨_, rfl, _, _, _, [], _, [], hW', trodAll_mk1 (shut_bool Tryd.underlying4 _), (trodAll_cons_mk (Below.trod laidOut (by kernel_rfl) (of_decide_eq_true (by kernel_rfl)) k0 bel lt0) (trodAll_cons_mk (Below.trod laidOut (by kernel_rfl) (of_decide_eq_true (by kernel_rfl)) k1 bel lt1) trodAll_mk0)), rfl, bel.frame _, fun h => by cases h⟩

theorem over : Rows.LabelStandsSaid :=
  OpenClaim.holds_of_wide 4 Tryd.f4 rfl rfl rfl rfl rfl rfl rfl ⟨rfl, rfl, rfl, rfl, rfl⟩ rfl rfl rfl rfl rfl (by kernel_rfl) Tryd.func4 (by kernel_rfl)
    (of_decide_eq_true (by kernel_rfl)) (by unfold Func.isWrapper; first | (rw [if_pos (by decide +kernel)]; kernel_rfl) | (rw [if_neg (by decide +kernel)]; exact ⟨rfl, rfl⟩))
    (fun os started H enc _ => lifted os started H enc)

/-- The statement. -/
theorem proved : Rows.LabelStandsCardSaid :=
  Claim7.holds_tied_plain_at .later [] [.data] true _ false
    over (fun _ h => by cases h) (by kernel_rfl) (fun _ h => by cases h) labelStands_row_tie rfl ⟨rfl, rfl⟩ (by kernel_rfl) rfl
    (fun f fn hf hfn => by
      obtain rfl : f = 4 := Option.some.inj ((show Tryd.prog.funcNamed "charterhouse/charterhouselaw11.LabelStands" = some 4 by kernel_rfl).symm.trans hf) |>.symm
      obtain rfl : fn = Tryd.f4 := (Option.some.inj (Tryd.func4.symm.trans hfn)).symm
      exact ⟨by kernel_rfl, fun j t ht => by
        rw [Tryd.params4] at ht
        have hm : t ∈ [30, 38] := by simpa using Array.mem_of_getElem? ht
        have hall : ([30, 38].all fun u => !Tryd.prog.wantsStandIn u) = true := by kernel_rfl
        exact (show Tryd.prog.wantsStandIn t = false by simpa using List.all_eq_true.1 hall t hm)⟩)
    (by kernel_rfl)
end Go.Proofs.YtldnelimemjaiaaDoor.labelStands
