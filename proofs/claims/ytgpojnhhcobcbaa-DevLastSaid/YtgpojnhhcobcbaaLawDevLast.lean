/-
  DevLastSaid, the stage's theorem: for any disk, marks and number (of a disk that is great, or more than 5,000 marks, the law itself answers what its example answers) a crash that is not refused leaves of a block what its last write had whose mark is true, and what lasted there, if it has none. No condition.
-/
import Derived.Test.YtgpojnhhcobcbaaRows
import Derived.Test.YtgpojnhhcobcbaaDiskOpen
import Derived.Test.YtgpojnhhcobcbaaDevLawB
namespace Go.Proofs.Ytgpojnhhcobcbaa
open Go.RowKit Go.Shelf
set_option maxRecDepth 100000

set_option maxHeartbeats 4000000 in
theorem devLast_walk (x : DAt) (D : DkL) (a : Option Addr) (n c : Nat) (ks : List Bool) (p : Int) (w : World) (h : Dsk w w.heap.size x D) (hnear : Near D) (hk : Mks w w.heap.size a n c ks) (hp : (Lit.int .i64 p).wf = true) :
    Calls Try.prog 7 #[dval x D, .slice a n c, .int .i64 p] w fun e w' => e = .returned (.bool true) ∧ Below w.heap.size w w' := by
  have hkn := hk.1
  have n1 := hk.len_le
  have n0 : (0 : Int) ≤ n := by omega
  have m1 := h.2.len_le
  have m0 : (0 : Int) ≤ D.2.length := by omega
  have hL0 := lawAt_box w x D h
  have hM0 := hk.step (alloc_b w (.cells #[.slice x.ba D.1.length x.bc, .slice x.wa D.2.length x.wc] 25))
  obtain ⟨w0, hw0⟩ : ∃ w0, w.alloc (.cells #[.slice x.ba D.1.length x.bc, .slice x.wa D.2.length x.wc] 25) = w0 := ⟨_, rfl⟩
  rw [hw0] at hL0 hM0
  obtain ⟨B, hB⟩ : ∃ B, w.heap.size = B := ⟨_, rfl⟩
  rw [hB] at hL0 ⊢
  have HL0 := Lib.hid hL0
  have HM0 := Lib.hid hM0
  have HBB := Lib.hid hB
  have HA := Lib.hid (alive_any w0)
  have HNR := Lib.hid hnear
  simp only [dval]
  clear h hk hL0 hM0 hnear
  go_enter Try.func7, Try.ntmps7
  go_wp2_with fail
  clear hw0 hB
  refine HA.out.mono ?_
  rintro e w1 ⟨rfl, b1⟩
  have hL1 := HL0.out.step b1
  have HL1 := Lib.hid hL1
  have HM1 := Lib.hid (HM0.out.step b1)
  have c0 := hL1.c0
  have c1 := hL1.c1
  have HG := Lib.hid (rdGreat_any x D w1 hL1.dsk HNR.out)
  simp only [dval] at HG
  clear b1 hL1 HL0 HM0 HA
  go_wp2_with fail
  clear c0 c1
  refine HG.out.mono ?_
  rintro e w2 ⟨b, rfl, hsm, b2⟩
  have HL2 := Lib.hid (HL1.out.step b2)
  have HM2 := Lib.hid (HM1.out.step b2)
  clear b2 HL1 HM1 HG
  cases b with
  | true =>
    go_wp2_with fail
    go_ret
    exact ⟨rfl, by rw [← HBB.out]; exact HL2.out.bel⟩
  | false =>
    have hs := hsm rfl
    clear hsm
    by_cases hk5 : (5000 : Int) < n
    · go_wp2_with fail
      go_ret
      exact ⟨rfl, by rw [← HBB.out]; exact HL2.out.bel⟩
    · have c0 := HL2.out.c0
      have c1 := HL2.out.c1
      have HC := Lib.hid (dCrash_any x D a n c ks w2 HL2.out.dsk HM2.out)
      simp only [dval] at HC
      go_wp2_with fail
      clear c0 c1
      refine HC.out.mono ?_
      rintro e w3 ⟨y, rfl, ho, b3⟩
      have HL3 := Lib.hid (HL2.out.step b3)
      have HM3 := Lib.hid (HM2.out.step b3)
      have HO3 := Lib.hid ho.dsk
      clear b3 HL2 HM2 HC ho
      by_cases hok : MayD D ∧ ks.length = D.2.length
      · obtain ⟨hm, hlk⟩ := hok
        rw [crash_ok hm hlk] at HO3 ⊢
        obtain ⟨K, hK⟩ : ∃ K, keptD D (fun i => ks.getD i false) = K := ⟨_, rfl⟩
        have hK1 : K.1.length = 256 := by rw [← hK]; exact keptD_length _ _
        have hK2 : K.2 = [] := by rw [← hK]; rfl
        have hK3 : K.2.length = 0 := by rw [hK2]; rfl
        rw [hK] at HO3 ⊢
        have hP := HL3.out.put HO3.out
        have hLs := HL3.out.step (alloc_b w3 (.cells #[.slice y.ba K.1.length y.bc, .slice y.wa K.2.length y.wc] 25))
        have hMs := HM3.out.step (alloc_b w3 (.cells #[.slice y.ba K.1.length y.bc, .slice y.wa K.2.length y.wc] 25))
        simp only [dval]
        rw [hK1, hK3] at hP hLs hMs ⊢
        obtain ⟨g, hg⟩ : ∃ g, w3.heap.size = g := ⟨_, rfl⟩
        obtain ⟨w4, hw4⟩ : ∃ w4, w3.alloc (.cells #[.slice y.ba 256 y.bc, .slice y.wa 0 y.wc] 25) = w4 := ⟨_, rfl⟩
        rw [hw4, hg] at hP
        rw [hw4] at hLs hMs
        have HP := Lib.hid hP
        have HL4 := Lib.hid hLs
        have HM4 := Lib.hid hMs
        clear hP hLs hMs HL3 HM3 HO3
        by_cases hin : 0 ≤ p ∧ p < 256
        · obtain ⟨q, rfl⟩ := Int.eq_ofNat_of_zero_le hin.1
          have hq : q < 256 := by omega
          have q0 : (0 : Int) ≤ q := by omega
          have q1 : (q : Int) < 256 := by omega
          have q2 : ¬ (255 : Int) < q := by omega
          have hm4 := HL4.out.dsk
          have hd1 : D.1.length = 256 := hm.1.1
          have hd2 : n = D.2.length := by omega
          obtain ⟨b, off, A, l, c', s, hbe, _, hl, hc, hA⟩ := hm4.1.at_ (show q < D.1.length by omega)
          obtain ⟨kb, ko, KA, kl, kc, t, hkb, _, hkt, hkc, hkA⟩ := HP.out.dsk.1.at_ (show q < K.1.length by omega)
          have hcv := hA.conv
          have hkv := hkA.conv
          have htl : t = leftD D (fun i => ks.getD i false) q := by rw [← hkt]; show K.1.getD q [] = _; rw [← hK, keptD_get _ _ _ hq]
          have hsl : s = leftI D (fun i => ks.getD i false) q 0 := by rw [leftI_zero, ← hl]
          rw [hsl] at hcv
          have c0 := HL4.out.c0
          have c1 := HL4.out.c1
          have d0 : w4.cell? ⟨g, 0, none⟩ = some (.slice y.ba 256 y.bc) := by have := HP.out.c0; rwa [hK1] at this
          have d1 : w4.cell? ⟨g, 1, none⟩ = some (.slice y.wa 0 y.wc) := by have := HP.out.c1; rwa [hK3] at this
          have HCK := Lib.hid (dCheck_any y K w4 HP.out.dsk)
          have hck : checkO K = 0 := by rw [checkO, if_pos (by rw [← hK]; exact keptD_may hm _)]
          rw [hck] at HCK
          simp only [dval, hK1, hK3] at HCK
          have HD := Lib.hid hm4
          obtain ⟨ba, bc, wa, wc⟩ := x
          obtain ⟨ya, yc, za, zc⟩ := y
          obtain rfl : ba = some ⟨b, off, none⟩ := hbe
          obtain rfl : ya = some ⟨kb, ko, none⟩ := hkb
          obtain ⟨N2, hN2⟩ : ∃ m, D.2.length = m := ⟨_, rfl⟩
          rw [hd1] at c0
          rw [hN2] at c1 m1 m0 hd2
          subst hd2
          simp only at c0 c1 d0 d1 HCK
          have HN2 := Lib.hid hN2
          have HKV := Lib.hid hkv
          have HTL := Lib.hid htl
          simp only [hd1, hN2]
          clear hm4 hA hkA hl hkt hsl hK hK2 hs hlk hin hp hm hkv htl hN2 hd1
          go_wp2_with fail
          clear hw4 hcv hc
          go_loop [10, 11] (fun u i => ∃ j : Nat, j ≤ n ∧ i = .int .i64 j ∧ u = .string (strOf (leftI D (fun i => ks.getD i false) q j))) (fun _ i => n - (intOf i).toNat)
          case atStart => exact ⟨0, Nat.zero_le _, rfl, rfl⟩
          case round =>
            obtain ⟨j, hj, rfl, rfl⟩ := hrel
            have j0 : (0 : Int) ≤ j := by omega
            by_cases hlt : j < n
            · have j1 : (j : Int) < n := by omega
              obtain ⟨b2, off2, rfl, _, hcm⟩ := HM4.out.2.2.2 (by omega)
              have hcj := hcm j hlt
              obtain ⟨b3, off3, pj, A3, l3, c3, s3, hbe3, _, hl3, _, hca, hcd, hA3⟩ := HD.out.2.at_ (show j < D.2.length by rw [HN2.out]; exact hlt)
              simp only at hbe3
              subst hbe3
              have hcv3 := hA3.conv
              clear hcm
              cases hb : ks.getD j false with
              | false =>
                rw [hb] at hcj
                have hmiss : leftI D (fun i => ks.getD i false) q (j + 1) = leftI D (fun i => ks.getD i false) q j := leftI_miss (by simp only [hb]; exact fun h => by cases h.1)
                have HM := Lib.hid hmiss
                clear hl3 hcv3 hA3 hb hmiss
                go_wp2_with fail
                go_round
                case rel => exact ⟨j + 1, by omega, by go_num, by rw [HM.out]⟩
                case measure => simp [intOf]; omega
              | true =>
                rw [hb] at hcj
                by_cases hpq : pj = (q : Int)
                · subst hpq
                  have hhit : leftI D (fun i => ks.getD i false) q (j + 1) = s3 := by rw [leftI_hit ⟨hb, by rw [hl3]⟩, hl3]
                  have HM := Lib.hid hhit
                  clear hl3 hA3 hb hhit
                  go_wp2_with fail
                  go_round
                  case rel => exact ⟨j + 1, by omega, by go_num, by rw [HM.out]⟩
                  case measure => simp [intOf]; omega
                · have hmiss : leftI D (fun i => ks.getD i false) q (j + 1) = leftI D (fun i => ks.getD i false) q j := leftI_miss (by rw [hl3]; exact fun h => hpq h.2)
                  have HM := Lib.hid hmiss
                  have hne : (pj == (q : Int)) = false := by simp; exact hpq
                  clear hl3 hcv3 hA3 hb hmiss hpq
                  go_wp2_with fail
                  go_round
                  case rel => exact ⟨j + 1, by omega, by go_num, by rw [HM.out]⟩
                  case measure => simp [intOf]; omega
            · obtain rfl : j = n := by omega
              have he : leftI D (fun i => ks.getD i false) q j = t := by rw [← HN2.out, leftI_all, HTL.out]
              rw [he]
              have hkv := HKV.out
              clear he
              go_wp2_with fail
              refine HCK.out.mono ?_
              rintro e w5 ⟨rfl, b5⟩
              have HL5 := Lib.hid (HL4.out.step b5)
              clear b5
              go_wp2_with fail
              go_ret
              exact ⟨rfl, by rw [← HBB.out]; exact HL5.out.bel⟩
        · by_cases hp0 : p < 0
          · go_wp2_with fail
            go_ret
            exact ⟨rfl, by rw [← HBB.out]; exact HL4.out.bel⟩
          · have hp1 : (255 : Int) < p := by omega
            go_wp2_with fail
            go_ret
            exact ⟨rfl, by rw [← HBB.out]; exact HL4.out.bel⟩
      · obtain ⟨e, he, he2⟩ : ∃ e, crashO D ks = (([], []), e) ∧ (e = 2 ∨ e = 8) := by
          unfold crashO
          by_cases hm : MayD D
          · rw [if_pos hm, if_neg (fun hl => hok ⟨hm, hl⟩)]
            exact ⟨2, rfl, .inl rfl⟩
          · rw [if_neg hm]
            exact ⟨8, rfl, .inr rfl⟩
        rw [he] at HO3 ⊢
        have hP := HL3.out.put HO3.out
        obtain ⟨w4, hw4⟩ : ∃ w4, w3.alloc (.cells #[.slice y.ba 0 y.bc, .slice y.wa 0 y.wc] 25) = w4 := ⟨_, rfl⟩
        obtain ⟨g, hg⟩ : ∃ g, w3.heap.size = g := ⟨_, rfl⟩
        simp only [List.length_nil] at hP
        rw [hw4, hg] at hP
        have d0 : w4.cell? ⟨g, 0, none⟩ = some (.slice y.ba 0 y.bc) := hP.c0
        have HP := Lib.hid hP
        simp only [dval, List.length_nil]
        clear hP HL3 HM3 HO3 he hok hs
        rcases he2 with rfl | rfl
        · go_wp2_with fail
          go_ret
          exact ⟨rfl, by rw [← HBB.out]; exact HP.out.bel⟩
        · go_wp2_with fail
          go_ret
          exact ⟨rfl, by rw [← HBB.out]; exact HP.out.bel⟩
end Go.Proofs.Ytgpojnhhcobcbaa
namespace Go.Proofs.Ytgpojnhhcobcbaa.devLast
open Go.ChangeShapes Go.WideShapes Go.ChangeAt Go.RowKit
set_option linter.unusedVariables false

theorem own : ownKnob Try.prog.godebug = none := by kernel_rfl
theorem laidOut : laidOutB Try.prog = true := by kernel_rfl

set_option maxRecDepth 100000 in
theorem lifted (os : Os) (started : os.Started) (H : Type) (enc : TypeId × Value → H) :
    ReturnsInHanded {} Try.checked os 7 .any (Rows.devLastSpec.pre6 enc Try.prog Try.f7 Rows.devLastRow.domain false) (Rows.devLastSpec.post enc Try.prog Try.f7 false true false false) := by
  refine returnsInHanded_of_change_sized (C := Try.checked) own started (by kernel_rfl) Try.func7
    (ChangeSpec.witness6 (enc := enc) (C := Try.checked) false ⟨#[], #[.agg #[.slice none 0 0, .slice none 0 0], .slice none 0 0, .int .i64 0], []⟩ 8 (by kernel_rfl) (by kernel_rfl) (by kernel_rfl) (by kernel_rfl)) ?_
  intro W base args ds gs before hval0 hW hcnd hsz _
  have hval : ∀ (j : Nat) t v, Try.f7.params[j]? = some t → args[j]? = some v → Value.okWide Try.prog W .any base t v := hval0
  have hW' := hW
  obtain ⟨p, q, hA0, hV, rfl, hfz, hnd⟩ := hW
  have hA : DataW.TrodAll enc Try.prog W 0 (fun _ => true) true Try.f7.params.toList args.toList ds p := hA0
  rw [Try.params7] at hA hval
  obtain ⟨v0, vs0, d0, ds0, p0, q0, hargs, rfl, rfl, h0, r0⟩ := trodAll_cons hA
  obtain ⟨v1, vs1, d1, ds1, p1, q1, rfl, rfl, rfl, h1, r1⟩ := trodAll_cons r0
  obtain ⟨v2, vs2, d2, ds2, p2, q2, rfl, rfl, rfl, h2, r2⟩ := trodAll_cons r1
  obtain ⟨rfl, rfl, rfl⟩ := trodAll_nil r2
  obtain rfl : args = #[v0, v1, v2] := by cases args; simp_all
  obtain ⟨rfl, rfl⟩ := trodVars_none hV
  have k0 := h0
  have lt0 : ∀ x ∈ p0, x.block < W.heap.size := by obtain ⟨m, hm⟩ := k0; exact DataW.trod_lt m _ _ _ hm
  obtain ⟨x0, D0, rfl, w0, m0⟩ := open_disk (hval 0 25 v0 rfl rfl) h0 (fun n hn => by
    have := List.all_eq_true.1 hsz n (DataW.weights_mem_each (j := 0) (t := 25) (by kernel_rfl) rfl n hn)
    simpa using this)
  obtain ⟨a1, len1, cap1, rfl⟩ := okWide_slice Try.underlying49 (hval 1 49 v1 rfl rfl)
  have k1 := h1
  have lt1 : ∀ x ∈ p1, x.block < W.heap.size := by obtain ⟨m, hm⟩ := k1; exact DataW.trod_lt m _ _ _ hm
  obtain ⟨s1, w1⟩ := open_marks h1
  obtain ⟨a2, rfl, rfl, rfl, w2⟩ := open_int Try.underlying3 (hval 2 3 v2 rfl rfl) h2
  clear hA0 hval0
  refine (devLast_walk x0 D0 a1 len1 cap1 s1 a2 W w0 m0 w1 w2).mono fun e W' ⟨he, bel⟩ => ?_
  subst he
  exact ⟨_, rfl, _, _, _, [], _, [], hW', trodAll_mk1 (shut_bool Try.underlying4 _), (trodAll_cons_mk (Below.trod laidOut (by kernel_rfl) (of_decide_eq_true (by kernel_rfl)) k0 bel lt0) (trodAll_cons_mk (Below.trod laidOut (by kernel_rfl) (of_decide_eq_true (by kernel_rfl)) k1 bel lt1) (trodAll_cons_mk (shut_int Try.underlying3 w2) trodAll_mk0))), rfl, bel.frame _, fun h => by cases h⟩

theorem over : Rows.devLastRow.holds Try.pinned (OpenSpec.ofChange Rows.devLastSpec) :=
  OpenClaim.holds_of_wide 7 Try.f7 rfl rfl rfl rfl rfl rfl rfl ⟨rfl, rfl, rfl, rfl, rfl⟩ rfl rfl rfl rfl rfl (by kernel_rfl) Try.func7 (by kernel_rfl)
    (of_decide_eq_true (by kernel_rfl)) (by unfold Func.isWrapper; first | (rw [if_pos (by decide +kernel)]; kernel_rfl) | (rw [if_neg (by decide +kernel)]; exact ⟨rfl, rfl⟩))
    (fun os started H enc _ => lifted os started H enc)

/-- The statement. -/
theorem proved : Rows.DevLastSaid := over
end Go.Proofs.Ytgpojnhhcobcbaa.devLast
