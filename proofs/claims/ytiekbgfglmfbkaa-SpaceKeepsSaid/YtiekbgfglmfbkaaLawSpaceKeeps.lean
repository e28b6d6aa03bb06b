/-
  SpaceKeepsSaid: for any bytes, any block's number and any count (where they are no table that may be, or more than 10,000 bytes, the law itself answers what its example answers) what was taken was free and is the lowest one, what was given up is taken by nobody until it is settled, and is free then; no other block changes. No condition.
-/
import Derived.Test.YtiekbgfglmfbkaaRows
import Derived.Test.YtiekbgfglmfbkaaLawSpaceB
namespace Go.Proofs.Ytiekbgfglmfbkaa
open Go.RowKit Go.Shelf
set_option maxRecDepth 100000

theorem mem_take_succ {L : List Nat} {j : Nat} (h : j < L.length) (x : Nat) : x ∈ L.take (j + 1) ↔ x ∈ L.take j ∨ x = L.getD j 0 := by
  rw [List.take_succ_eq_append_getElem h, List.mem_append, List.mem_singleton, List.getD_eq_getElem?_getD, List.getElem?_eq_getElem h]
  rfl
theorem spaceKeeps_far (a : Option Addr) (n c : Nat) (k : Int) (m : Int) (w : World) (hn : (n : Int) ≤ 9223372036854775807) (h : (10000 : Int) < n) :
    Calls Try.prog 5 #[.slice a n c, .int .i64 k, .int .u8 m] w fun e w' => e = .returned (.bool true) ∧ Below w.heap.size w w' := by
  have i1 : (0 : Int) ≤ n := by omega
  go_enter Try.func5, Try.ntmps5
  go_wp2_with fail
  refine (spAlive_any w).mono ?_
  rintro e w1 ⟨rfl, b1⟩
  go_wp2_with fail
  go_ret
  exact ⟨rfl, b1⟩
theorem spaceKeeps_not (a : Option Addr) (n c : Nat) (s : List UInt8) (k : Int) (m : Int) (w : World) (hn : (n : Int) ≤ 10000) (hA : Bsl w w.heap.size a n c s) (h : ¬ MayT s) :
    Calls Try.prog 5 #[.slice a n c, .int .i64 k, .int .u8 m] w fun e w' => e = .returned (.bool true) ∧ Below w.heap.size w w' := by
  have i1 : (0 : Int) ≤ n := by omega
  have HA := Lib.hid hA
  have HM := Lib.hid h
  clear hA h
  go_enter Try.func5, Try.ntmps5
  go_wp2_with fail
  refine (spAlive_any w).mono ?_
  rintro e w1 ⟨rfl, b1⟩
  have HC := Lib.hid (spCheck_no a n c _ s w1 (HA.out.step b1) HM.out)
  have HB := Lib.hid b1
  clear b1
  go_wp2_with fail
  refine HC.out.mono ?_
  rintro e w2 ⟨rfl, rfl⟩
  go_wp2_with fail
  go_ret
  exact ⟨rfl, HB.out⟩
set_option maxHeartbeats 16000000 in
theorem spaceKeeps_may (a : Option Addr) (n c : Nat) (s : List UInt8) (q : Int) (m : Nat) (hm : m < 256) (w : World) (hA : Bsl w w.heap.size a n c s) (h : MayT s) :
    Calls Try.prog 5 #[.slice a n c, .int .i64 q, .int .u8 m] w fun e w' => e = .returned (.bool true) ∧ Below w.heap.size w w' := by
  have m0 : (0 : Int) ≤ m := by omega
  have m1 : (m : Int) ≤ 255 := by omega
  have hwm : IntKind.i64.wrap (m : Int) = m := IntWalk.i64_in _ (by omega)
  have hmx : Try.prog.follows Departure.mixedOrders = true := by kernel_rfl
  have hn := h.len_of hA
  subst hn
  have HS := Lib.hid hA
  have HM := Lib.hid h
  clear hA h
  go_enter Try.func5, Try.ntmps5
  go_wp2_with fail
  refine (spAlive_any w).mono ?_
  rintro e w1 ⟨rfl, b1⟩
  replace HS := Lib.hid (HS.out.step b1)
  have HE := Lib.hid b1
  clear b1
  have HC := Lib.hid (spCheck_yes a 256 c _ s w1 HS.out HM.out)
  go_wp2_with fail
  refine HC.out.mono ?_
  rintro e w2 ⟨rfl, rfl⟩
  clear HC
  go_wp2_with fail
  rcases first_free (s := s) with ⟨k', hk, hz, hbf⟩ | hnf
  · have hls : (s.set k' 1).length = 256 := by simp [HM.out.1]
    have hk0 := HM.out.free_ge (a := k') (by omega)
    have HMT := Lib.hid (set_may HM.out hk0 hk 1 (by decide))
    have hls0 := HM.out.1
    have htm : ∀ i, mkT (s.set k' 1) i = if i = k' then 1 else mkT s i := fun i => by rw [mkT_set _ _ _ _ (by rw [hls0]; exact hk)]; rfl
    refine (spTake_ok a 256 c s k' w1 HS.out HM.out hk hz hbf).mono ?_
    rintro e w5 ⟨v, rfl, ho, bb⟩
    replace HS := Lib.hid (HS.out.step bb)
    replace HE := Lib.hid (HE.out.trans (bb.mono HE.out.size))
    rw [hls] at ho
    obtain ⟨gt, ct, rfl⟩ := own_at ho (by omega)
    have HT := Lib.hid ho
    have HTM := Lib.hid htm
    have HBF := Lib.hid hbf
    have ki0 : (12 : Int) ≤ k' := by omega
    have ki1 : (k' : Int) ≤ 255 := by omega
    obtain ⟨b, off, rfl, _⟩ := HS.out.at_ (by omega)
    have d1 := HS.out.mk k' hk
    rw [hz] at d1
    have d2 := own_mk HT.out k' hk
    rw [htm k', if_pos rfl] at d2
    have HC := Lib.hid (spCheck_yes (some ⟨gt, 0, none⟩) 256 ct _ _ w5 (own_bsl HT.out) HMT.out)
    clear bb ho hz hbf hls htm hls0
    go_wp2_with fail
    clear d1 d2
    refine HC.out.mono ?_
    rintro e w6 ⟨rfl, rfl⟩
    go_wp2_with fail
    clear HC
    go_loopw [11] (fun i wr => ∃ j : Nat, j ≤ 256 ∧ i = .int .i64 j ∧ Below w5.heap.size w5 wr) (fun i _ => 256 - (intOf i).toNat)
    case atStart => exact ⟨0, Nat.zero_le _, rfl, Below.refl _ _⟩
    case round =>
      obtain ⟨j, hj, rfl, hb⟩ := hrel
      have j0 : (0 : Int) ≤ j := by omega
      by_cases hlt : j < 256
      · have j1 : (j : Int) < 256 := by omega
        have d1 := (HS.out.below hb).mk j hlt
        have d2 := (own_bsl (own_below HT.out hb)).mk j hlt
        rw [Nat.zero_add, HTM.out j] at d2
        have HBB := Lib.hid hb
        clear hb
        by_cases hjk : j = k'
        · have e1 : ((j : Int) != k') = false := by simp; omega
          have e2 : ¬ (j : Int) < k' := by omega
          have e3 : decide ((j : Int) < k') = false := decide_eq_false e2
          have e4 : ¬ j < k' := by omega
          rw [if_pos hjk] at d2
          clear hjk
          go_wp2_with fail
          go_quiet (fail)
          go_wp2_with fail
          go_roundw
          case rel => exact ⟨j + 1, by omega, by go_num, below_drewN HBB.out _⟩
          case measure => simp [intOf]; omega
        · have e1 : ((j : Int) != k') = true := by simp; omega
          rw [if_neg hjk] at d2
          by_cases hlk : j < k'
          · have hz := HBF.out j hlk
            obtain ⟨x, hx⟩ : ∃ x : Nat, mkT s j = x := ⟨_, rfl⟩
            rw [hx] at d1 d2 hz
            have e2 : (j : Int) < k' := by omega
            have e3 : ((x : Int) != x) = false := by simp
            have e4 : ((x : Int) == 0) = false := by simp; omega
            clear hx hz hjk
            go_wp2_with fail
            go_quiet (fail)
            go_wp2_with fail
            go_roundw
            case rel => exact ⟨j + 1, by omega, by go_num, below_drewN HBB.out _⟩
            case measure => simp [intOf]; omega
          · obtain ⟨x, hx⟩ : ∃ x : Nat, mkT s j = x := ⟨_, rfl⟩
            rw [hx] at d1 d2
            have e2 : ¬ (j : Int) < k' := by omega
            have e3 : ((x : Int) != x) = false := by simp
            have e4 : decide ((j : Int) < k') = false := decide_eq_false e2
            clear hx hjk
            go_wp2_with fail
            go_quiet (fail)
            go_wp2_with fail
            go_roundw
            case rel => exact ⟨j + 1, by omega, by go_num, below_drewN HBB.out _⟩
            case measure => simp [intOf]; omega
      · have j1 : (256 : Int) ≤ j := by omega
        replace HS := Lib.hid (HS.out.step hb)
        replace HE := Lib.hid (HE.out.trans (hb.mono HE.out.size))
        clear hb hlt hj HT HMT HTM HBF
        go_wp2_with fail
        by_cases hkk : q < 12 ∨ 256 ≤ q
        · have hgv := spGive_arg (some ⟨b, off, none⟩) 256 c _ s q hkk wr HS.out HM.out
          clear hkk
          refine hgv.mono ?_
          rintro e w6 ⟨v, rfl, ho, bb⟩
          replace HS := Lib.hid (HS.out.step bb)
          replace HE := Lib.hid (HE.out.trans (bb.mono HE.out.size))
          simp only [List.length_nil] at ho
          obtain ⟨ag, cg, rfl⟩ := own_slice ho
          clear bb ho hgv
          go_wp2_with fail
          go_ret
          exact ⟨rfl, HE.out⟩
        · obtain ⟨q', rfl⟩ := Int.eq_ofNat_of_zero_le (show 0 ≤ q by omega)
          by_cases h1 : mkT s q' = 1
          · have hq0 : 12 ≤ q' := by omega
            have hq1 : q' < 256 := by omega
            have qi0 : (12 : Int) ≤ q' := by omega
            have qi1 : (q' : Int) < 256 := by omega
            have hl2 : (s.set q' 2).length = 256 := by simp [HM.out.1]
            have hmg := set_may HM.out hq0 hq1 2 (by decide)
            have hgq : mkT (s.set q' 2) q' = 2 := by rw [mkT_set _ _ _ _ (by rw [HM.out.1]; exact hq1), if_pos rfl]; rfl
            have H1 := Lib.hid h1
            refine (spGive_ok (some ⟨b, off, none⟩) 256 c s q' hq0 hq1 wr HS.out HM.out h1).mono ?_
            rintro e w6 ⟨v, rfl, ho, bb⟩
            replace HS := Lib.hid (HS.out.step bb)
            replace HE := Lib.hid (HE.out.trans (bb.mono HE.out.size))
            rw [hl2] at ho
            obtain ⟨ag, cg, rfl⟩ := own_slice ho
            have HG := Lib.hid (own_bsl ho)
            have HMG := Lib.hid hmg
            have HGQ := Lib.hid hgq
            clear bb ho h1 hl2 hmg hgq hkk
            go_wp2_with fail
            go_loopw [14, 15] (fun v i wr => ∃ j ax cx X, j ≤ m ∧ i = .int .i64 (j : Nat) ∧ v = .slice ax 256 cx ∧ Bsl wr wr.heap.size ax 256 cx X ∧ MayT X ∧ mkT X q' = 2 ∧ Below w6.heap.size w6 wr) (fun _ i _ => m - (intOf i).toNat)
            case atStart => exact ⟨0, _, _, _, Nat.zero_le _, rfl, rfl, HG.out, HMG.out, HGQ.out, Below.refl _ _⟩
            case round =>
              obtain ⟨j, ax, cx, X, hj, rfl, rfl, hX, hmX, hXq, hb⟩ := hrel
              have j0 : (0 : Int) ≤ j := by omega
              have HX := Lib.hid hX
              have HMX := Lib.hid hmX
              have HXQ := Lib.hid hXq
              have HBB := Lib.hid hb
              clear hX hmX hXq
              by_cases hlt : j < m
              · have j1 : (j : Int) < m := by omega
                rcases first_free (s := X) with ⟨kk, hk, hz, hbf⟩ | hnf
                · have hne : kk ≠ q' := fun e => by rw [e, HXQ.out] at hz; cases hz
                  have e1 : ((kk : Int) == q') = false := by simp; omega
                  have hk0 := HMX.out.free_ge (a := kk) (by omega)
                  have HMY := Lib.hid (set_may HMX.out hk0 hk 1 (by decide))
                  have hyq : mkT (X.set kk 1) q' = 2 := by rw [mkT_set _ _ _ _ (by rw [HMX.out.1]; exact hk), if_neg (fun e => hne e.symm)]; exact HXQ.out
                  have HYQ := Lib.hid hyq
                  have hl3 : (X.set kk 1).length = 256 := HMY.out.1
                  have HT2 := Lib.hid (spTake_ok ax 256 cx X kk wr HX.out HMX.out hk hz hbf)
                  have HL3 := Lib.hid hl3
                  clear hne hk0 hyq hl3 hz hbf hb
                  go_wp2_with fail
                  refine HT2.out.mono ?_
                  rintro e w7 ⟨v, rfl, ho, bb⟩
                  rw [HL3.out] at ho
                  obtain ⟨ay, cy, rfl⟩ := own_slice ho
                  have HY := Lib.hid (own_bsl ho)
                  have HBC := Lib.hid (HBB.out.trans (bb.mono HBB.out.size))
                  clear ho bb
                  go_wp2_with fail
                  go_roundw
                  case rel => exact ⟨j + 1, _, _, _, by omega, by go_num, rfl, HY.out, HMY.out, HYQ.out, HBC.out⟩
                  case measure => simp [intOf]; omega
                · have HT2 := Lib.hid (spTake_full ax 256 cx X wr HX.out HMX.out hnf)
                  replace HS := Lib.hid (HS.out.step hb)
                  replace HE := Lib.hid (HE.out.trans (hb.mono HE.out.size))
                  clear hnf hb HBB
                  go_wp2_with fail
                  refine HT2.out.mono ?_
                  rintro e w7' ⟨v, rfl, ho, bb⟩
                  simp only [List.length_nil] at ho
                  obtain ⟨ay, cy, rfl⟩ := own_slice ho
                  replace HX := Lib.hid (HX.out.step bb)
                  replace HS := Lib.hid (HS.out.step bb)
                  replace HE := Lib.hid (HE.out.trans (bb.mono HE.out.size))
                  clear ho bb HT2
                  go_wp2_with fail
                  refine (spSettle_ok ax 256 cx X w7' HX.out HMX.out).mono ?_
                  rintro e w7 ⟨v, rfl, ho, bb⟩
                  replace HS := Lib.hid (HS.out.step bb)
                  replace HE := Lib.hid (HE.out.trans (bb.mono HE.out.size))
                  rw [(settleL_may HMX.out).1] at ho
                  obtain ⟨az, cz, rfl⟩ := own_slice ho
                  have HZ := Lib.hid ho
                  have HMZ := Lib.hid (settleL_may HMX.out)
                  have hzq : q' ∈ freeTo (settleL X) 256 := freeTo_mem.2 ⟨hq1, by rw [settleL_mk HMX.out hq1, if_pos HXQ.out]⟩
                  clear bb ho
                  go_wp2_with fail
                  refine (spFree_ok az 256 cz _ w7 (own_bsl HZ.out) HMZ.out).mono ?_
                  rintro e w8 ⟨v, rfl, ho, bb⟩
                  replace HZ := Lib.hid (own_below HZ.out bb)
                  replace HS := Lib.hid (HS.out.step bb)
                  replace HE := Lib.hid (HE.out.trans (bb.mono HE.out.size))
                  obtain ⟨L, hL⟩ : ∃ L, freeTo (settleL X) 256 = L := ⟨_, rfl⟩
                  have hle := freeTo_le (settleL X) 256
                  rw [hL] at ho hzq hle
                  clear hL
                  obtain ⟨al, cl, rfl⟩ := ownN_slice ho
                  obtain ⟨lm, hlm⟩ : ∃ lm, L.length = lm := ⟨_, rfl⟩
                  have hlm2 := hlm
                  rw [hlm] at ho hle ⊢
                  have HN := Lib.hid (ownN_nsl ho)
                  have HLM := Lib.hid hlm2
                  have HQL := Lib.hid hzq
                  clear bb ho hlm hlm2 hzq
                  have lm0 : (0 : Int) ≤ lm := by omega
                  have lm1 : (lm : Int) ≤ 256 := by omega
                  go_wp2_with fail
                  go_loopw [23, 24] (fun th i wr => ∃ j : Nat, j ≤ lm ∧ i = .int .i64 j ∧ th = .bool (decide (q' ∈ L.take j)) ∧ Below w8.heap.size w8 wr) (fun _ i _ => lm - (intOf i).toNat)
                  case atStart => exact ⟨0, Nat.zero_le _, rfl, by simp, Below.refl _ _⟩
                  case round =>
                    obtain ⟨j, hj, rfl, rfl, hb⟩ := hrel
                    have j0 : (0 : Int) ≤ j := by omega
                    by_cases hlt : j < lm
                    · have j1 : (j : Int) < lm := by omega
                      obtain ⟨bl, ol, rfl, _⟩ := HN.out.2.2.2.2 (by omega)
                      have d1 := (HN.out.below hb).cellD j hlt
                      have hms := mem_take_succ (L := L) (j := j) (by rw [HLM.out]; exact hlt) q'
                      obtain ⟨y, hy⟩ : ∃ y : Nat, L.getD j 0 = y := ⟨_, rfl⟩
                      rw [hy] at d1 hms
                      have HBB := Lib.hid hb
                      clear hb hy
                      by_cases hr : q' ∈ L.take j
                      · have ht : decide (q' ∈ L.take (j + 1)) = true := decide_eq_true (hms.2 (.inl hr))
                        have HTT := Lib.hid ht
                        rw [decide_eq_true hr]
                        clear hms hr ht
                        go_wp2_with fail
                        go_roundw
                        case rel => exact ⟨j + 1, by omega, by go_num, by rw [HTT.out], HBB.out⟩
                        case measure => simp [intOf]; omega
                      · rw [decide_eq_false hr]
                        by_cases hyq : y = q'
                        · have ht : decide (q' ∈ L.take (j + 1)) = true := decide_eq_true (hms.2 (.inr hyq.symm))
                          have HTT := Lib.hid ht
                          have e1 : ((y : Int) == q') = true := by simp; omega
                          clear hms hr ht hyq
                          go_wp2_with fail
                          go_roundw
                          case rel => exact ⟨j + 1, by omega, by go_num, by rw [HTT.out], HBB.out⟩
                          case measure => simp [intOf]; omega
                        · have ht : decide (q' ∈ L.take (j + 1)) = false := decide_eq_false fun h => (hms.1 h).elim hr (fun e => hyq e.symm)
                          have HTT := Lib.hid ht
                          have e1 : ((y : Int) == q') = false := by simp; omega
                          clear hms hr ht hyq
                          go_wp2_with fail
                          go_roundw
                          case rel => exact ⟨j + 1, by omega, by go_num, by rw [HTT.out], HBB.out⟩
                          case measure => simp [intOf]; omega
                    · have j1 : (lm : Int) ≤ j := by omega
                      have htk : L.take j = L := List.take_of_length_le (by rw [HLM.out]; omega)
                      rw [htk, decide_eq_true HQL.out]
                      replace HS := Lib.hid (HS.out.step hb)
                      replace HZ := Lib.hid (own_below HZ.out hb)
                      replace HE := Lib.hid (HE.out.trans (hb.mono HE.out.size))
                      have d2 := HS.out.mk q' hq1
                      rw [H1.out] at d2
                      have HC := Lib.hid (spCheck_yes az 256 cz _ _ wr (own_bsl HZ.out) HMZ.out)
                      clear hb hlt htk hj HN
                      go_wp2_with fail
                      refine HC.out.mono ?_
                      rintro e w9 ⟨rfl, rfl⟩
                      go_wp2_with fail
                      go_ret
                      exact ⟨rfl, HE.out⟩
              · have j1 : (m : Int) ≤ j := by omega
                replace HS := Lib.hid (HS.out.step hb)
                replace HE := Lib.hid (HE.out.trans (hb.mono HE.out.size))
                clear hb HBB hlt hj
                go_wp2_with fail
                refine (spSettle_ok ax 256 cx X wr HX.out HMX.out).mono ?_
                rintro e w7 ⟨v, rfl, ho, bb⟩
                replace HS := Lib.hid (HS.out.step bb)
                replace HE := Lib.hid (HE.out.trans (bb.mono HE.out.size))
                rw [(settleL_may HMX.out).1] at ho
                obtain ⟨az, cz, rfl⟩ := own_slice ho
                have HZ := Lib.hid ho
                have HMZ := Lib.hid (settleL_may HMX.out)
                have hzq : q' ∈ freeTo (settleL X) 256 := freeTo_mem.2 ⟨hq1, by rw [settleL_mk HMX.out hq1, if_pos HXQ.out]⟩
                clear bb ho
                go_wp2_with fail
                refine (spFree_ok az 256 cz _ w7 (own_bsl HZ.out) HMZ.out).mono ?_
                rintro e w8 ⟨v, rfl, ho, bb⟩
                replace HZ := Lib.hid (own_below HZ.out bb)
                replace HS := Lib.hid (HS.out.step bb)
                replace HE := Lib.hid (HE.out.trans (bb.mono HE.out.size))
                obtain ⟨L, hL⟩ : ∃ L, freeTo (settleL X) 256 = L := ⟨_, rfl⟩
                have hle := freeTo_le (settleL X) 256
                rw [hL] at ho hzq hle
                clear hL
                obtain ⟨al, cl, rfl⟩ := ownN_slice ho
                obtain ⟨lm, hlm⟩ : ∃ lm, L.length = lm := ⟨_, rfl⟩
                have hlm2 := hlm
                rw [hlm] at ho hle ⊢
                have HN := Lib.hid (ownN_nsl ho)
                have HLM := Lib.hid hlm2
                have HQL := Lib.hid hzq
                clear bb ho hlm hlm2 hzq
                have lm0 : (0 : Int) ≤ lm := by omega
                have lm1 : (lm : Int) ≤ 256 := by omega
                go_wp2_with fail
                go_loopw [23, 24] (fun th i wr => ∃ j : Nat, j ≤ lm ∧ i = .int .i64 j ∧ th = .bool (decide (q' ∈ L.take j)) ∧ Below w8.heap.size w8 wr) (fun _ i _ => lm - (intOf i).toNat)
                case atStart => exact ⟨0, Nat.zero_le _, rfl, by simp, Below.refl _ _⟩
                case round =>
                  obtain ⟨j, hj, rfl, rfl, hb⟩ := hrel
                  have j0 : (0 : Int) ≤ j := by omega
                  by_cases hlt : j < lm
                  · have j1 : (j : Int) < lm := by omega
                    obtain ⟨bl, ol, rfl, _⟩ := HN.out.2.2.2.2 (by omega)
                    have d1 := (HN.out.below hb).cellD j hlt
                    have hms := mem_take_succ (L := L) (j := j) (by rw [HLM.out]; exact hlt) q'
                    obtain ⟨y, hy⟩ : ∃ y : Nat, L.getD j 0 = y := ⟨_, rfl⟩
                    rw [hy] at d1 hms
                    have HBB := Lib.hid hb
                    clear hb hy
                    by_cases hr : q' ∈ L.take j
                    · have ht : decide (q' ∈ L.take (j + 1)) = true := decide_eq_true (hms.2 (.inl hr))
                      have HTT := Lib.hid ht
                      rw [decide_eq_true hr]
                      clear hms hr ht
                      go_wp2_with fail
                      go_roundw
                      case rel => exact ⟨j + 1, by omega, by go_num, by rw [HTT.out], HBB.out⟩
                      case measure => simp [intOf]; omega
                    · rw [decide_eq_false hr]
                      by_cases hyq : y = q'
                      · have ht : decide (q' ∈ L.take (j + 1)) = true := decide_eq_true (hms.2 (.inr hyq.symm))
                        have HTT := Lib.hid ht
                        have e1 : ((y : Int) == q') = true := by simp; omega
                        clear hms hr ht hyq
                        go_wp2_with fail
                        go_roundw
                        case rel => exact ⟨j + 1, by omega, by go_num, by rw [HTT.out], HBB.out⟩
                        case measure => simp [intOf]; omega
                      · have ht : decide (q' ∈ L.take (j + 1)) = false := decide_eq_false fun h => (hms.1 h).elim hr (fun e => hyq e.symm)
                        have HTT := Lib.hid ht
                        have e1 : ((y : Int) == q') = false := by simp; omega
                        clear hms hr ht hyq
                        go_wp2_with fail
                        go_roundw
                        case rel => exact ⟨j + 1, by omega, by go_num, by rw [HTT.out], HBB.out⟩
                        case measure => simp [intOf]; omega
                  · have j1 : (lm : Int) ≤ j := by omega
                    have htk : L.take j = L := List.take_of_length_le (by rw [HLM.out]; omega)
                    rw [htk, decide_eq_true HQL.out]
                    replace HS := Lib.hid (HS.out.step hb)
                    replace HZ := Lib.hid (own_below HZ.out hb)
                    replace HE := Lib.hid (HE.out.trans (hb.mono HE.out.size))
                    have d2 := HS.out.mk q' hq1
                    rw [H1.out] at d2
                    have HC := Lib.hid (spCheck_yes az 256 cz _ _ wr (own_bsl HZ.out) HMZ.out)
                    clear hb hlt htk hj HN
                    go_wp2_with fail
                    refine HC.out.mono ?_
                    rintro e w9 ⟨rfl, rfl⟩
                    go_wp2_with fail
                    go_ret
                    exact ⟨rfl, HE.out⟩
          · have hgv := spGive_none (some ⟨b, off, none⟩) 256 c _ s q' (by omega) (by omega) wr HS.out HM.out h1
            clear hkk h1
            refine hgv.mono ?_
            rintro e w6 ⟨v, rfl, ho, bb⟩
            replace HS := Lib.hid (HS.out.step bb)
            replace HE := Lib.hid (HE.out.trans (bb.mono HE.out.size))
            simp only [List.length_nil] at ho
            obtain ⟨ag, cg, rfl⟩ := own_slice ho
            clear bb ho hgv
            go_wp2_with fail
            go_ret
            exact ⟨rfl, HE.out⟩
  · refine (spTake_full a 256 c s w1 HS.out HM.out hnf).mono ?_
    rintro e w5 ⟨v, rfl, ho, bb⟩
    replace HS := Lib.hid (HS.out.step bb)
    replace HE := Lib.hid (HE.out.trans (bb.mono HE.out.size))
    simp only [List.length_nil] at ho
    obtain ⟨aT, cT, rfl⟩ := own_slice ho
    clear bb ho hnf
    go_wp2_with fail
    by_cases hkk : q < 12 ∨ 256 ≤ q
    · have hgv := spGive_arg a 256 c _ s q hkk w5 HS.out HM.out
      clear hkk
      refine hgv.mono ?_
      rintro e w6 ⟨v, rfl, ho, bb⟩
      replace HS := Lib.hid (HS.out.step bb)
      replace HE := Lib.hid (HE.out.trans (bb.mono HE.out.size))
      simp only [List.length_nil] at ho
      obtain ⟨ag, cg, rfl⟩ := own_slice ho
      clear bb ho hgv
      go_wp2_with fail
      go_ret
      exact ⟨rfl, HE.out⟩
    · obtain ⟨q', rfl⟩ := Int.eq_ofNat_of_zero_le (show 0 ≤ q by omega)
      by_cases h1 : mkT s q' = 1
      · have hq0 : 12 ≤ q' := by omega
        have hq1 : q' < 256 := by omega
        have qi0 : (12 : Int) ≤ q' := by omega
        have qi1 : (q' : Int) < 256 := by omega
        have hl2 : (s.set q' 2).length = 256 := by simp [HM.out.1]
        have hmg := set_may HM.out hq0 hq1 2 (by decide)
        have hgq : mkT (s.set q' 2) q' = 2 := by rw [mkT_set _ _ _ _ (by rw [HM.out.1]; exact hq1), if_pos rfl]; rfl
        have H1 := Lib.hid h1
        refine (spGive_ok a 256 c s q' hq0 hq1 w5 HS.out HM.out h1).mono ?_
        rintro e w6 ⟨v, rfl, ho, bb⟩
        replace HS := Lib.hid (HS.out.step bb)
        replace HE := Lib.hid (HE.out.trans (bb.mono HE.out.size))
        rw [hl2] at ho
        obtain ⟨ag, cg, rfl⟩ := own_slice ho
        have HG := Lib.hid (own_bsl ho)
        have HMG := Lib.hid hmg
        have HGQ := Lib.hid hgq
        clear bb ho h1 hl2 hmg hgq hkk
        go_wp2_with fail
        go_loopw [14, 15] (fun v i wr => ∃ j ax cx X, j ≤ m ∧ i = .int .i64 (j : Nat) ∧ v = .slice ax 256 cx ∧ Bsl wr wr.heap.size ax 256 cx X ∧ MayT X ∧ mkT X q' = 2 ∧ Below w6.heap.size w6 wr) (fun _ i _ => m - (intOf i).toNat)
        case atStart => exact ⟨0, _, _, _, Nat.zero_le _, rfl, rfl, HG.out, HMG.out, HGQ.out, Below.refl _ _⟩
        case round =>
          obtain ⟨j, ax, cx, X, hj, rfl, rfl, hX, hmX, hXq, hb⟩ := hrel
          have j0 : (0 : Int) ≤ j := by omega
          have HX := Lib.hid hX
          have HMX := Lib.hid hmX
          have HXQ := Lib.hid hXq
          have HBB := Lib.hid hb
          clear hX hmX hXq
          by_cases hlt : j < m
          · have j1 : (j : Int) < m := by omega
            rcases first_free (s := X) with ⟨kk, hk, hz, hbf⟩ | hnf
            · have hne : kk ≠ q' := fun e => by rw [e, HXQ.out] at hz; cases hz
              have e1 : ((kk : Int) == q') = false := by simp; omega
              have hk0 := HMX.out.free_ge (a := kk) (by omega)
              have HMY := Lib.hid (set_may HMX.out hk0 hk 1 (by decide))
              have hyq : mkT (X.set kk 1) q' = 2 := by rw [mkT_set _ _ _ _ (by rw [HMX.out.1]; exact hk), if_neg (fun e => hne e.symm)]; exact HXQ.out
              have HYQ := Lib.hid hyq
              have hl3 : (X.set kk 1).length = 256 := HMY.out.1
              have HT2 := Lib.hid (spTake_ok ax 256 cx X kk wr HX.out HMX.out hk hz hbf)
              have HL3 := Lib.hid hl3
              clear hne hk0 hyq hl3 hz hbf hb
              go_wp2_with fail
              refine HT2.out.mono ?_
              rintro e w7 ⟨v, rfl, ho, bb⟩
              rw [HL3.out] at ho
              obtain ⟨ay, cy, rfl⟩ := own_slice ho
              have HY := Lib.hid (own_bsl ho)
              have HBC := Lib.hid (HBB.out.trans (bb.mono HBB.out.size))
              clear ho bb
              go_wp2_with fail
              go_roundw
              case rel => exact ⟨j + 1, _, _, _, by omega, by go_num, rfl, HY.out, HMY.out, HYQ.out, HBC.out⟩
              case measure => simp [intOf]; omega
            · have HT2 := Lib.hid (spTake_full ax 256 cx X wr HX.out HMX.out hnf)
              replace HS := Lib.hid (HS.out.step hb)
              replace HE := Lib.hid (HE.out.trans (hb.mono HE.out.size))
              clear hnf hb HBB
              go_wp2_with fail
              refine HT2.out.mono ?_
              rintro e w7' ⟨v, rfl, ho, bb⟩
              simp only [List.length_nil] at ho
              obtain ⟨ay, cy, rfl⟩ := own_slice ho
              replace HX := Lib.hid (HX.out.step bb)
              replace HS := Lib.hid (HS.out.step bb)
              replace HE := Lib.hid (HE.out.trans (bb.mono HE.out.size))
              clear ho bb HT2
              go_wp2_with fail
              refine (spSettle_ok ax 256 cx X w7' HX.out HMX.out).mono ?_
              rintro e w7 ⟨v, rfl, ho, bb⟩
              replace HS := Lib.hid (HS.out.step bb)
              replace HE := Lib.hid (HE.out.trans (bb.mono HE.out.size))
              rw [(settleL_may HMX.out).1] at ho
              obtain ⟨az, cz, rfl⟩ := own_slice ho
              have HZ := Lib.hid ho
              have HMZ := Lib.hid (settleL_may HMX.out)
              have hzq : q' ∈ freeTo (settleL X) 256 := freeTo_mem.2 ⟨hq1, by rw [settleL_mk HMX.out hq1, if_pos HXQ.out]⟩
              clear bb ho
              go_wp2_with fail
              refine (spFree_ok az 256 cz _ w7 (own_bsl HZ.out) HMZ.out).mono ?_
              rintro e w8 ⟨v, rfl, ho, bb⟩
              replace HZ := Lib.hid (own_below HZ.out bb)
              replace HS := Lib.hid (HS.out.step bb)
              replace HE := Lib.hid (HE.out.trans (bb.mono HE.out.size))
              obtain ⟨L, hL⟩ : ∃ L, freeTo (settleL X) 256 = L := ⟨_, rfl⟩
              have hle := freeTo_le (settleL X) 256
              rw [hL] at ho hzq hle
              clear hL
              obtain ⟨al, cl, rfl⟩ := ownN_slice ho
              obtain ⟨lm, hlm⟩ : ∃ lm, L.length = lm := ⟨_, rfl⟩
              have hlm2 := hlm
              rw [hlm] at ho hle ⊢
              have HN := Lib.hid (ownN_nsl ho)
              have HLM := Lib.hid hlm2
              have HQL := Lib.hid hzq
              clear bb ho hlm hlm2 hzq
              have lm0 : (0 : Int) ≤ lm := by omega
              have lm1 : (lm : Int) ≤ 256 := by omega
              go_wp2_with fail
              go_loopw [23, 24] (fun th i wr => ∃ j : Nat, j ≤ lm ∧ i = .int .i64 j ∧ th = .bool (decide (q' ∈ L.take j)) ∧ Below w8.heap.size w8 wr) (fun _ i _ => lm - (intOf i).toNat)
              case atStart => exact ⟨0, Nat.zero_le _, rfl, by simp, Below.refl _ _⟩
              case round =>
                obtain ⟨j, hj, rfl, rfl, hb⟩ := hrel
                have j0 : (0 : Int) ≤ j := by omega
                by_cases hlt : j < lm
                · have j1 : (j : Int) < lm := by omega
                  obtain ⟨bl, ol, rfl, _⟩ := HN.out.2.2.2.2 (by omega)
                  have d1 := (HN.out.below hb).cellD j hlt
                  have hms := mem_take_succ (L := L) (j := j) (by rw [HLM.out]; exact hlt) q'
                  obtain ⟨y, hy⟩ : ∃ y : Nat, L.getD j 0 = y := ⟨_, rfl⟩
                  rw [hy] at d1 hms
                  have HBB := Lib.hid hb
                  clear hb hy
                  by_cases hr : q' ∈ L.take j
                  · have ht : decide (q' ∈ L.take (j + 1)) = true := decide_eq_true (hms.2 (.inl hr))
                    have HTT := Lib.hid ht
                    rw [decide_eq_true hr]
                    clear hms hr ht
                    go_wp2_with fail
                    go_roundw
                    case rel => exact ⟨j + 1, by omega, by go_num, by rw [HTT.out], HBB.out⟩
                    case measure => simp [intOf]; omega
                  · rw [decide_eq_false hr]
                    by_cases hyq : y = q'
                    · have ht : decide (q' ∈ L.take (j + 1)) = true := decide_eq_true (hms.2 (.inr hyq.symm))
                      have HTT := Lib.hid ht
                      have e1 : ((y : Int) == q') = true := by simp; omega
                      clear hms hr ht hyq
                      go_wp2_with fail
                      go_roundw
                      case rel => exact ⟨j + 1, by omega, by go_num, by rw [HTT.out], HBB.out⟩
                      case measure => simp [intOf]; omega
                    · have ht : decide (q' ∈ L.take (j + 1)) = false := decide_eq_false fun h => (hms.1 h).elim hr (fun e => hyq e.symm)
                      have HTT := Lib.hid ht
                      have e1 : ((y : Int) == q') = false := by simp; omega
                      clear hms hr ht hyq
                      go_wp2_with fail
                      go_roundw
                      case rel => exact ⟨j + 1, by omega, by go_num, by rw [HTT.out], HBB.out⟩
                      case measure => simp [intOf]; omega
                · have j1 : (lm : Int) ≤ j := by omega
                  have htk : L.take j = L := List.take_of_length_le (by rw [HLM.out]; omega)
                  rw [htk, decide_eq_true HQL.out]
                  replace HS := Lib.hid (HS.out.step hb)
                  replace HZ := Lib.hid (own_below HZ.out hb)
                  replace HE := Lib.hid (HE.out.trans (hb.mono HE.out.size))
                  obtain ⟨b, off, rfl, _⟩ := HS.out.at_ (by omega)
                  have d2 := HS.out.mk q' hq1
                  rw [H1.out] at d2
                  have HC := Lib.hid (spCheck_yes az 256 cz _ _ wr (own_bsl HZ.out) HMZ.out)
                  clear hb hlt htk hj HN
                  go_wp2_with fail
                  refine HC.out.mono ?_
                  rintro e w9 ⟨rfl, rfl⟩
                  go_wp2_with fail
                  go_ret
                  exact ⟨rfl, HE.out⟩
          · have j1 : (m : Int) ≤ j := by omega
            replace HS := Lib.hid (HS.out.step hb)
            replace HE := Lib.hid (HE.out.trans (hb.mono HE.out.size))
            clear hb HBB hlt hj
            go_wp2_with fail
            refine (spSettle_ok ax 256 cx X wr HX.out HMX.out).mono ?_
            rintro e w7 ⟨v, rfl, ho, bb⟩
            replace HS := Lib.hid (HS.out.step bb)
            replace HE := Lib.hid (HE.out.trans (bb.mono HE.out.size))
            rw [(settleL_may HMX.out).1] at ho
            obtain ⟨az, cz, rfl⟩ := own_slice ho
            have HZ := Lib.hid ho
            have HMZ := Lib.hid (settleL_may HMX.out)
            have hzq : q' ∈ freeTo (settleL X) 256 := freeTo_mem.2 ⟨hq1, by rw [settleL_mk HMX.out hq1, if_pos HXQ.out]⟩
            clear bb ho
            go_wp2_with fail
            refine (spFree_ok az 256 cz _ w7 (own_bsl HZ.out) HMZ.out).mono ?_
            rintro e w8 ⟨v, rfl, ho, bb⟩
            replace HZ := Lib.hid (own_below HZ.out bb)
            replace HS := Lib.hid (HS.out.step bb)
            replace HE := Lib.hid (HE.out.trans (bb.mono HE.out.size))
            obtain ⟨L, hL⟩ : ∃ L, freeTo (settleL X) 256 = L := ⟨_, rfl⟩
            have hle := freeTo_le (settleL X) 256
            rw [hL] at ho hzq hle
            clear hL
            obtain ⟨al, cl, rfl⟩ := ownN_slice ho
            obtain ⟨lm, hlm⟩ : ∃ lm, L.length = lm := ⟨_, rfl⟩
            have hlm2 := hlm
            rw [hlm] at ho hle ⊢
            have HN := Lib.hid (ownN_nsl ho)
            have HLM := Lib.hid hlm2
            have HQL := Lib.hid hzq
            clear bb ho hlm hlm2 hzq
            have lm0 : (0 : Int) ≤ lm := by omega
            have lm1 : (lm : Int) ≤ 256 := by omega
            go_wp2_with fail
            go_loopw [23, 24] (fun th i wr => ∃ j : Nat, j ≤ lm ∧ i = .int .i64 j ∧ th = .bool (decide (q' ∈ L.take j)) ∧ Below w8.heap.size w8 wr) (fun _ i _ => lm - (intOf i).toNat)
            case atStart => exact ⟨0, Nat.zero_le _, rfl, by simp, Below.refl _ _⟩
            case round =>
              obtain ⟨j, hj, rfl, rfl, hb⟩ := hrel
              have j0 : (0 : Int) ≤ j := by omega
              by_cases hlt : j < lm
              · have j1 : (j : Int) < lm := by omega
                obtain ⟨bl, ol, rfl, _⟩ := HN.out.2.2.2.2 (by omega)
                have d1 := (HN.out.below hb).cellD j hlt
                have hms := mem_take_succ (L := L) (j := j) (by rw [HLM.out]; exact hlt) q'
                obtain ⟨y, hy⟩ : ∃ y : Nat, L.getD j 0 = y := ⟨_, rfl⟩
                rw [hy] at d1 hms
                have HBB := Lib.hid hb
                clear hb hy
                by_cases hr : q' ∈ L.take j
                · have ht : decide (q' ∈ L.take (j + 1)) = true := decide_eq_true (hms.2 (.inl hr))
                  have HTT := Lib.hid ht
                  rw [decide_eq_true hr]
                  clear hms hr ht
                  go_wp2_with fail
                  go_roundw
                  case rel => exact ⟨j + 1, by omega, by go_num, by rw [HTT.out], HBB.out⟩
                  case measure => simp [intOf]; omega
                · rw [decide_eq_false hr]
                  by_cases hyq : y = q'
                  · have ht : decide (q' ∈ L.take (j + 1)) = true := decide_eq_true (hms.2 (.inr hyq.symm))
                    have HTT := Lib.hid ht
                    have e1 : ((y : Int) == q') = true := by simp; omega
                    clear hms hr ht hyq
                    go_wp2_with fail
                    go_roundw
                    case rel => exact ⟨j + 1, by omega, by go_num, by rw [HTT.out], HBB.out⟩
                    case measure => simp [intOf]; omega
                  · have ht : decide (q' ∈ L.take (j + 1)) = false := decide_eq_false fun h => (hms.1 h).elim hr (fun e => hyq e.symm)
                    have HTT := Lib.hid ht
                    have e1 : ((y : Int) == q') = false := by simp; omega
                    clear hms hr ht hyq
                    go_wp2_with fail
                    go_roundw
                    case rel => exact ⟨j + 1, by omega, by go_num, by rw [HTT.out], HBB.out⟩
                    case measure => simp [intOf]; omega
              · have j1 : (lm : Int) ≤ j := by omega
                have htk : L.take j = L := List.take_of_length_le (by rw [HLM.out]; omega)
                rw [htk, decide_eq_true HQL.out]
                replace HS := Lib.hid (HS.out.step hb)
                replace HZ := Lib.hid (own_below HZ.out hb)
                replace HE := Lib.hid (HE.out.trans (hb.mono HE.out.size))
                obtain ⟨b, off, rfl, _⟩ := HS.out.at_ (by omega)
                have d2 := HS.out.mk q' hq1
                rw [H1.out] at d2
                have HC := Lib.hid (spCheck_yes az 256 cz _ _ wr (own_bsl HZ.out) HMZ.out)
                clear hb hlt htk hj HN
                go_wp2_with fail
                refine HC.out.mono ?_
                rintro e w9 ⟨rfl, rfl⟩
                go_wp2_with fail
                go_ret
                exact ⟨rfl, HE.out⟩
      · have hgv := spGive_none a 256 c _ s q' (by omega) (by omega) w5 HS.out HM.out h1
        clear hkk h1
        refine hgv.mono ?_
        rintro e w6 ⟨v, rfl, ho, bb⟩
        replace HS := Lib.hid (HS.out.step bb)
        replace HE := Lib.hid (HE.out.trans (bb.mono HE.out.size))
        simp only [List.length_nil] at ho
        obtain ⟨ag, cg, rfl⟩ := own_slice ho
        clear bb ho hgv
        go_wp2_with fail
        go_ret
        exact ⟨rfl, HE.out⟩
theorem spaceKeeps_walk (a0 : Option Addr) (len0 cap0 : Nat) (s0 : List UInt8) (a1 : Int) (a2 : Int) (w : World) (h0 : Bsl w w.heap.size a0 len0 cap0 s0) (_w1 : (Lit.int .i64 a1).wf = true) (w2 : (Lit.int .u8 a2).wf = true) :
    Calls Try.prog 5 #[.slice a0 len0 cap0, .int .i64 a1, .int .u8 a2] w fun e w' => e = .returned (.bool true) ∧ Below w.heap.size w w' := by
  have g : 0 ≤ a2 ∧ a2 ≤ 255 := by simpa [Lit.wf, IntKind.min, IntKind.max, IntKind.signed, IntKind.bits] using w2
  obtain ⟨m, rfl⟩ := Int.eq_ofNat_of_zero_le g.1
  rcases MayT_dec s0 with hm | hm
  · exact spaceKeeps_may a0 len0 cap0 s0 a1 m (by omega) w h0 hm
  · by_cases h : (len0 : Int) ≤ 10000
    · exact spaceKeeps_not a0 len0 cap0 s0 a1 m w h h0 hm
    · exact spaceKeeps_far a0 len0 cap0 a1 m w h0.len_le (by omega)
end Go.Proofs.Ytiekbgfglmfbkaa
namespace Go.Proofs.Ytiekbgfglmfbkaa.spaceKeeps
open Go.ChangeShapes Go.WideShapes Go.ChangeAt Go.RowKit
set_option linter.unusedVariables false

theorem own : ownKnob Try.prog.godebug = none := by kernel_rfl
theorem laidOut : laidOutB Try.prog = true := by kernel_rfl

set_option maxRecDepth 100000 in
theorem lifted (os : Os) (started : os.Started) (H : Type) (enc : TypeId × Value → H) :
    ReturnsInHanded {} Try.checked os 5 .any (Rows.spaceKeepsSpec.pre6 enc Try.prog Try.f5 Rows.spaceKeepsRow.domain false) (Rows.spaceKeepsSpec.post enc Try.prog Try.f5 false true false false) := by
  refine returnsInHanded_of_change (C := Try.checked) own started (by kernel_rfl) Try.func5
    (ChangeSpec.witness6 (enc := enc) (C := Try.checked) false ⟨#[], #[.slice none 0 0, .int .i64 0, .int .u8 0], []⟩ 8 (by kernel_rfl) (by kernel_rfl) (by kernel_rfl) (by kernel_rfl)) ?_
  intro W base args ds gs before hval0 hW hcnd _
  have hval : ∀ (j : Nat) t v, Try.f5.params[j]? = some t → args[j]? = some v → Value.okWide Try.prog W .any base t v := hval0
  have hW' := hW
  obtain ⟨p, q, hA0, hV, rfl, hfz, hnd⟩ := hW
  have hA : DataW.TrodAll enc Try.prog W 0 (fun _ => true) true Try.f5.params.toList args.toList ds p := hA0
  rw [Try.params5] at hA hval
  obtain ⟨v0, vs0, d0, ds0, p0, q0, hargs, rfl, rfl, h0, r0⟩ := trodAll_cons hA
  obtain ⟨v1, vs1, d1, ds1, p1, q1, rfl, rfl, rfl, h1, r1⟩ := trodAll_cons r0
  obtain ⟨v2, vs2, d2, ds2, p2, q2, rfl, rfl, rfl, h2, r2⟩ := trodAll_cons r1
  obtain ⟨rfl, rfl, rfl⟩ := trodAll_nil r2
  obtain rfl : args = #[v0, v1, v2] := by cases args; simp_all
  obtain ⟨rfl, rfl⟩ := trodVars_none hV
  obtain ⟨a0, len0, cap0, rfl⟩ := okWide_slice Try.underlying26 (hval 0 26 v0 rfl rfl)
  have k0 := h0
  have lt0 : ∀ x ∈ p0, x.block < W.heap.size := by obtain ⟨m, hm⟩ := k0; exact DataW.trod_lt m _ _ _ hm
  obtain ⟨z0, w0⟩ : ∃ zs, IsRow .u8 W a0 len0 cap0 zs := by
    obtain ⟨fuel, hf⟩ := h0
    rcases open_ints Try.underlying26 Try.underlying5 (by kernel_rfl) hf with ⟨hcs, _⟩ | ⟨x, l, c, zs, hcs, _, hl, hm, hz, _, hcell, hwz⟩
    · simp [Value.cells] at hcs
      obtain ⟨rfl, rfl, rfl⟩ := hcs
      exact ⟨[], .inl ⟨rfl, rfl, rfl, rfl⟩⟩
    · simp [Value.cells] at hcs
      obtain ⟨rfl, rfl, rfl⟩ := hcs
      exact ⟨zs, .inr ⟨_, rfl, hl, hm, by simpa using hz, hcell, hwz⟩⟩
  obtain ⟨a1, rfl, rfl, rfl, w1⟩ := open_int Try.underlying3 (hval 1 3 v1 rfl rfl) h1
  obtain ⟨a2, rfl, rfl, rfl, w2⟩ := open_int Try.underlying5 (hval 2 5 v2 rfl rfl) h2
  clear hA0 hval0
  refine (spaceKeeps_walk a0 len0 cap0 _ a1 a2 W (bsl_of_row w0) w1 w2).mono fun e W' ⟨he, bel⟩ => ?_
  subst he
  exact ⟨_, rfl, _, _, _, [], _, [], hW', trodAll_mk1 (shut_bool Try.underlying4 _), (trodAll_cons_mk (Below.trod laidOut (by kernel_rfl) (of_decide_eq_true (by kernel_rfl)) k0 bel lt0) (trodAll_cons_mk (shut_int Try.underlying3 w1) (trodAll_cons_mk (shut_int Try.underlying5 w2) trodAll_mk0))), rfl, bel.frame _, fun h => by cases h⟩

theorem over : Rows.spaceKeepsRow.holds Try.pinned (OpenSpec.ofChange Rows.spaceKeepsSpec) :=
  OpenClaim.holds_of_wide 5 Try.f5 rfl rfl rfl rfl rfl rfl rfl ⟨rfl, rfl, rfl, rfl, rfl⟩ rfl rfl rfl rfl rfl (by kernel_rfl) Try.func5 (by kernel_rfl)
    (of_decide_eq_true (by kernel_rfl)) (by unfold Func.isWrapper; first | (rw [if_pos (by decide +kernel)]; kernel_rfl) | (rw [if_neg (by decide +kernel)]; exact ⟨rfl, rfl⟩))
    (fun os started H enc _ => lifted os started H enc)

/-- The statement. -/
theorem proved : Rows.SpaceKeepsSaid := over
end Go.Proofs.Ytiekbgfglmfbkaa.spaceKeeps
