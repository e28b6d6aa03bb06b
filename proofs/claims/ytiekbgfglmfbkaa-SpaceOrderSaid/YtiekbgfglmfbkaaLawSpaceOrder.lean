/-
  SpaceOrderSaid: for any bytes and any block's number (where they are no table that may be, or more than 10,000, the law itself answers what its example answers) to settle twice is to settle once, to take and to give up may change places where neither is the other one's, and what is free rises. No condition.
-/
import Derived.Test.YtiekbgfglmfbkaaRows
import Derived.Test.YtiekbgfglmfbkaaLawSpaceB
namespace Go.Proofs.Ytiekbgfglmfbkaa
open Go.RowKit Go.Shelf
set_option maxRecDepth 100000

theorem freeTo_rises (s : List UInt8) : ∀ n i, 1 ≤ i → i < (freeTo s n).length → (freeTo s n).getD (i - 1) 0 < (freeTo s n).getD i 0
  | 0, i, _, h => absurd h (Nat.not_lt_zero _)
  | n + 1, i, h1, h => by
    have ih := freeTo_rises s n i h1
    by_cases hz : mkT s n = 0
    · rw [freeTo_yes hz] at h ⊢
      simp only [List.length_append, List.length_cons, List.length_nil] at h
      rcases Nat.lt_or_ge i (freeTo s n).length with h2 | h2
      · have h3 := ih h2
        rw [List.getD_eq_getElem?_getD, List.getElem?_append_left (by omega), List.getD_eq_getElem?_getD, List.getElem?_append_left h2]
        rw [List.getD_eq_getElem?_getD, List.getD_eq_getElem?_getD] at h3
        exact h3
      · have hi : i = (freeTo s n).length := by omega
        rw [List.getD_eq_getElem?_getD, List.getElem?_append_left (by omega), List.getD_eq_getElem?_getD, List.getElem?_append_right h2, hi, Nat.sub_self]
        have hlt : (freeTo s n).length - 1 < (freeTo s n).length := by omega
        have hm : (freeTo s n)[(freeTo s n).length - 1] ∈ freeTo s n := List.getElem_mem hlt
        rw [List.getElem?_eq_getElem hlt]
        exact (freeTo_mem.1 hm).1
    · rw [freeTo_no hz] at h ⊢
      exact ih h
theorem not_may_nil : ¬ MayT ([] : List UInt8) := fun h => by have := h.1; simp at this
theorem spaceOrder_far (a : Option Addr) (n c : Nat) (k : Int) (w : World) (hn : (n : Int) ≤ 9223372036854775807) (h : (10000 : Int) < n) :
    Calls Try.prog 7 #[.slice a n c, .int .i64 k] w fun e w' => e = .returned (.bool true) ∧ Below w.heap.size w w' := by
  have i1 : (0 : Int) ≤ n := by omega
  go_enter Try.func7, Try.ntmps7
  go_wp2_with fail
  refine (spAlive_any w).mono ?_
  rintro e w1 ⟨rfl, b1⟩
  go_wp2_with fail
  go_ret
  exact ⟨rfl, b1⟩
theorem spaceOrder_not (a : Option Addr) (n c : Nat) (s : List UInt8) (k : Int) (w : World) (hn : (n : Int) ≤ 10000) (hA : Bsl w w.heap.size a n c s) (h : ¬ MayT s) :
    Calls Try.prog 7 #[.slice a n c, .int .i64 k] w fun e w' => e = .returned (.bool true) ∧ Below w.heap.size w w' := by
  have i1 : (0 : Int) ≤ n := by omega
  have HA := Lib.hid hA
  have HM := Lib.hid h
  clear hA h
  go_enter Try.func7, Try.ntmps7
  go_wp2_with fail
  refine (spAlive_any w).mono ?_
  rintro e w1 ⟨rfl, b1⟩
  have HC := Lib.hid (spCheck_no a n c _ s w1 (HA.out.step b1) HM.out)
  have HB := Lib.hid b1
  clear b1
  go_wp2_with fail
  refine HC.out.mono ?_
  rintro e w2 ⟨rfl, rfl⟩
  go_wp2_with fail
  go_ret
  exact ⟨rfl, HB.out⟩
set_option maxHeartbeats 16000000 in
theorem spaceOrder_may (a : Option Addr) (n c : Nat) (s : List UInt8) (q : Int) (w : World) (hA : Bsl w w.heap.size a n c s) (h : MayT s) :
    Calls Try.prog 7 #[.slice a n c, .int .i64 q] w fun e w' => e = .returned (.bool true) ∧ Below w.heap.size w w' := by
  have hmx : Try.prog.follows Departure.mixedOrders = true := by kernel_rfl
  have hn := h.len_of hA
  subst hn
  have HS := Lib.hid hA
  have HM := Lib.hid h
  clear hA h
  go_enter Try.func7, Try.ntmps7
  go_wp2_with fail
  refine (spAlive_any w).mono ?_
  rintro e w1 ⟨rfl, b1⟩
  replace HS := Lib.hid (HS.out.step b1)
  have HE := Lib.hid b1
  clear b1
  have HC := Lib.hid (spCheck_yes a 256 c _ s w1 HS.out HM.out)
  go_wp2_with fail
  refine HC.out.mono ?_
  rintro e w2 ⟨rfl, rfl⟩
  clear HC
  go_wp2_with fail
  have hl2 := (settleL_may HM.out).1
  refine (spSettle_ok a 256 c s w1 HS.out HM.out).mono ?_
  rintro e w2 ⟨v, rfl, ho, bb⟩
  replace HS := Lib.hid (HS.out.step bb)
  replace HE := Lib.hid (HE.out.trans (bb.mono HE.out.size))
  rw [hl2] at ho
  obtain ⟨ax, cx, rfl⟩ := own_slice ho
  have HX := Lib.hid ho
  clear bb ho
  go_wp2_with fail
  refine (spSettle_ok ax 256 cx _ w2 (own_bsl HX.out) (settleL_may HM.out)).mono ?_
  rintro e w3 ⟨v, rfl, ho, bb⟩
  replace HX := Lib.hid (own_below HX.out bb)
  replace HS := Lib.hid (HS.out.step bb)
  replace HE := Lib.hid (HE.out.trans (bb.mono HE.out.size))
  rw [settleL_twice HM.out, hl2] at ho
  obtain ⟨ay, cy, rfl⟩ := own_slice ho
  have HY := Lib.hid ho
  clear bb ho hl2
  go_wp2_with fail
  refine (spFree_ok a 256 c s w3 HS.out HM.out).mono ?_
  rintro e w4 ⟨v, rfl, ho, bb⟩
  replace HX := Lib.hid (own_below HX.out bb)
  replace HY := Lib.hid (own_below HY.out bb)
  replace HS := Lib.hid (HS.out.step bb)
  replace HE := Lib.hid (HE.out.trans (bb.mono HE.out.size))
  obtain ⟨L, hL⟩ : ∃ L, freeTo s 256 = L := ⟨_, rfl⟩
  have hri := freeTo_rises s 256
  have hle := freeTo_le s 256
  rw [hL] at ho hri hle
  clear hL
  obtain ⟨al, cl, rfl⟩ := ownN_slice ho
  obtain ⟨m, hm⟩ : ∃ m, L.length = m := ⟨_, rfl⟩
  rw [hm] at ho hri hle ⊢
  have HN := Lib.hid (ownN_nsl ho)
  have HR := Lib.hid hri
  have q1 := (own_bsl HX.out).conv
  have q2 := (own_bsl HY.out).conv
  clear bb ho hri hm HX HY
  have m0 : (0 : Int) ≤ m := by omega
  have m1 : (m : Int) ≤ 256 := by omega
  go_wp2_with fail
  clear q1 q2
  go_loopw [12] (fun i wr => ∃ k : Nat, 1 ≤ k ∧ k ≤ 256 ∧ i = .int .i64 k ∧ Below w4.heap.size w4 wr) (fun i _ => 256 - (intOf i).toNat)
  case atStart => exact ⟨1, Nat.le_refl _, by omega, rfl, Below.refl _ _⟩
  case round =>
    obtain ⟨k, hk1, hk2, rfl, hb⟩ := hrel
    have k0 : (0 : Int) ≤ k := by omega
    have k1 : (1 : Int) ≤ k := by omega
    by_cases hlt : k < m
    · have k3 : (k : Int) < m := by omega
      have hr := HR.out k hk1 hlt
      have HN2 := Lib.hid (HN.out.below hb)
      obtain ⟨ba, oa, rfl, _⟩ := HN.out.2.2.2.2 (by omega)
      have d1 := HN2.out.cellD k hlt
      have d2 := HN2.out.cellD (k - 1) (by omega)
      obtain ⟨j, hj⟩ : ∃ j : Nat, k - 1 = j := ⟨_, rfl⟩
      have e1 : (k : Int) - 1 = (j : Int) := by omega
      have e2 : IntKind.i64.wrap ((k : Int) - 1) = (j : Int) := by rw [e1]; exact IntWalk.i64_in _ (by omega)
      rw [hj] at d2 hr
      have j0 : (0 : Int) ≤ j := by omega
      have j1 : (j : Int) < m := by omega
      have j2 : j < m := by omega
      obtain ⟨x, hx⟩ : ∃ x : Nat, L.getD j 0 = x := ⟨_, rfl⟩
      obtain ⟨y, hy⟩ : ∃ y : Nat, L.getD k 0 = y := ⟨_, rfl⟩
      rw [hx, hy] at hr
      rw [hx] at d2
      rw [hy] at d1
      have r1 : ¬ (y : Int) ≤ x := by omega
      have r2 : ¬ y ≤ x := by omega
      have r3 : decide (y ≤ x) = false := decide_eq_false r2
      have HBB := Lib.hid hb
      clear hb hx hy hj hr
      go_wp2_with fail
      go_quiet (fail)
      go_wp2_with fail
      go_roundw
      case rel => exact ⟨k + 1, by omega, by omega, by go_num, below_drewN HBB.out _⟩
      case measure => simp [intOf]; omega
    · have k3 : (m : Int) ≤ k := by omega
      replace HS := Lib.hid (HS.out.step hb)
      replace HE := Lib.hid (HE.out.trans (hb.mono HE.out.size))
      clear hb hlt HN
      go_wp2_with fail
      rcases first_free (s := s) with ⟨k', hk, hz, hbf⟩ | hnf
      · by_cases hkk : q < 12 ∨ 256 ≤ q
        · have hls : (s.set k' 1).length = 256 := by simp [HM.out.1]
          refine (spTake_ok a 256 c s k' wr HS.out HM.out hk hz hbf).mono ?_
          rintro e w5 ⟨v, rfl, ho, bb⟩
          replace HS := Lib.hid (HS.out.step bb)
          replace HE := Lib.hid (HE.out.trans (bb.mono HE.out.size))
          rw [hls] at ho
          obtain ⟨aT, cT, rfl⟩ := own_slice ho
          have HT := Lib.hid ho
          clear bb ho
          go_wp2_with fail
          have hm1 : MayT (s.set k' 1) := set_may HM.out (HM.out.free_ge (by omega)) hk 1 (by decide)
          refine (spGive_arg aT 256 cT _ _ q hkk w5 (own_bsl HT.out) hm1).mono ?_
          rintro e w6 ⟨v, rfl, ho, bb⟩
          replace HS := Lib.hid (HS.out.step bb)
          replace HE := Lib.hid (HE.out.trans (bb.mono HE.out.size))
          simp only [List.length_nil] at ho
          obtain ⟨aA, cA, rfl⟩ := own_slice ho
          have HA := Lib.hid ho
          clear bb ho
          go_wp2_with fail
          refine (spGive_arg a 256 c _ s q hkk w6 HS.out HM.out).mono ?_
          rintro e w7 ⟨v, rfl, ho, bb⟩
          replace HS := Lib.hid (HS.out.step bb)
          replace HE := Lib.hid (HE.out.trans (bb.mono HE.out.size))
          simp only [List.length_nil] at ho
          obtain ⟨aG, cG, rfl⟩ := own_slice ho
          have HG := Lib.hid ho
          clear bb ho
          go_wp2_with fail
          refine (spTake_bad aG 0 cG _ _ w7 (own_bsl HG.out) not_may_nil).mono ?_
          rintro e w8 ⟨v, rfl, ho, bb⟩
          replace HS := Lib.hid (HS.out.step bb)
          replace HE := Lib.hid (HE.out.trans (bb.mono HE.out.size))
          simp only [List.length_nil] at ho
          obtain ⟨aB, cB, rfl⟩ := own_slice ho
          have HB := Lib.hid ho
          clear bb ho
          go_wp2_with fail
          go_ret
          exact ⟨rfl, HE.out⟩
        · obtain ⟨q', rfl⟩ := Int.eq_ofNat_of_zero_le (show 0 ≤ q by omega)
          by_cases h1 : mkT s q' = 1
          · have hls : (s.set k' 1).length = 256 := by simp [HM.out.1]
            refine (spTake_ok a 256 c s k' wr HS.out HM.out hk hz hbf).mono ?_
            rintro e w5 ⟨v, rfl, ho, bb⟩
            replace HS := Lib.hid (HS.out.step bb)
            replace HE := Lib.hid (HE.out.trans (bb.mono HE.out.size))
            rw [hls] at ho
            obtain ⟨aT, cT, rfl⟩ := own_slice ho
            have HT := Lib.hid ho
            clear bb ho
            go_wp2_with fail
            have hkq : q' ≠ k' := fun e => by rw [e, hz] at h1; cases h1
            have hq0 : 12 ≤ q' := by omega
            have hq1 : q' < 256 := by omega
            have hm1 : MayT (s.set k' 1) := set_may HM.out (HM.out.free_ge (by omega)) hk 1 (by decide)
            have hm2 : MayT (s.set q' 2) := set_may HM.out hq0 hq1 2 (by decide)
            have hs1 : mkT (s.set k' 1) q' = 1 := by rw [mkT_set _ _ _ _ (by rw [HM.out.1]; exact hk), if_neg hkq]; exact h1
            have hs2 : mkT (s.set q' 2) k' = 0 := by rw [mkT_set _ _ _ _ (by rw [HM.out.1]; exact hq1), if_neg (fun e => hkq e.symm)]; exact hz
            have hs3 : ∀ i, i < k' → mkT (s.set q' 2) i ≠ 0 := fun i hi => by
              rw [mkT_set _ _ _ _ (by rw [HM.out.1]; exact hq1)]
              split
              · decide
              · exact hbf i hi
            have l1 : ((s.set k' 1).set q' 2).length = 256 := by simp [HM.out.1]
            have l2 : (s.set q' 2).length = 256 := by simp [HM.out.1]
            have l3 : ((s.set q' 2).set k' 1).length = 256 := by simp [HM.out.1]
            have hcm : (s.set q' 2).set k' 1 = (s.set k' 1).set q' 2 := List.set_comm _ _ hkq
            refine (spGive_ok aT 256 cT _ q' hq0 hq1 w5 (own_bsl HT.out) hm1 hs1).mono ?_
            rintro e w6 ⟨v, rfl, ho, bb⟩
            replace HS := Lib.hid (HS.out.step bb)
            replace HE := Lib.hid (HE.out.trans (bb.mono HE.out.size))
            rw [l1] at ho
            obtain ⟨aA, cA, rfl⟩ := own_slice ho
            have HA := Lib.hid ho
            clear bb ho
            go_wp2_with fail
            refine (spGive_ok a 256 c s q' hq0 hq1 w6 HS.out HM.out h1).mono ?_
            rintro e w7 ⟨v, rfl, ho, bb⟩
            replace HA := Lib.hid (own_below HA.out bb)
            replace HS := Lib.hid (HS.out.step bb)
            replace HE := Lib.hid (HE.out.trans (bb.mono HE.out.size))
            rw [l2] at ho
            obtain ⟨aG, cG, rfl⟩ := own_slice ho
            have HG := Lib.hid ho
            clear bb ho
            go_wp2_with fail
            refine (spTake_ok aG 256 cG _ k' w7 (own_bsl HG.out) hm2 hk hs2 hs3).mono ?_
            rintro e w8 ⟨v, rfl, ho, bb⟩
            replace HA := Lib.hid (own_below HA.out bb)
            replace HS := Lib.hid (HS.out.step bb)
            replace HE := Lib.hid (HE.out.trans (bb.mono HE.out.size))
            rw [l3, hcm] at ho
            obtain ⟨aB, cB, rfl⟩ := own_slice ho
            have q1 := (own_bsl HA.out).conv
            have q2 := (own_bsl ho).conv
            clear bb ho hcm l1 l2 l3 hs1 hs2 hs3 hm1 hm2 hbf hz h1 hkk
            go_wp2_with fail
            go_ret
            exact ⟨rfl, HE.out⟩
          · by_cases hqk : q' = k'
            · subst hqk
              have hls : (s.set q' 1).length = 256 := by simp [HM.out.1]
              refine (spTake_ok a 256 c s q' wr HS.out HM.out hk hz hbf).mono ?_
              rintro e w5 ⟨v, rfl, ho, bb⟩
              replace HS := Lib.hid (HS.out.step bb)
              replace HE := Lib.hid (HE.out.trans (bb.mono HE.out.size))
              rw [hls] at ho
              obtain ⟨aT, cT, rfl⟩ := own_slice ho
              have HT := Lib.hid ho
              clear bb ho
              go_wp2_with fail
              have hq0 : 12 ≤ q' := HM.out.free_ge (by omega)
              have hm1 : MayT (s.set q' 1) := set_may HM.out hq0 hk 1 (by decide)
              have hs1 : mkT (s.set q' 1) q' = 1 := by rw [mkT_set _ _ _ _ (by rw [HM.out.1]; exact hk), if_pos rfl]; rfl
              have l1 : ((s.set q' 1).set q' 2).length = 256 := by simp [HM.out.1]
              refine (spGive_ok aT 256 cT _ q' hq0 hk w5 (own_bsl HT.out) hm1 hs1).mono ?_
              rintro e w6 ⟨v, rfl, ho, bb⟩
              replace HS := Lib.hid (HS.out.step bb)
              replace HE := Lib.hid (HE.out.trans (bb.mono HE.out.size))
              rw [l1] at ho
              obtain ⟨aA, cA, rfl⟩ := own_slice ho
              have HA := Lib.hid ho
              clear bb ho
              go_wp2_with fail
              refine (spGive_none a 256 c _ s q' hq0 hk w6 HS.out HM.out h1).mono ?_
              rintro e w7 ⟨v, rfl, ho, bb⟩
              replace HS := Lib.hid (HS.out.step bb)
              replace HE := Lib.hid (HE.out.trans (bb.mono HE.out.size))
              simp only [List.length_nil] at ho
              obtain ⟨aG, cG, rfl⟩ := own_slice ho
              have HG := Lib.hid ho
              clear bb ho
              go_wp2_with fail
              refine (spTake_bad aG 0 cG _ _ w7 (own_bsl HG.out) not_may_nil).mono ?_
              rintro e w8 ⟨v, rfl, ho, bb⟩
              replace HS := Lib.hid (HS.out.step bb)
              replace HE := Lib.hid (HE.out.trans (bb.mono HE.out.size))
              simp only [List.length_nil] at ho
              obtain ⟨aB, cB, rfl⟩ := own_slice ho
              have HB := Lib.hid ho
              clear bb ho
              go_wp2_with fail
              go_ret
              exact ⟨rfl, HE.out⟩
            · have hls : (s.set k' 1).length = 256 := by simp [HM.out.1]
              refine (spTake_ok a 256 c s k' wr HS.out HM.out hk hz hbf).mono ?_
              rintro e w5 ⟨v, rfl, ho, bb⟩
              replace HS := Lib.hid (HS.out.step bb)
              replace HE := Lib.hid (HE.out.trans (bb.mono HE.out.size))
              rw [hls] at ho
              obtain ⟨aT, cT, rfl⟩ := own_slice ho
              have HT := Lib.hid ho
              clear bb ho
              go_wp2_with fail
              have hq0 : 12 ≤ q' := by omega
              have hq1 : q' < 256 := by omega
              have hm1 : MayT (s.set k' 1) := set_may HM.out (HM.out.free_ge (by omega)) hk 1 (by decide)
              have hs1 : mkT (s.set k' 1) q' ≠ 1 := by rw [mkT_set _ _ _ _ (by rw [HM.out.1]; exact hk), if_neg hqk]; exact h1
              refine (spGive_none aT 256 cT _ _ q' hq0 hq1 w5 (own_bsl HT.out) hm1 hs1).mono ?_
              rintro e w6 ⟨v, rfl, ho, bb⟩
              replace HS := Lib.hid (HS.out.step bb)
              replace HE := Lib.hid (HE.out.trans (bb.mono HE.out.size))
              simp only [List.length_nil] at ho
              obtain ⟨aA, cA, rfl⟩ := own_slice ho
              have HA := Lib.hid ho
              clear bb ho
              go_wp2_with fail
              refine (spGive_none a 256 c _ s q' hq0 hq1 w6 HS.out HM.out h1).mono ?_
              rintro e w7 ⟨v, rfl, ho, bb⟩
              replace HS := Lib.hid (HS.out.step bb)
              replace HE := Lib.hid (HE.out.trans (bb.mono HE.out.size))
              simp only [List.length_nil] at ho
              obtain ⟨aG, cG, rfl⟩ := own_slice ho
              have HG := Lib.hid ho
              clear bb ho
              go_wp2_with fail
              refine (spTake_bad aG 0 cG _ _ w7 (own_bsl HG.out) not_may_nil).mono ?_
              rintro e w8 ⟨v, rfl, ho, bb⟩
              replace HS := Lib.hid (HS.out.step bb)
              replace HE := Lib.hid (HE.out.trans (bb.mono HE.out.size))
              simp only [List.length_nil] at ho
              obtain ⟨aB, cB, rfl⟩ := own_slice ho
              have HB := Lib.hid ho
              clear bb ho
              go_wp2_with fail
              go_ret
              exact ⟨rfl, HE.out⟩
      · by_cases hkk : q < 12 ∨ 256 ≤ q
        · refine (spTake_full a 256 c s wr HS.out HM.out hnf).mono ?_
          rintro e w5 ⟨v, rfl, ho, bb⟩
          replace HS := Lib.hid (HS.out.step bb)
          replace HE := Lib.hid (HE.out.trans (bb.mono HE.out.size))
          simp only [List.length_nil] at ho
          obtain ⟨aT, cT, rfl⟩ := own_slice ho
          have HT := Lib.hid ho
          clear bb ho
          go_wp2_with fail
          refine (spGive_bad aT 0 cT _ _ q w5 (own_bsl HT.out) not_may_nil).mono ?_
          rintro e w6 ⟨v, rfl, ho, bb⟩
          replace HS := Lib.hid (HS.out.step bb)
          replace HE := Lib.hid (HE.out.trans (bb.mono HE.out.size))
          simp only [List.length_nil] at ho
          obtain ⟨aA, cA, rfl⟩ := own_slice ho
          have HA := Lib.hid ho
          clear bb ho
          go_wp2_with fail
          refine (spGive_arg a 256 c _ s q hkk w6 HS.out HM.out).mono ?_
          rintro e w7 ⟨v, rfl, ho, bb⟩
          replace HS := Lib.hid (HS.out.step bb)
          replace HE := Lib.hid (HE.out.trans (bb.mono HE.out.size))
          simp only [List.length_nil] at ho
          obtain ⟨aG, cG, rfl⟩ := own_slice ho
          have HG := Lib.hid ho
          clear bb ho
          go_wp2_with fail
          refine (spTake_bad aG 0 cG _ _ w7 (own_bsl HG.out) not_may_nil).mono ?_
          rintro e w8 ⟨v, rfl, ho, bb⟩
          replace HS := Lib.hid (HS.out.step bb)
          replace HE := Lib.hid (HE.out.trans (bb.mono HE.out.size))
          simp only [List.length_nil] at ho
          obtain ⟨aB, cB, rfl⟩ := own_slice ho
          have HB := Lib.hid ho
          clear bb ho
          go_wp2_with fail
          go_ret
          exact ⟨rfl, HE.out⟩
        · obtain ⟨q', rfl⟩ := Int.eq_ofNat_of_zero_le (show 0 ≤ q by omega)
          by_cases h1 : mkT s q' = 1
          · have hq0 : 12 ≤ q' := by omega
            have hq1 : q' < 256 := by omega
            have l2 : (s.set q' 2).length = 256 := by simp [HM.out.1]
            have hm2 : MayT (s.set q' 2) := set_may HM.out hq0 hq1 2 (by decide)
            have hs3 : ∀ i, i < 256 → mkT (s.set q' 2) i ≠ 0 := fun i hi => by
              rw [mkT_set _ _ _ _ (by rw [HM.out.1]; exact hq1)]
              split
              · decide
              · exact hnf i hi
            refine (spTake_full a 256 c s wr HS.out HM.out hnf).mono ?_
            rintro e w5 ⟨v, rfl, ho, bb⟩
            replace HS := Lib.hid (HS.out.step bb)
            replace HE := Lib.hid (HE.out.trans (bb.mono HE.out.size))
            simp only [List.length_nil] at ho
            obtain ⟨aT, cT, rfl⟩ := own_slice ho
            have HT := Lib.hid ho
            clear bb ho
            go_wp2_with fail
            refine (spGive_bad aT 0 cT _ _ q' w5 (own_bsl HT.out) not_may_nil).mono ?_
            rintro e w6 ⟨v, rfl, ho, bb⟩
            replace HS := Lib.hid (HS.out.step bb)
            replace HE := Lib.hid (HE.out.trans (bb.mono HE.out.size))
            simp only [List.length_nil] at ho
            obtain ⟨aA, cA, rfl⟩ := own_slice ho
            have HA := Lib.hid ho
            clear bb ho
            go_wp2_with fail
            refine (spGive_ok a 256 c s q' hq0 hq1 w6 HS.out HM.out h1).mono ?_
            rintro e w7 ⟨v, rfl, ho, bb⟩
            replace HS := Lib.hid (HS.out.step bb)
            replace HE := Lib.hid (HE.out.trans (bb.mono HE.out.size))
            rw [l2] at ho
            obtain ⟨aG, cG, rfl⟩ := own_slice ho
            have HG := Lib.hid ho
            clear bb ho
            go_wp2_with fail
            refine (spTake_full aG 256 cG _ w7 (own_bsl HG.out) hm2 hs3).mono ?_
            rintro e w8 ⟨v, rfl, ho, bb⟩
            replace HS := Lib.hid (HS.out.step bb)
            replace HE := Lib.hid (HE.out.trans (bb.mono HE.out.size))
            simp only [List.length_nil] at ho
            obtain ⟨aB, cB, rfl⟩ := own_slice ho
            have HB := Lib.hid ho
            clear bb ho
            go_wp2_with fail
            go_ret
            exact ⟨rfl, HE.out⟩
          · refine (spTake_full a 256 c s wr HS.out HM.out hnf).mono ?_
            rintro e w5 ⟨v, rfl, ho, bb⟩
            replace HS := Lib.hid (HS.out.step bb)
            replace HE := Lib.hid (HE.out.trans (bb.mono HE.out.size))
            simp only [List.length_nil] at ho
            obtain ⟨aT, cT, rfl⟩ := own_slice ho
            have HT := Lib.hid ho
            clear bb ho
            go_wp2_with fail
            refine (spGive_bad aT 0 cT _ _ q' w5 (own_bsl HT.out) not_may_nil).mono ?_
            rintro e w6 ⟨v, rfl, ho, bb⟩
            replace HS := Lib.hid (HS.out.step bb)
            replace HE := Lib.hid (HE.out.trans (bb.mono HE.out.size))
            simp only [List.length_nil] at ho
            obtain ⟨aA, cA, rfl⟩ := own_slice ho
            have HA := Lib.hid ho
            clear bb ho
            go_wp2_with fail
            refine (spGive_none a 256 c _ s q' (by omega) (by omega) w6 HS.out HM.out h1).mono ?_
            rintro e w7 ⟨v, rfl, ho, bb⟩
            replace HS := Lib.hid (HS.out.step bb)
            replace HE := Lib.hid (HE.out.trans (bb.mono HE.out.size))
            simp only [List.length_nil] at ho
            obtain ⟨aG, cG, rfl⟩ := own_slice ho
            have HG := Lib.hid ho
            clear bb ho
            go_wp2_with fail
            refine (spTake_bad aG 0 cG _ _ w7 (own_bsl HG.out) not_may_nil).mono ?_
            rintro e w8 ⟨v, rfl, ho, bb⟩
            replace HS := Lib.hid (HS.out.step bb)
            replace HE := Lib.hid (HE.out.trans (bb.mono HE.out.size))
            simp only [List.length_nil] at ho
            obtain ⟨aB, cB, rfl⟩ := own_slice ho
            have HB := Lib.hid ho
            clear bb ho
            go_wp2_with fail
            go_ret
            exact ⟨rfl, HE.out⟩
theorem spaceOrder_walk (a0 : Option Addr) (len0 cap0 : Nat) (s0 : List UInt8) (a1 : Int) (w : World) (h0 : Bsl w w.heap.size a0 len0 cap0 s0) (_w1 : (Lit.int .i64 a1).wf = true) :
    Calls Try.prog 7 #[.slice a0 len0 cap0, .int .i64 a1] w fun e w' => e = .returned (.bool true) ∧ Below w.heap.size w w' := by
  rcases MayT_dec s0 with hm | hm
  · exact spaceOrder_may a0 len0 cap0 s0 a1 w h0 hm
  · by_cases h : (len0 : Int) ≤ 10000
    · exact spaceOrder_not a0 len0 cap0 s0 a1 w h h0 hm
    · exact spaceOrder_far a0 len0 cap0 a1 w h0.len_le (by omega)
end Go.Proofs.Ytiekbgfglmfbkaa
namespace Go.Proofs.Ytiekbgfglmfbkaa.spaceOrder
open Go.ChangeShapes Go.WideShapes Go.ChangeAt Go.RowKit
set_option linter.unusedVariables false

theorem own : ownKnob Try.prog.godebug = none := by kernel_rfl
theorem laidOut : laidOutB Try.prog = true := by kernel_rfl

set_option maxRecDepth 100000 in
theorem lifted (os : Os) (started : os.Started) (H : Type) (enc : TypeId × Value → H) :
    ReturnsInHanded {} Try.checked os 7 .any (Rows.spaceOrderSpec.pre6 enc Try.prog Try.f7 Rows.spaceOrderRow.domain false) (Rows.spaceOrderSpec.post enc Try.prog Try.f7 false true false false) := by
  refine returnsInHanded_of_change (C := Try.checked) own started (by kernel_rfl) Try.func7
    (ChangeSpec.witness6 (enc := enc) (C := Try.checked) false ⟨#[], #[.slice none 0 0, .int .i64 0], []⟩ 8 (by kernel_rfl) (by kernel_rfl) (by kernel_rfl) (by kernel_rfl)) ?_
  intro W base args ds gs before hval0 hW hcnd _
  have hval : ∀ (j : Nat) t v, Try.f7.params[j]? = some t → args[j]? = some v → Value.okWide Try.prog W .any base t v := hval0
  have hW' := hW
  obtain ⟨p, q, hA0, hV, rfl, hfz, hnd⟩ := hW
  have hA : DataW.TrodAll enc Try.prog W 0 (fun _ => true) true Try.f7.params.toList args.toList ds p := hA0
  rw [Try.params7] at hA hval
  obtain ⟨v0, vs0, d0, ds0, p0, q0, hargs, rfl, rfl, h0, r0⟩ := trodAll_cons hA
  obtain ⟨v1, vs1, d1, ds1, p1, q1, rfl, rfl, rfl, h1, r1⟩ := trodAll_cons r0
  obtain ⟨rfl, rfl, rfl⟩ := trodAll_nil r1
  obtain rfl : args = #[v0, v1] := by cases args; simp_all
  obtain ⟨rfl, rfl⟩ := trodVars_none hV
  obtain ⟨a0, len0, cap0, rfl⟩ := okWide_slice Try.underlying26 (hval 0 26 v0 rfl rfl)
  have k0 := h0
  have lt0 : ∀ x ∈ p0, x.block < W.heap.size := by obtain ⟨m, hm⟩ := k0; exact DataW.trod_lt m _ _ _ hm
  obtain ⟨z0, w0⟩ : ∃ zs, IsRow .u8 W a0 len0 cap0 zs := by
    obtain ⟨fuel, hf⟩ := h0
    rcases open_ints Try.underlying26 Try.underlying5 (by kernel_rfl) hf with ⟨hcs, _⟩ | ⟨x, l, c, zs, hcs, _, hl, hm, hz, _, hcell, hwz⟩
    · simp [Value.cells] at hcs
      obtain ⟨rfl, rfl, rfl⟩ := hcs
      exact ⟨[], .inl ⟨rfl, rfl, rfl, rfl⟩⟩
    · simp [Value.cells] at hcs
      obtain ⟨rfl, rfl, rfl⟩ := hcs
      exact ⟨zs, .inr ⟨_, rfl, hl, hm, by simpa using hz, hcell, hwz⟩⟩
  obtain ⟨a1, rfl, rfl, rfl, w1⟩ := open_int Try.underlying3 (hval 1 3 v1 rfl rfl) h1
  clear hA0 hval0
  refine (spaceOrder_walk a0 len0 cap0 _ a1 W (bsl_of_row w0) w1).mono fun e W' ⟨he, bel⟩ => ?_
  subst he
  exact ⟨_, rfl, _, _, _, [], _, [], hW', trodAll_mk1 (shut_bool Try.underlying4 _), (trodAll_cons_mk (Below.trod laidOut (by kernel_rfl) (of_decide_eq_true (by kernel_rfl)) k0 bel lt0) (trodAll_cons_mk (shut_int Try.underlying3 w1) trodAll_mk0)), rfl, bel.frame _, fun h => by cases h⟩

theorem over : Rows.spaceOrderRow.holds Try.pinned (OpenSpec.ofChange Rows.spaceOrderSpec) :=
  OpenClaim.holds_of_wide 7 Try.f7 rfl rfl rfl rfl rfl rfl rfl ⟨rfl, rfl, rfl, rfl, rfl⟩ rfl rfl rfl rfl rfl (by kernel_rfl) Try.func7 (by kernel_rfl)
    (of_decide_eq_true (by kernel_rfl)) (by unfold Func.isWrapper; first | (rw [if_pos (by decide +kernel)]; kernel_rfl) | (rw [if_neg (by decide +kernel)]; exact ⟨rfl, rfl⟩))
    (fun os started H enc _ => lifted os started H enc)

/-- The statement. -/
theorem proved : Rows.SpaceOrderSaid := over
end Go.Proofs.Ytiekbgfglmfbkaa.spaceOrder
