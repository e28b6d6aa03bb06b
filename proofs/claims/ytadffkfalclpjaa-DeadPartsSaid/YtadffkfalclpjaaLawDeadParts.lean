/-
  DeadPartsSaid: for any list (of more than 1,000 pointers, or where it may not be, the law itself answers true), pointer and sync what was split is joined as it was, and what was added is there, once, and nothing else changes. No condition.
-/
import Derived.Test.YtadffkfalclpjaaRows
import Derived.Test.YtadffkfalclpjaaLawDeadA
import Derived.Test.YtadffkfalclpjaaDdSplit
namespace Go.Proofs.Ytadffkfalclpjaa
open Go.RowKit Go.Shelf
set_option maxRecDepth 100000

theorem inDL_split (L : List Pt) (p : Pt) : ∃ k, k ≤ L.length ∧ inDL L p = L.take k ++ p :: L.drop k := by
  induction L with
  | nil => exact ⟨0, Nat.le_refl _, rfl⟩
  | cons q r ih =>
    by_cases h : p.1 < q.1
    · exact ⟨0, Nat.zero_le _, by rw [inDL_yes h]; rfl⟩
    · obtain ⟨k, hk, e⟩ := ih
      exact ⟨k + 1, by rw [List.length_cons]; omega, by rw [inDL_no h, e]; rfl⟩
theorem at_split {L : List Pt} {p : Pt} {M : List Pt} {kk k : Nat} (h : M = L.take kk ++ p :: L.drop kk) (hkk : kk ≤ L.length) (hk : k < L.length + 1) : (k = kk → M.getD k p0 = p) ∧ (k ≠ kk → ∃ t, t = (if kk < k then k - 1 else k) ∧ t < L.length ∧ M.getD k p0 = L.getD t p0) := by
  subst h
  have hl : (L.take kk).length = kk := by rw [List.length_take]; omega
  refine ⟨fun e => ?_, fun hne => ?_⟩
  · subst e
    rw [List.getD_eq_getElem?_getD, List.getElem?_append_right (by omega), hl, Nat.sub_self]
    rfl
  · by_cases h : kk < k
    · refine ⟨k - 1, by rw [if_pos h], by omega, ?_⟩
      rw [List.getD_eq_getElem?_getD, List.getD_eq_getElem?_getD, List.getElem?_append_right (by omega), hl]
      obtain ⟨d, rfl⟩ : ∃ d, k = kk + 1 + d := ⟨k - kk - 1, by omega⟩
      rw [show kk + 1 + d - kk = d + 1 by omega, List.getElem?_cons_succ, List.getElem?_drop, show kk + 1 + d - 1 = kk + d by omega]
    · refine ⟨k, by rw [if_neg h], by omega, ?_⟩
      rw [List.getD_eq_getElem?_getD, List.getD_eq_getElem?_getD, List.getElem?_append_left (by omega), List.getElem?_take_of_lt (by omega)]
set_option linter.unusedSimpArgs false in
set_option maxHeartbeats 8000000 in
theorem deadParts_at (a : Option Addr) (n c : Nat) (L : List Pt) (p : Pt) (af : Nat) (w : World) (hL : Pts w w.heap.size a n c L) (hp : WfP p) (haf : af < 4294967296) :
    Calls Try.prog 4 #[.slice a n c, ptV p, .int .u32 (af : Int)] w fun e w' => e = .returned (.bool true) ∧ Below w.heap.size w w' := by
  have hmx : Try.prog.follows Departure.mixedOrders = true := by kernel_rfl
  have HWP := Lib.hid hp
  obtain ⟨pa, pb, pi, pt, ps⟩ := p
  obtain ⟨w0, hw0⟩ : ∃ w0, w.alloc (.cells (ptC (pa, pb, pi, pt, ps)).toArray 25) = w0 := ⟨_, rfl⟩
  obtain ⟨g, hg⟩ : ∃ g, w.heap.size = g := ⟨_, rfl⟩
  have hb0 : Below w.heap.size w w0 := by rw [← hw0]; exact (Below.refl _ w).alloc (Nat.le_refl _) _
  have hk0 : Blk w0 w.heap.size 25 (ptC (pa, pb, pi, pt, ps)).toArray := by rw [← hw0]; exact Blk.new w _ _
  have HA := Lib.hid (hL.step hb0)
  have HB := Lib.hid hb0
  rw [hg] at hk0
  have HK := Lib.hid hk0
  have n0 : (0 : Int) ≤ n := by omega
  have LA := Lib.hid hL.1
  have HWL := Lib.hid (fun q (hq : q ∈ L) => hL.wf hq)
  have HAF := Lib.hid haf
  have af0 : (0 : Int) ≤ (af : Int) := by omega
  have af9 : (af : Int) ≤ 4294967295 := by omega
  simp only [ptC] at hw0
  clear hL hp hb0 hk0 haf
  by_cases q0 : n ≤ 1000
  · by_cases hm : MayDL L
    · have d0a : decide ((n : Int) > 1000) = false := decide_eq_false (by omega)
      have d0b : decide ((1000 : Int) < (n : Int)) = false := decide_eq_false (by omega)
      have HS1 := Lib.hid (show splitO L af = (oldD af L, youngD af L, 0) by unfold splitO; rw [if_pos hm])
      have hmO : MayDL (oldD af L) := mayDL_filter hm fun p => decide (p.2.1 ≤ af)
      have hmY : MayDL (youngD af L) := mayDL_filter hm fun p => decide (af < p.2.1)
      have HSJ := Lib.hid (split_join af hm)
      have heo : ∀ k, k < (oldD af L).length → ((oldD af L).getD k p0).2.1 ≤ af := fun k hk => by
        rw [ddGetD hk]
        exact of_decide_eq_true (List.mem_filter.1 (List.getElem_mem hk)).2
      have hey : ∀ k, k < (youngD af L).length → af < ((youngD af L).getD k p0).2.1 := fun k hk => by
        rw [ddGetD hk]
        exact of_decide_eq_true (List.mem_filter.1 (List.getElem_mem hk)).2
      obtain ⟨O, hO⟩ : ∃ X, oldD af L = X := ⟨_, rfl⟩
      obtain ⟨Y, hY⟩ : ∃ X, youngD af L = X := ⟨_, rfl⟩
      rw [hO] at HS1 HSJ hmO heo
      rw [hY] at HS1 HSJ hmY hey
      have HMAY := Lib.hid hm
      have HMO := Lib.hid hmO
      have HMY := Lib.hid hmY
      have HEO0 := Lib.hid heo
      have HEY0 := Lib.hid hey
      clear hmO hmY hO hY heo hey
      go_enter Try.func4, Try.ntmps4
      go_wp2_with fail
      try rw [hw0]
      try rw [hg]
      clear hw0 hg
      refine (ddAlive_any w0).mono ?_
      rintro ev w1 ⟨rfl, b1⟩
      replace HA := Lib.hid (HA.out.step b1)
      replace HK := Lib.hid (HK.out.below b1 HK.out.lt)
      replace HB := Lib.hid (HB.out.trans (b1.mono HB.out.size))
      clear b1
      have hck := ddCheck_any a n c L w1 HA.out
      have hcv : checkDO L = 0 := by unfold checkDO; rw [if_pos hm]
      rw [hcv] at hck
      have CK := Lib.hid hck
      clear hck hcv
      clear hm
      go_wp2_with fail
      refine (CK.out).mono ?_
      rintro ev w2 ⟨rfl, b2⟩
      replace HA := Lib.hid (HA.out.step b2)
      replace HK := Lib.hid (HK.out.below b2 HK.out.lt)
      replace HB := Lib.hid (HB.out.trans (b2.mono HB.out.size))
      clear CK
      clear b2
      have SP := Lib.hid (ddSplit_any a n c L af w2 HA.out HAF.out)
      rw [HS1.out] at SP
      go_wp2_with fail
      refine (SP.out).mono ?_
      rintro ev w3 ⟨v3, u3, rfl, hv3, hu3, _, b3⟩
      replace HA := Lib.hid (HA.out.step b3)
      replace HK := Lib.hid (HK.out.below b3 HK.out.lt)
      replace HB := Lib.hid (HB.out.trans (b3.mono HB.out.size))
      obtain ⟨aO, cO, rfl, htO⟩ := hv3.pts
      have TO := Lib.hid htO
      clear htO
      obtain ⟨aY, cY, rfl, htY⟩ := hu3.pts
      have TY := Lib.hid htY
      clear htY
      clear hv3 hu3 SP
      obtain ⟨lo, hlo⟩ : ∃ q, O.length = q := ⟨_, rfl⟩
      obtain ⟨ly, hly⟩ : ∃ q, Y.length = q := ⟨_, rfl⟩
      have HEO := Lib.hid (fun k (hk : k < lo) => HEO0.out k (by rw [hlo]; exact hk))
      have HEY := Lib.hid (fun k (hk : k < ly) => HEY0.out k (by rw [hly]; exact hk))
      have HLO := Lib.hid hlo
      have HLY := Lib.hid hly
      rw [hlo] at TO ⊢
      rw [hly] at TY ⊢
      have lo9 : lo ≤ 240 := by rw [← hlo]; exact HMO.out.1
      have ly9 : ly ≤ 240 := by rw [← hly]; exact HMY.out.1
      clear hlo hly HEO0 HEY0
      clear b3
      have JN := Lib.hid (ddJoin_any _ _ _ Y _ _ _ O w3 TY.out TO.out)
      rw [HSJ.out] at JN
      go_wp2_with fail
      refine (JN.out).mono ?_
      rintro ev w4 ⟨v4, rfl, hr4, b4⟩
      replace HA := Lib.hid (HA.out.step b4)
      replace HK := Lib.hid (HK.out.below b4 HK.out.lt)
      replace TO := Lib.hid (TO.out.step b4)
      replace TY := Lib.hid (TY.out.step b4)
      replace HB := Lib.hid (HB.out.trans (b4.mono HB.out.size))
      obtain ⟨aJ, cJ, rfl, htJ⟩ := hr4.pts
      have TJ := Lib.hid htJ
      clear htJ
      clear hr4 JN
      clear b4
      have hll : decide (L = L) = true := decide_eq_true rfl
      have SM := Lib.hid (dlSame_any _ _ _ L _ _ _ L w4 TJ.out HA.out)
      rw [hll] at SM
      clear hll
      go_wp2_with fail
      refine (SM.out).mono ?_
      rintro ev w5 ⟨rfl, b5⟩
      replace HA := Lib.hid (HA.out.step b5)
      replace HK := Lib.hid (HK.out.below b5 HK.out.lt)
      replace TO := Lib.hid (TO.out.step b5)
      replace TY := Lib.hid (TY.out.step b5)
      replace TJ := Lib.hid (TJ.out.step b5)
      replace HB := Lib.hid (HB.out.trans (b5.mono HB.out.size))
      clear SM
      clear b5
      have hck := ddCheck_any _ _ _ O w5 TO.out
      have hcv : checkDO O = 0 := by unfold checkDO; rw [if_pos HMO.out]
      rw [hcv] at hck
      have CK := Lib.hid hck
      clear hck hcv
      go_wp2_with fail
      refine (CK.out).mono ?_
      rintro ev w6 ⟨rfl, b6⟩
      replace HA := Lib.hid (HA.out.step b6)
      replace HK := Lib.hid (HK.out.below b6 HK.out.lt)
      replace TO := Lib.hid (TO.out.step b6)
      replace TY := Lib.hid (TY.out.step b6)
      replace TJ := Lib.hid (TJ.out.step b6)
      replace HB := Lib.hid (HB.out.trans (b6.mono HB.out.size))
      clear CK
      clear b6
      have hck := ddCheck_any _ _ _ Y w6 TY.out
      have hcv : checkDO Y = 0 := by unfold checkDO; rw [if_pos HMY.out]
      rw [hcv] at hck
      have CK := Lib.hid hck
      clear hck hcv
      go_wp2_with fail
      refine (CK.out).mono ?_
      rintro ev w7 ⟨rfl, b7⟩
      replace HA := Lib.hid (HA.out.step b7)
      replace HK := Lib.hid (HK.out.below b7 HK.out.lt)
      replace TO := Lib.hid (TO.out.step b7)
      replace TY := Lib.hid (TY.out.step b7)
      replace TJ := Lib.hid (TJ.out.step b7)
      replace HB := Lib.hid (HB.out.trans (b7.mono HB.out.size))
      clear CK
      clear b7
      have l0 : (0 : Int) ≤ (lo : Int) := by omega
      have l1 : (lo : Int) ≤ 240 := by omega
      have l2 : (0 : Int) ≤ (ly : Int) := by omega
      have l3 : (ly : Int) ≤ 240 := by omega
      clear TJ HS1 HSJ
      go_wp2_with fail
      go_loopw [13] (fun i wr => ∃ k : Nat, k ≤ lo ∧ i = .int .i64 k ∧ w7 = wr) (fun i _ => lo - (intOf i).toNat)
      case atStart => exact ⟨0, Nat.zero_le _, rfl, rfl⟩
      case round =>
        obtain ⟨k, hk, rfl, rfl⟩ := hrel
        have k0 : (0 : Int) ≤ k := by omega
        by_cases hlt : k < lo
        · have k1 : (k : Int) < lo := by omega
          obtain ⟨b2, o2, ea, _, _, v0_, v1_, _, _, _⟩ := TO.out.cells k hlt
          obtain ⟨z, hz⟩ : ∃ z, (O.getD k p0).2.1 = z := ⟨_, rfl⟩
          have hzz : z ≤ af := by rw [← hz]; exact HEO.out k hlt
          rw [hz] at v1_
          subst ea
          have f0 : decide ((z : Int) > (af : Int)) = false := decide_eq_false (by omega)
          have f1 : decide (z > af) = false := decide_eq_false (by omega)
          have f2 : decide ((af : Int) < (z : Int)) = false := decide_eq_false (by omega)
          have f3 : decide (af < z) = false := decide_eq_false (by omega)
          clear hz hzz
          go_wp2_with fail
          clear v0_ v1_ f0 f1 f2 f3
          go_roundw
          case rel => exact ⟨k + 1, by omega, by go_num, trivial⟩
          case measure => simp [intOf]; omega
        · obtain rfl : k = lo := by omega
          clear hlt hk
          go_wp2_with fail
          go_loopw [14] (fun i wr => ∃ k : Nat, k ≤ ly ∧ i = .int .i64 k ∧ w7 = wr) (fun i _ => ly - (intOf i).toNat)
          case atStart => exact ⟨0, Nat.zero_le _, rfl, rfl⟩
          case round =>
            obtain ⟨k, hk, rfl, rfl⟩ := hrel
            have k0 : (0 : Int) ≤ k := by omega
            by_cases hlt : k < ly
            · have k1 : (k : Int) < ly := by omega
              obtain ⟨b2, o2, ea, _, _, v0_, v1_, _, _, _⟩ := TY.out.cells k hlt
              obtain ⟨z, hz⟩ : ∃ z, (Y.getD k p0).2.1 = z := ⟨_, rfl⟩
              have hzz : af < z := by rw [← hz]; exact HEY.out k hlt
              rw [hz] at v1_
              subst ea
              have f0 : decide ((z : Int) ≤ (af : Int)) = false := decide_eq_false (by omega)
              have f1 : decide (z ≤ af) = false := decide_eq_false (by omega)
              have f2 : decide ((af : Int) ≥ (z : Int)) = false := decide_eq_false (by omega)
              have f3 : decide (af ≥ z) = false := decide_eq_false (by omega)
              clear hz hzz
              go_wp2_with fail
              clear v0_ v1_ f0 f1 f2 f3
              go_roundw
              case rel => exact ⟨k + 1, by omega, by go_num, trivial⟩
              case measure => simp [intOf]; omega
            · obtain rfl : k = ly := by omega
              clear hlt hk
              obtain ⟨c0, c1, c2, c3, c4⟩ := HK.out.five
              go_wp2_with fail
              obtain ⟨⟨M, e⟩, hM⟩ : ∃ o, addO L (pa, pb, pi, pt, ps) = o := ⟨_, rfl⟩
              have AD := Lib.hid (ddAdd_any a n c L (pa, pb, pi, pt, ps) w7 HA.out HWP.out)
              rw [hM] at AD
              have HM := Lib.hid hM
              clear hM
              refine (AD.out).mono ?_
              rintro ev w8 ⟨v9, rfl, hr9, b8⟩
              replace HA := Lib.hid (HA.out.step b8)
              replace HK := Lib.hid (HK.out.below b8 HK.out.lt)
              replace TO := Lib.hid (TO.out.step b8)
              replace TY := Lib.hid (TY.out.step b8)
              replace HB := Lib.hid (HB.out.trans (b8.mono HB.out.size))
              obtain ⟨aM, cM, rfl, htM⟩ := hr9.pts
              have TM := Lib.hid htM
              clear htM
              clear hr9 AD c0 c1 c2 c3 c4
              clear b8
              obtain ⟨lm, hlm⟩ : ∃ q, M.length = q := ⟨_, rfl⟩
              have HLM := Lib.hid hlm
              rw [hlm] at TM ⊢
              clear hlm
              rcases addO_cases L (pa, pb, pi, pt, ps) with ⟨e', h9, hne⟩ | ⟨h9, _, _, hna, hln, hmm⟩
              · rw [HM.out] at h9
                injection h9 with h9 h8
                subst h8
                have e1 : ((e : Int) != 0) = true := by simp; omega
                have x0 : ((lm : Int) == 0) = true := by have := HLM.out; rw [h9] at this; subst this; rfl
                clear h9 hne HM
                go_wp2_with fail
                go_ret
                exact ⟨rfl, HB.out⟩
              · rw [HM.out] at h9
                injection h9 with h9 h8
                subst h8
                subst h9
                have e1 : ((0 : Int) != 0) = false := rfl
                have e1n : (((0 : Nat) : Int) != 0) = false := rfl
                obtain ⟨kk, hkk, hsl⟩ := inDL_split L (pa, pb, pi, pt, ps)
                rw [LA.out] at hkk hln
                have hlm : lm = n + 1 := by rw [← HLM.out, inDL_length, LA.out]
                subst hlm
                have HMM := Lib.hid hmm
                have HSL := Lib.hid hsl
                have HNA := Lib.hid hna
                have m0 : (0 : Int) ≤ ((n + 1 : Nat) : Int) := by omega
                have n9 : (n : Int) ≤ 240 := by omega
                clear hmm hsl hna HM
                go_wp2_with fail
                go_loopw [17, 18, 19] (fun x y i wr => ∃ k : Nat, k ≤ n + 1 ∧ i = .int .i64 k ∧ x = .int .i64 ((if kk < k then k - 1 else k : Nat) : Int) ∧ y = .int .i64 ((if kk < k then 1 else 0 : Nat) : Int) ∧ Below w8.heap.size w8 wr) (fun _ _ i _ => n + 1 - (intOf i).toNat)
                case atStart => exact ⟨0, Nat.zero_le _, rfl, by rw [if_neg (by omega)]; rfl, by rw [if_neg (by omega)]; rfl, Below.refl _ _⟩
                case round =>
                  obtain ⟨k, hk, rfl, rfl, rfl, hbz⟩ := hrel
                  have k0 : (0 : Int) ≤ k := by omega
                  have TMR := Lib.hid (TM.out.step hbz)
                  have HAR := Lib.hid (HA.out.step hbz)
                  have HKR := Lib.hid (HK.out.below hbz HK.out.lt)
                  have HBR := Lib.hid (HB.out.trans (hbz.mono HB.out.size))
                  have HBZ := Lib.hid hbz
                  clear hbz
                  by_cases hlt : k < n + 1
                  · have k1 : (k : Int) < ((n + 1 : Nat) : Int) := by omega
                    have k1b : (k : Int) < (n : Int) + 1 := by omega
                    obtain ⟨bm, om, eam, _, _, v0_, v1_, v2_, v3_, v4_⟩ := TMR.out.cells k hlt
                    subst eam
                    obtain ⟨c0, c1, c2, c3, c4⟩ := HKR.out.five
                    have hgk := at_split (kk := kk) (k := k) HSL.out (by rw [LA.out]; exact hkk) (by rw [LA.out]; exact hlt)
                    by_cases hkk1 : k = kk
                    · subst hkk1
                      have hP : (inDL L (pa, pb, pi, pt, ps)).getD k p0 = (pa, pb, pi, pt, ps) := hgk.1 rfl
                      rw [hP] at v0_ v1_ v2_ v3_ v4_
                      simp only at v0_ v1_ v2_ v3_ v4_
                      have heq : eqP (pa, pb, pi, pt, ps) (pa, pb, pi, pt, ps) = true := decide_eq_true rfl
                      have hlit := eqPt_lit pa pb pi pt ps pa pb pi pt ps
                      rw [heq] at hlit
                      rw [if_neg (Nat.lt_irrefl k), if_neg (Nat.lt_irrefl k)]
                      clear hP heq hgk
                      go_wp2_with fail
                      go_quiet (fail)
                      go_wp2_with fail
                      clear v0_ v1_ v2_ v3_ v4_ c0 c1 c2 c3 c4 hlit
                      go_roundw
                      case rel => exact ⟨k + 1, by omega, by go_num, by rw [if_pos (by omega)]; go_num, by rw [if_pos (by omega)]; go_num, below_drewN HBZ.out _⟩
                      case measure => simp [intOf]; omega
                    · obtain ⟨t, ht, htn, hgt⟩ := hgk.2 hkk1
                      rw [LA.out] at htn
                      rw [← ht] at ⊢
                      have hx2 : (if kk < k then 1 else 0 : Nat) = if kk < k then 1 else 0 := rfl
                      obtain ⟨f, hf⟩ : ∃ f : Nat, (if kk < k then 1 else 0 : Nat) = f := ⟨_, rfl⟩
                      rw [hf]
                      have hf9 : f ≤ 1 := by rw [← hf]; split <;> omega
                      obtain ⟨ba, oa, eaa, _, hwq, u0_, u1_, u2_, u3_, u4_⟩ := HAR.out.cells t htn
                      subst eaa
                      obtain ⟨⟨ya, yb, yi, yt, ys⟩, hQ⟩ : ∃ P, L.getD t p0 = P := ⟨_, rfl⟩
                      have hne : ((ya, yb, yi, yt, ys) : Pt) ≠ (pa, pb, pi, pt, ps) := fun e => HNA.out ⟨(ya, yb, yi, yt, ys), by rw [← hQ, ddGetD (by rw [LA.out]; exact htn)]; exact List.getElem_mem _, by rw [e]⟩
                      rw [hgt, hQ] at v0_ v1_ v2_ v3_ v4_
                      rw [hQ] at u0_ u1_ u2_ u3_ u4_
                      simp only at v0_ v1_ v2_ v3_ v4_ u0_ u1_ u2_ u3_ u4_
                      have heq : eqP (ya, yb, yi, yt, ys) (pa, pb, pi, pt, ps) = false := decide_eq_false hne
                      have heq2 : eqP (ya, yb, yi, yt, ys) (ya, yb, yi, yt, ys) = true := decide_eq_true rfl
                      have hlit := eqPt_lit ya yb yi yt ys pa pb pi pt ps
                      have hlit2 := eqPt_lit ya yb yi yt ys ya yb yi yt ys
                      rw [heq] at hlit
                      rw [heq2] at hlit2
                      have t0 : (0 : Int) ≤ (t : Int) := by omega
                      have t1 : (t : Int) < n := by omega
                      have t2 : decide ((t : Int) ≥ (n : Int)) = false := decide_eq_false (by omega)
                      have t3 : decide ((n : Int) ≤ (t : Int)) = false := decide_eq_false (by omega)
                      have HT := Lib.hid ht
                      have HF := Lib.hid hf
                      have HKK := Lib.hid hkk1
                      clear heq heq2 hne hQ hgk hwq hgt ht hf hx2 hkk1
                      go_wp2_with fail
                      go_quiet (fail)
                      go_wp2_with fail
                      go_quiet (fail)
                      go_wp2_with fail
                      clear v0_ v1_ v2_ v3_ v4_ c0 c1 c2 c3 c4 u0_ u1_ u2_ u3_ u4_ hlit hlit2 t2 t3
                      go_roundw
                      case rel =>
                        have ht := HT.out
                        have hf := HF.out
                        have hkk1 := HKK.out
                        refine ⟨k + 1, by omega, by go_num, ?_, ?_, below_drewN HBZ.out _⟩
                        · by_cases h : kk < k
                          · rw [if_pos h] at ht
                            rw [if_pos (by omega)]
                            have : k + 1 - 1 = t + 1 := by omega
                            rw [this]
                            go_num
                          · rw [if_neg h] at ht
                            rw [if_neg (by omega)]
                            have : k + 1 = t + 1 := by omega
                            rw [this]
                            go_num
                        · by_cases h : kk < k
                          · rw [if_pos h] at hf
                            rw [if_pos (by omega), hf]
                          · rw [if_neg h] at hf
                            rw [if_neg (by omega), hf]
                      case measure => simp [intOf]; omega
                  · obtain rfl : k = n + 1 := by omega
                    have i1 : (if kk < n + 1 then n + 1 - 1 else n + 1 : Nat) = n := by rw [if_pos (by omega)]; omega
                    have i2 : (if kk < n + 1 then 1 else 0 : Nat) = 1 := by rw [if_pos (by omega)]
                    rw [i1, i2]
                    clear hlt hk i1 i2
                    have hck := ddCheck_any _ _ _ (inDL L (pa, pb, pi, pt, ps)) wr TMR.out
                    have hcv : checkDO (inDL L (pa, pb, pi, pt, ps)) = 0 := by unfold checkDO; rw [if_pos HMM.out]
                    rw [hcv] at hck
                    have CK := Lib.hid hck
                    clear hck hcv
                    go_wp2_with fail
                    refine CK.out.mono ?_
                    rintro ev wy ⟨rfl, by9⟩
                    replace HBR := Lib.hid (HBR.out.trans (by9.mono HBR.out.size))
                    clear by9 CK
                    go_wp2_with fail
                    go_ret
                    exact ⟨rfl, HBR.out⟩
    · have d0a : decide ((n : Int) > 1000) = false := decide_eq_false (by omega)
      have d0b : decide ((1000 : Int) < (n : Int)) = false := decide_eq_false (by omega)
      go_enter Try.func4, Try.ntmps4
      go_wp2_with fail
      try rw [hw0]
      try rw [hg]
      clear hw0 hg
      refine (ddAlive_any w0).mono ?_
      rintro ev w1 ⟨rfl, b1⟩
      replace HA := Lib.hid (HA.out.step b1)
      replace HK := Lib.hid (HK.out.below b1 HK.out.lt)
      replace HB := Lib.hid (HB.out.trans (b1.mono HB.out.size))
      clear b1
      have hck := ddCheck_any a n c L w1 HA.out
      have hcv : checkDO L = 8 := by unfold checkDO; rw [if_neg hm]
      rw [hcv] at hck
      have CK := Lib.hid hck
      clear hck hcv
      clear hm
      go_wp2_with fail
      refine (CK.out).mono ?_
      rintro ev w2 ⟨rfl, b2⟩
      replace HA := Lib.hid (HA.out.step b2)
      replace HK := Lib.hid (HK.out.below b2 HK.out.lt)
      replace HB := Lib.hid (HB.out.trans (b2.mono HB.out.size))
      clear CK
      clear b2
      go_wp2_with fail
      go_ret
      exact ⟨rfl, HB.out⟩
  · have d0a : decide ((n : Int) > 1000) = true := decide_eq_true (by omega)
    have d0b : decide ((1000 : Int) < (n : Int)) = true := decide_eq_true (by omega)
    go_enter Try.func4, Try.ntmps4
    go_wp2_with fail
    try rw [hw0]
    try rw [hg]
    clear hw0 hg
    refine (ddAlive_any w0).mono ?_
    rintro ev w1 ⟨rfl, b1⟩
    replace HA := Lib.hid (HA.out.step b1)
    replace HK := Lib.hid (HK.out.below b1 HK.out.lt)
    replace HB := Lib.hid (HB.out.trans (b1.mono HB.out.size))
    clear b1
    go_wp2_with fail
    go_ret
    exact ⟨rfl, HB.out⟩
theorem deadParts_walk (a0 : Option Addr) (len0 cap0 : Nat) (L0 : List Pt) (p1 : Pt) (a2 : Int) (w : World) (h0 : Pts w w.heap.size a0 len0 cap0 L0) (w1 : WfP p1) (w2 : (Lit.int .u32 a2).wf = true) :
    Calls Try.prog 4 #[.slice a0 len0 cap0, ptV p1, .int .u32 a2] w fun e w' => e = .returned (.bool true) ∧ Below w.heap.size w w' := by
  obtain ⟨o2, rfl, h2⟩ := u32_wf w2
  exact deadParts_at a0 len0 cap0 L0 p1 o2 w h0 w1 h2
end Go.Proofs.Ytadffkfalclpjaa
namespace Go.Proofs.Ytadffkfalclpjaa.deadParts
open Go.ChangeShapes Go.WideShapes Go.ChangeAt Go.RowKit
set_option linter.unusedVariables false

theorem own : ownKnob Try.prog.godebug = none := by kernel_rfl
theorem laidOut : laidOutB Try.prog = true := by kernel_rfl

set_option maxRecDepth 100000 in
theorem lifted (os : Os) (started : os.Started) (H : Type) (enc : TypeId × Value → H) :
    ReturnsInHanded {} Try.checked os 4 .any (Rows.deadPartsSpec.pre6 enc Try.prog Try.f4 Rows.deadPartsRow.domain false) (Rows.deadPartsSpec.post enc Try.prog Try.f4 false true false false) := by
  refine returnsInHanded_of_change (C := Try.checked) own started (by kernel_rfl) Try.func4
    (ChangeSpec.witness6 (enc := enc) (C := Try.checked) false ⟨#[], #[.slice none 0 0, .agg #[.int .i64 0, .int .u32 0, .int .u32 0, .int .u32 0, .int .u32 0], .int .u32 0], []⟩ 8 (by kernel_rfl) (by kernel_rfl) (by kernel_rfl) (by kernel_rfl)) ?_
  intro W base args ds gs before hval0 hW hcnd _
  have hval : ∀ (j : Nat) t v, Try.f4.params[j]? = some t → args[j]? = some v → Value.okWide Try.prog W .any base t v := hval0
  have hW' := hW
  obtain ⟨p, q, hA0, hV, rfl, hfz, hnd⟩ := hW
  have hA : DataW.TrodAll enc Try.prog W 0 (fun _ => true) true Try.f4.params.toList args.toList ds p := hA0
  rw [Try.params4] at hA hval
  obtain ⟨v0, vs0, d0, ds0, p0, q0, hargs, rfl, rfl, h0, r0⟩ := trodAll_cons hA
  obtain ⟨v1, vs1, d1, ds1, p1, q1, rfl, rfl, rfl, h1, r1⟩ := trodAll_cons r0
  obtain ⟨v2, vs2, d2, ds2, p2, q2, rfl, rfl, rfl, h2, r2⟩ := trodAll_cons r1
  obtain ⟨rfl, rfl, rfl⟩ := trodAll_nil r2
  obtain rfl : args = #[v0, v1, v2] := by cases args; simp_all
  obtain ⟨rfl, rfl⟩ := trodVars_none hV
  obtain ⟨a0, len0, cap0, rfl⟩ := okWide_slice Try.underlying22 (hval 0 22 v0 rfl rfl)
  have k0 := h0
  have lt0 : ∀ x ∈ p0, x.block < W.heap.size := by obtain ⟨m, hm⟩ := k0; exact DataW.trod_lt m _ _ _ hm
  obtain ⟨L0, w0⟩ := open_ptrs h0
  have k1 := h1
  have lt1 : ∀ x ∈ p1, x.block < W.heap.size := by obtain ⟨m, hm⟩ := k1; exact DataW.trod_lt m _ _ _ hm
  obtain ⟨z1, rfl, w1⟩ := open_ptr (hval 1 25 v1 rfl rfl) h1
  obtain ⟨a2, rfl, rfl, rfl, w2⟩ := open_int Try.underlying23 (hval 2 23 v2 rfl rfl) h2
  clear hA0 hval0
  refine (deadParts_walk a0 len0 cap0 L0 z1 a2 W w0 w1 w2).mono fun e W' ⟨he, bel⟩ => ?_
  subst he
  exact ⟨_, rfl, _, _, _, [], _, [], hW', trodAll_mk1 (shut_bool Try.underlying4 _), (trodAll_cons_mk (Below.trod laidOut (by kernel_rfl) (of_decide_eq_true (by kernel_rfl)) k0 bel lt0) (trodAll_cons_mk (Below.trod laidOut (by kernel_rfl) (of_decide_eq_true (by kernel_rfl)) k1 bel lt1) (trodAll_cons_mk (shut_int Try.underlying23 w2) trodAll_mk0))), rfl, bel.frame _, fun h => by cases h⟩

theorem over : Rows.deadPartsRow.holds Try.pinned (OpenSpec.ofChange Rows.deadPartsSpec) :=
  OpenClaim.holds_of_wide 4 Try.f4 rfl rfl rfl rfl rfl rfl rfl ⟨rfl, rfl, rfl, rfl, rfl⟩ rfl rfl rfl rfl rfl (by kernel_rfl) Try.func4 (by kernel_rfl)
    (of_decide_eq_true (by kernel_rfl)) (by unfold Func.isWrapper; first | (rw [if_pos (by decide +kernel)]; kernel_rfl) | (rw [if_neg (by decide +kernel)]; exact ⟨rfl, rfl⟩))
    (fun os started H enc _ => lifted os started H enc)

/-- The statement. -/
theorem proved : Rows.DeadPartsSaid := over
end Go.Proofs.Ytadffkfalclpjaa.deadParts
