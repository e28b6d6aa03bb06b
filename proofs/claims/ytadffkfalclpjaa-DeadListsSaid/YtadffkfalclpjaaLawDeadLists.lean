/-
  DeadListsSaid: for any two lists (of more than 1,000 pointers the law itself answers true), pointer and sync Check, Add, Split and Join answer what the document's own answer, what is handed in stays, and what is answered is new memory. No condition.
-/
import Derived.Test.YtadffkfalclpjaaRows
import Derived.Test.YtadffkfalclpjaaLawDeadA
import Derived.Test.YtadffkfalclpjaaLawDeadSp
import Derived.Test.YtadffkfalclpjaaDdSplit
import Derived.Test.YtadffkfalclpjaaRuB
import Derived.Test.YtadffkfalclpjaaRpE
namespace Go.Proofs.Ytadffkfalclpjaa
open Go.RowKit Go.Shelf
set_option maxRecDepth 100000

theorem pts_of_row {w : World} {B n c : Nat} {a : Option Addr} {l : List Pt} (h : PRow w B (.slice a n c) l) (hl : l.length = n) : Pts w w.heap.size a n c l := by
  obtain ⟨a', c', e, h'⟩ := h.pts
  injection e with e1 e2 e3
  subst e1
  subst e3
  rw [hl] at h'
  exact h'
theorem lists_short {L M : List Pt} {n m af e f h : Nat} {p : Pt} {A S Y J : List Pt} (hn : L.length = n) (hm : M.length = m) (n9 : n ≤ 1000) (hA : addO L p = (A, e)) (hS : splitO L af = (S, Y, f)) (hJ : joinO L M = (J, h)) : A.length ≤ 1000000 ∧ S.length ≤ 1000000 ∧ Y.length ≤ 1000000 ∧ J.length ≤ 1000000 := by
  refine ⟨?_, ?_, ?_, ?_⟩
  · rcases addO_cases L p with ⟨e', h', _⟩ | ⟨h', _⟩
    · rw [hA] at h'; injection h' with h' _; rw [h']; exact Nat.zero_le _
    · rw [hA] at h'; injection h' with h' _; rw [h', inDL_length]; omega
  · unfold splitO at hS
    split at hS
    · injection hS with h' _; rw [← h']; have := List.length_filter_le (fun p : Pt => decide (p.2.1 ≤ af)) L; unfold oldD; omega
    · injection hS with h' _; rw [← h']; exact Nat.zero_le _
  · unfold splitO at hS
    split at hS
    · injection hS with _ h'; injection h' with h' _; rw [← h']; have := List.length_filter_le (fun p : Pt => decide (af < p.2.1)) L; unfold youngD; omega
    · injection hS with _ h'; injection h' with h' _; rw [← h']; exact Nat.zero_le _
  · rcases joinO_cases L M with ⟨e', h', _⟩ | ⟨h', _, _, _, hl, _⟩
    · rw [hJ] at h'; injection h' with h' _; rw [h']; exact Nat.zero_le _
    · rw [hJ] at h'; injection h' with h' _; rw [h', bothD_length]; omega
set_option linter.unusedSimpArgs false in
set_option maxHeartbeats 8000000 in
theorem deadLists_at (a : Option Addr) (n c : Nat) (L : List Pt) (b : Option Addr) (m d : Nat) (M : List Pt) (p : Pt) (af : Nat) (w : World) (hL : Pts w w.heap.size a n c L) (hM : Pts w w.heap.size b m d M) (hp : WfP p) (haf : af < 4294967296) :
    Calls Try.prog 3 #[.slice a n c, .slice b m d, ptV p, .int .u32 (af : Int)] w fun e w' => e = .returned (.bool true) ∧ Below w.heap.size w w' := by
  have HWP := Lib.hid hp
  obtain ⟨pa, pb, pi, pt, ps⟩ := p
  obtain ⟨w0, hw0⟩ : ∃ w0, w.alloc (.cells (ptC (pa, pb, pi, pt, ps)).toArray 25) = w0 := ⟨_, rfl⟩
  obtain ⟨g, hg⟩ : ∃ g, w.heap.size = g := ⟨_, rfl⟩
  have hb0 : Below w.heap.size w w0 := by rw [← hw0]; exact (Below.refl _ w).alloc (Nat.le_refl _) _
  have hk0 : Blk w0 w.heap.size 25 (ptC (pa, pb, pi, pt, ps)).toArray := by rw [← hw0]; exact Blk.new w _ _
  have HA0 := Lib.hid (hL.step hb0)
  have HC0 := Lib.hid (hM.step hb0)
  have HB := Lib.hid hb0
  rw [hg] at hk0
  have HK0 := Lib.hid hk0
  have n0 : (0 : Int) ≤ n := by omega
  have m0 : (0 : Int) ≤ m := by omega
  have LA := Lib.hid hL.1
  have LM := Lib.hid hM.1
  have HAF := Lib.hid haf
  have af0 : (0 : Int) ≤ (af : Int) := by omega
  have af9 : (af : Int) ≤ 4294967295 := by omega
  simp only [ptC] at hw0
  clear hL hM hp hb0 hk0 haf
  by_cases d0n : n ≤ 1000
  · by_cases d1n : m ≤ 1000
    · have d0a : decide ((n : Int) > 1000) = false := decide_eq_false (by omega)
      have d0b : decide ((1000 : Int) < (n : Int)) = false := decide_eq_false (by omega)
      have d1a : decide ((m : Int) > 1000) = false := decide_eq_false (by omega)
      have d1b : decide ((1000 : Int) < (m : Int)) = false := decide_eq_false (by omega)
      have HSN := Lib.hid (show ([] : List Pt).length + n ≤ 1000000 by show 0 + n ≤ 1000000; omega)
      have HSM := Lib.hid (show ([] : List Pt).length + m ≤ 1000000 by show 0 + m ≤ 1000000; omega)
      have H0 := Lib.hid (Below.refl w0.heap.size w0)
      go_enter Try.func3, Try.ntmps3
      go_wp2_with (first
        | (at_builtin
           refine wpList_append_prow rfl (.const (.slice none 0 0)) (.tmp 33) rfl w0.heap.size _ [] rfl (prow_nil _ _) _ _ _ _ L rfl HA0.out HSN.out (Nat.le_refl _) ?_
           intro v1 w1 hp1 hg1
           have hz1 : Below w0.heap.size w0 w1 := below_grown0 hg1
           have H1 := Lib.hid hz1
           have HP1 := Lib.hid hp1
           clear hp1 hg1 hz1)
        | (at_builtin
           refine wpList_append_prow rfl (.const (.slice none 0 0)) (.tmp 35) rfl w0.heap.size _ [] rfl (prow_nil _ _) _ _ _ _ M rfl (HC0.out.step H1.out) HSM.out H1.out.size ?_
           intro v3 w3 hp3 hg3
           have hz3 : Below w1.heap.size w1 w3 := below_grown0 hg3
           have H3 := Lib.hid hz3
           have HP3 := Lib.hid hp3
           obtain ⟨ao, co, rfl, _⟩ := HP1.out.pts
           obtain ⟨am, cm, rfl, _⟩ := HP3.out.pts
           simp only [List.nil_append, LA.out, LM.out] at HP1 HP3 ⊢
           replace H0 := Lib.hid (H1.out.trans (H3.out.mono H1.out.size))
           replace HB := Lib.hid (HB.out.trans (H0.out.mono HB.out.size))
           obtain ⟨c0, c1, c2, c3, c4⟩ := (HK0.out.below H0.out HK0.out.lt).five
           clear hp3 hg3 hz3))
      try rw [hw0]
      try rw [hg]
      clear hw0 hg
      clear c0 c1 c2 c3 c4
      have TO0 := Lib.hid (pts_of_row (HP1.out.below H3.out) LA.out)
      have TM0 := Lib.hid (pts_of_row HP3.out LM.out)
      have HLZ := Lib.hid (show w.heap.size ≤ w3.heap.size from HB.out.size)
      have HLZ0 := Lib.hid (show w0.heap.size ≤ w3.heap.size from H0.out.size)
      have HZ := Lib.hid (Below.refl w3.heap.size w3)
      clear HP1 HP3 H1 H3 HSN HSM
      obtain ⟨⟨AX, e⟩, hA⟩ : ∃ o, addO L (pa, pb, pi, pt, ps) = o := ⟨_, rfl⟩
      obtain ⟨⟨SO, SY, f⟩, hS⟩ : ∃ o, splitO L af = o := ⟨_, rfl⟩
      obtain ⟨⟨JX, h⟩, hJ⟩ : ∃ o, joinO L M = o := ⟨_, rfl⟩
      obtain ⟨z, hz⟩ : ∃ z, checkDO L = z := ⟨_, rfl⟩
      have LX := Lib.hid (lists_short LA.out LM.out d0n hA hS hJ)
      clear d0n d1n
      have HAE := Lib.hid hA
      have HSE := Lib.hid hS
      have HJE := Lib.hid hJ
      have HZE := Lib.hid hz
      clear hA hS hJ hz
      have K1 := Lib.hid (ddAdd_any _ _ _ L (pa, pb, pi, pt, ps) w3 (TO0.out.step HZ.out) HWP.out)
      rw [HAE.out] at K1
      refine (K1.out).mono ?_
      rintro ev w4 ⟨v4, rfl, hr4, b4⟩
      simp only at hr4
      obtain ⟨aA1, cA1, rfl, _⟩ := hr4.pts
      have RA1 := Lib.hid (hr4.mono HZ.out.size)
      clear hr4
      replace HB := Lib.hid (HB.out.trans (b4.mono HB.out.size))
      replace H0 := Lib.hid (H0.out.trans (b4.mono H0.out.size))
      replace HZ := Lib.hid (HZ.out.trans (b4.mono HZ.out.size))
      clear b4
      clear K1
      obtain ⟨c0, c1, c2, c3, c4⟩ := (HK0.out.below H0.out HK0.out.lt).five
      have K2 := Lib.hid (ruAdd_any _ _ _ L (pa, pb, pi, pt, ps) w4 (HA0.out.step H0.out) HWP.out)
      rw [HAE.out] at K2
      go_wp2_with fail
      refine (K2.out).mono ?_
      rintro ev w5 ⟨v5, rfl, hr5, b5⟩
      simp only at hr5
      obtain ⟨aA2, cA2, rfl, _⟩ := hr5.pts
      have RA2 := Lib.hid (hr5.mono HB.out.size)
      clear hr5
      replace RA1 := Lib.hid (RA1.out.below b5)
      replace HB := Lib.hid (HB.out.trans (b5.mono HB.out.size))
      replace H0 := Lib.hid (H0.out.trans (b5.mono H0.out.size))
      replace HZ := Lib.hid (HZ.out.trans (b5.mono HZ.out.size))
      clear b5
      clear K2 c0 c1 c2 c3 c4
      have K3 := Lib.hid (ddSplit_any _ _ _ L af w5 (TO0.out.step HZ.out) HAF.out)
      rw [HSE.out] at K3
      go_wp2_with fail
      refine (K3.out).mono ?_
      rintro ev w6 ⟨v6, u6, rfl, hv6, hu6, _, b6⟩
      simp only at hv6
      obtain ⟨aS1, cS1, rfl, _⟩ := hv6.pts
      have RS1 := Lib.hid (hv6.mono HZ.out.size)
      clear hv6
      simp only at hu6
      obtain ⟨aY1, cY1, rfl, _⟩ := hu6.pts
      have RY1 := Lib.hid (hu6.mono HZ.out.size)
      clear hu6
      replace RA1 := Lib.hid (RA1.out.below b6)
      replace RA2 := Lib.hid (RA2.out.below b6)
      replace HB := Lib.hid (HB.out.trans (b6.mono HB.out.size))
      replace H0 := Lib.hid (H0.out.trans (b6.mono H0.out.size))
      replace HZ := Lib.hid (HZ.out.trans (b6.mono HZ.out.size))
      clear b6
      clear K3
      have K4 := Lib.hid (ruSplit_any _ _ _ L af w6 (HA0.out.step H0.out) HAF.out)
      rw [HSE.out] at K4
      go_wp2_with fail
      refine (K4.out).mono ?_
      rintro ev w7 ⟨v7, u7, rfl, hv7, hu7, _, b7⟩
      simp only at hv7
      obtain ⟨aS2, cS2, rfl, _⟩ := hv7.pts
      have RS2 := Lib.hid (hv7.mono HB.out.size)
      clear hv7
      simp only at hu7
      obtain ⟨aY2, cY2, rfl, _⟩ := hu7.pts
      have RY2 := Lib.hid (hu7.mono HB.out.size)
      clear hu7
      replace RA1 := Lib.hid (RA1.out.below b7)
      replace RA2 := Lib.hid (RA2.out.below b7)
      replace RS1 := Lib.hid (RS1.out.below b7)
      replace RY1 := Lib.hid (RY1.out.below b7)
      replace HB := Lib.hid (HB.out.trans (b7.mono HB.out.size))
      replace H0 := Lib.hid (H0.out.trans (b7.mono H0.out.size))
      replace HZ := Lib.hid (HZ.out.trans (b7.mono HZ.out.size))
      clear b7
      clear K4
      have K5 := Lib.hid (ddJoin_any _ _ _ L _ _ _ M w7 (TO0.out.step HZ.out) (TM0.out.step HZ.out))
      rw [HJE.out] at K5
      go_wp2_with fail
      refine (K5.out).mono ?_
      rintro ev w8 ⟨v8, rfl, hr8, b8⟩
      simp only at hr8
      obtain ⟨aJ1, cJ1, rfl, _⟩ := hr8.pts
      have RJ1 := Lib.hid (hr8.mono HZ.out.size)
      clear hr8
      replace RA1 := Lib.hid (RA1.out.below b8)
      replace RA2 := Lib.hid (RA2.out.below b8)
      replace RS1 := Lib.hid (RS1.out.below b8)
      replace RY1 := Lib.hid (RY1.out.below b8)
      replace RS2 := Lib.hid (RS2.out.below b8)
      replace RY2 := Lib.hid (RY2.out.below b8)
      replace HB := Lib.hid (HB.out.trans (b8.mono HB.out.size))
      replace H0 := Lib.hid (H0.out.trans (b8.mono H0.out.size))
      replace HZ := Lib.hid (HZ.out.trans (b8.mono HZ.out.size))
      clear b8
      clear K5
      have K6 := Lib.hid (ruJoin_any _ _ _ L _ _ _ M w8 (HA0.out.step H0.out) (HC0.out.step H0.out))
      rw [HJE.out] at K6
      go_wp2_with fail
      refine (K6.out).mono ?_
      rintro ev w9 ⟨v9, rfl, hr9, b9⟩
      simp only at hr9
      obtain ⟨aJ2, cJ2, rfl, _⟩ := hr9.pts
      have RJ2 := Lib.hid (hr9.mono HB.out.size)
      clear hr9
      replace RA1 := Lib.hid (RA1.out.below b9)
      replace RA2 := Lib.hid (RA2.out.below b9)
      replace RS1 := Lib.hid (RS1.out.below b9)
      replace RY1 := Lib.hid (RY1.out.below b9)
      replace RS2 := Lib.hid (RS2.out.below b9)
      replace RY2 := Lib.hid (RY2.out.below b9)
      replace RJ1 := Lib.hid (RJ1.out.below b9)
      replace HB := Lib.hid (HB.out.trans (b9.mono HB.out.size))
      replace H0 := Lib.hid (H0.out.trans (b9.mono H0.out.size))
      replace HZ := Lib.hid (HZ.out.trans (b9.mono HZ.out.size))
      clear b9
      clear K6
      have e1 : ((e : Int) != (e : Int)) = false := by simp
      have f1 : ((f : Int) != (f : Int)) = false := by simp
      have h1 : ((h : Int) != (h : Int)) = false := by simp
      have z1 : ((z : Int) != (z : Int)) = false := by simp
      have hll : decide (AX = AX) = true := decide_eq_true rfl
      have SM := Lib.hid (rpSame_any _ _ _ AX _ _ _ AX w9 (pts_of_row RA1.out rfl) (pts_of_row RA2.out rfl))
      rw [hll] at SM
      clear hll
      go_wp2_with fail
      refine (SM.out).mono ?_
      rintro ev w10 ⟨rfl, b10⟩
      replace RA1 := Lib.hid (RA1.out.below b10)
      replace RA2 := Lib.hid (RA2.out.below b10)
      replace RS1 := Lib.hid (RS1.out.below b10)
      replace RY1 := Lib.hid (RY1.out.below b10)
      replace RS2 := Lib.hid (RS2.out.below b10)
      replace RY2 := Lib.hid (RY2.out.below b10)
      replace RJ1 := Lib.hid (RJ1.out.below b10)
      replace RJ2 := Lib.hid (RJ2.out.below b10)
      replace HB := Lib.hid (HB.out.trans (b10.mono HB.out.size))
      replace H0 := Lib.hid (H0.out.trans (b10.mono H0.out.size))
      replace HZ := Lib.hid (HZ.out.trans (b10.mono HZ.out.size))
      clear b10
      clear SM
      have hll : decide (SO = SO) = true := decide_eq_true rfl
      have SM := Lib.hid (rpSame_any _ _ _ SO _ _ _ SO w10 (pts_of_row RS1.out rfl) (pts_of_row RS2.out rfl))
      rw [hll] at SM
      clear hll
      go_wp2_with fail
      refine (SM.out).mono ?_
      rintro ev w11 ⟨rfl, b11⟩
      replace RA1 := Lib.hid (RA1.out.below b11)
      replace RA2 := Lib.hid (RA2.out.below b11)
      replace RS1 := Lib.hid (RS1.out.below b11)
      replace RY1 := Lib.hid (RY1.out.below b11)
      replace RS2 := Lib.hid (RS2.out.below b11)
      replace RY2 := Lib.hid (RY2.out.below b11)
      replace RJ1 := Lib.hid (RJ1.out.below b11)
      replace RJ2 := Lib.hid (RJ2.out.below b11)
      replace HB := Lib.hid (HB.out.trans (b11.mono HB.out.size))
      replace H0 := Lib.hid (H0.out.trans (b11.mono H0.out.size))
      replace HZ := Lib.hid (HZ.out.trans (b11.mono HZ.out.size))
      clear b11
      clear SM
      have hll : decide (SY = SY) = true := decide_eq_true rfl
      have SM := Lib.hid (rpSame_any _ _ _ SY _ _ _ SY w11 (pts_of_row RY1.out rfl) (pts_of_row RY2.out rfl))
      rw [hll] at SM
      clear hll
      go_wp2_with fail
      refine (SM.out).mono ?_
      rintro ev w12 ⟨rfl, b12⟩
      replace RA1 := Lib.hid (RA1.out.below b12)
      replace RA2 := Lib.hid (RA2.out.below b12)
      replace RS1 := Lib.hid (RS1.out.below b12)
      replace RY1 := Lib.hid (RY1.out.below b12)
      replace RS2 := Lib.hid (RS2.out.below b12)
      replace RY2 := Lib.hid (RY2.out.below b12)
      replace RJ1 := Lib.hid (RJ1.out.below b12)
      replace RJ2 := Lib.hid (RJ2.out.below b12)
      replace HB := Lib.hid (HB.out.trans (b12.mono HB.out.size))
      replace H0 := Lib.hid (H0.out.trans (b12.mono H0.out.size))
      replace HZ := Lib.hid (HZ.out.trans (b12.mono HZ.out.size))
      clear b12
      clear SM
      have hll : decide (JX = JX) = true := decide_eq_true rfl
      have SM := Lib.hid (rpSame_any _ _ _ JX _ _ _ JX w12 (pts_of_row RJ1.out rfl) (pts_of_row RJ2.out rfl))
      rw [hll] at SM
      clear hll
      go_wp2_with fail
      refine (SM.out).mono ?_
      rintro ev w13 ⟨rfl, b13⟩
      replace RA1 := Lib.hid (RA1.out.below b13)
      replace RA2 := Lib.hid (RA2.out.below b13)
      replace RS1 := Lib.hid (RS1.out.below b13)
      replace RY1 := Lib.hid (RY1.out.below b13)
      replace RS2 := Lib.hid (RS2.out.below b13)
      replace RY2 := Lib.hid (RY2.out.below b13)
      replace RJ1 := Lib.hid (RJ1.out.below b13)
      replace RJ2 := Lib.hid (RJ2.out.below b13)
      replace HB := Lib.hid (HB.out.trans (b13.mono HB.out.size))
      replace H0 := Lib.hid (H0.out.trans (b13.mono H0.out.size))
      replace HZ := Lib.hid (HZ.out.trans (b13.mono HZ.out.size))
      clear b13
      clear SM
      have CK := Lib.hid (ddCheck_any _ _ _ L w13 (TO0.out.step HZ.out))
      rw [HZE.out] at CK
      go_wp2_with fail
      refine (CK.out).mono ?_
      rintro ev w14 ⟨rfl, b14⟩
      replace RA1 := Lib.hid (RA1.out.below b14)
      replace RA2 := Lib.hid (RA2.out.below b14)
      replace RS1 := Lib.hid (RS1.out.below b14)
      replace RY1 := Lib.hid (RY1.out.below b14)
      replace RS2 := Lib.hid (RS2.out.below b14)
      replace RY2 := Lib.hid (RY2.out.below b14)
      replace RJ1 := Lib.hid (RJ1.out.below b14)
      replace RJ2 := Lib.hid (RJ2.out.below b14)
      replace HB := Lib.hid (HB.out.trans (b14.mono HB.out.size))
      replace H0 := Lib.hid (H0.out.trans (b14.mono H0.out.size))
      replace HZ := Lib.hid (HZ.out.trans (b14.mono HZ.out.size))
      clear b14
      clear CK
      have CK := Lib.hid (ruCheck_any _ _ _ L w14 (HA0.out.step H0.out) z (by rw [← HZE.out]; unfold checkDO; exact ⟨fun h => if_pos h, fun h => if_neg h⟩))
      go_wp2_with fail
      refine (CK.out).mono ?_
      rintro ev w15 ⟨rfl, b15⟩
      replace RA1 := Lib.hid (RA1.out.below b15)
      replace RA2 := Lib.hid (RA2.out.below b15)
      replace RS1 := Lib.hid (RS1.out.below b15)
      replace RY1 := Lib.hid (RY1.out.below b15)
      replace RS2 := Lib.hid (RS2.out.below b15)
      replace RY2 := Lib.hid (RY2.out.below b15)
      replace RJ1 := Lib.hid (RJ1.out.below b15)
      replace RJ2 := Lib.hid (RJ2.out.below b15)
      replace HB := Lib.hid (HB.out.trans (b15.mono HB.out.size))
      replace H0 := Lib.hid (H0.out.trans (b15.mono H0.out.size))
      replace HZ := Lib.hid (HZ.out.trans (b15.mono HZ.out.size))
      clear b15
      clear CK
      have SA := Lib.hid (sp_of RA1.out LX.out.1)
      have SS := Lib.hid (sp_of RS1.out LX.out.2.1)
      have SYY := Lib.hid (sp_of RY1.out LX.out.2.2.1)
      have SJ := Lib.hid (sp_of RJ1.out LX.out.2.2.2)
      clear RA1 RA2 RS1 RY1 RS2 RY2 RJ1 RJ2 e1 f1 h1 z1
      have SP := Lib.hid (dlSpoil_any _ _ _ w15 SA.out)
      go_wp2_with fail
      refine SP.out.mono ?_
      rintro ev w16 ⟨rfl, b16, hs16⟩
      replace HB := Lib.hid (HB.out.trans (b16.mono HLZ.out))
      replace H0 := Lib.hid (H0.out.trans (b16.mono HLZ0.out))
      replace HZ := Lib.hid (HZ.out.trans b16)
      replace SS := Lib.hid (hs16 _ _ _ SS.out)
      replace SYY := Lib.hid (hs16 _ _ _ SYY.out)
      replace SJ := Lib.hid (hs16 _ _ _ SJ.out)
      clear b16 hs16 SP SA
      have SP := Lib.hid (dlSpoil_any _ _ _ w16 SS.out)
      go_wp2_with fail
      refine SP.out.mono ?_
      rintro ev w17 ⟨rfl, b17, hs17⟩
      replace HB := Lib.hid (HB.out.trans (b17.mono HLZ.out))
      replace H0 := Lib.hid (H0.out.trans (b17.mono HLZ0.out))
      replace HZ := Lib.hid (HZ.out.trans b17)
      replace SYY := Lib.hid (hs17 _ _ _ SYY.out)
      replace SJ := Lib.hid (hs17 _ _ _ SJ.out)
      clear b17 hs17 SP SS
      have SP := Lib.hid (dlSpoil_any _ _ _ w17 SYY.out)
      go_wp2_with fail
      refine SP.out.mono ?_
      rintro ev w18 ⟨rfl, b18, hs18⟩
      replace HB := Lib.hid (HB.out.trans (b18.mono HLZ.out))
      replace H0 := Lib.hid (H0.out.trans (b18.mono HLZ0.out))
      replace HZ := Lib.hid (HZ.out.trans b18)
      replace SJ := Lib.hid (hs18 _ _ _ SJ.out)
      clear b18 hs18 SP SYY
      have SP := Lib.hid (dlSpoil_any _ _ _ w18 SJ.out)
      go_wp2_with fail
      refine SP.out.mono ?_
      rintro ev w19 ⟨rfl, b19, hs19⟩
      replace HB := Lib.hid (HB.out.trans (b19.mono HLZ.out))
      replace H0 := Lib.hid (H0.out.trans (b19.mono HLZ0.out))
      replace HZ := Lib.hid (HZ.out.trans b19)
      clear b19 hs19 SP SJ
      have hll : decide (L = L) = true := decide_eq_true rfl
      have SM := Lib.hid (rpSame_any _ _ _ L _ _ _ L w19 (TO0.out.step HZ.out) (HA0.out.step H0.out))
      rw [hll] at SM
      clear hll
      go_wp2_with fail
      refine (SM.out).mono ?_
      rintro ev w20 ⟨rfl, b20⟩
      replace HB := Lib.hid (HB.out.trans (b20.mono HB.out.size))
      replace H0 := Lib.hid (H0.out.trans (b20.mono H0.out.size))
      replace HZ := Lib.hid (HZ.out.trans (b20.mono HZ.out.size))
      clear b20
      clear SM
      have hll : decide (M = M) = true := decide_eq_true rfl
      have SM := Lib.hid (rpSame_any _ _ _ M _ _ _ M w20 (TM0.out.step HZ.out) (HC0.out.step H0.out))
      rw [hll] at SM
      clear hll
      go_wp2_with fail
      refine (SM.out).mono ?_
      rintro ev w21 ⟨rfl, b21⟩
      replace HB := Lib.hid (HB.out.trans (b21.mono HB.out.size))
      replace H0 := Lib.hid (H0.out.trans (b21.mono H0.out.size))
      replace HZ := Lib.hid (HZ.out.trans (b21.mono HZ.out.size))
      clear b21
      clear SM
      go_wp2_with fail
      go_ret
      exact ⟨rfl, HB.out⟩
    · have d0a : decide ((n : Int) > 1000) = false := decide_eq_false (by omega)
      have d0b : decide ((1000 : Int) < (n : Int)) = false := decide_eq_false (by omega)
      have d1a : decide ((m : Int) > 1000) = true := decide_eq_true (by omega)
      have d1b : decide ((1000 : Int) < (m : Int)) = true := decide_eq_true (by omega)
      go_enter Try.func3, Try.ntmps3
      go_wp2_with fail
      go_ret
      refine ⟨rfl, ?_⟩
      try simp only [ptC]
      try rw [hw0]
      exact HB.out
  · have d0a : decide ((n : Int) > 1000) = true := decide_eq_true (by omega)
    have d0b : decide ((1000 : Int) < (n : Int)) = true := decide_eq_true (by omega)
    go_enter Try.func3, Try.ntmps3
    go_wp2_with fail
    go_ret
    refine ⟨rfl, ?_⟩
    try simp only [ptC]
    try rw [hw0]
    exact HB.out
theorem deadLists_walk (a0 : Option Addr) (len0 cap0 : Nat) (L0 : List Pt) (a1 : Option Addr) (len1 cap1 : Nat) (L1 : List Pt) (p2 : Pt) (a3 : Int) (w : World) (h0 : Pts w w.heap.size a0 len0 cap0 L0) (h1 : Pts w w.heap.size a1 len1 cap1 L1) (w2 : WfP p2) (w3 : (Lit.int .u32 a3).wf = true) :
    Calls Try.prog 3 #[.slice a0 len0 cap0, .slice a1 len1 cap1, ptV p2, .int .u32 a3] w fun e w' => e = .returned (.bool true) ∧ Below w.heap.size w w' := by
  obtain ⟨o2, rfl, h2⟩ := u32_wf w3
  exact deadLists_at a0 len0 cap0 L0 a1 len1 cap1 L1 p2 o2 w h0 h1 w2 h2
end Go.Proofs.Ytadffkfalclpjaa
namespace Go.Proofs.Ytadffkfalclpjaa.deadLists
open Go.ChangeShapes Go.WideShapes Go.ChangeAt Go.RowKit
set_option linter.unusedVariables false

theorem own : ownKnob Try.prog.godebug = none := by kernel_rfl
theorem laidOut : laidOutB Try.prog = true := by kernel_rfl

set_option maxRecDepth 100000 in
theorem lifted (os : Os) (started : os.Started) (H : Type) (enc : TypeId × Value → H) :
    ReturnsInHanded {} Try.checked os 3 .any (Rows.deadListsSpec.pre6 enc Try.prog Try.f3 Rows.deadListsRow.domain false) (Rows.deadListsSpec.post enc Try.prog Try.f3 false true false false) := by
  refine returnsInHanded_of_change (C := Try.checked) own started (by kernel_rfl) Try.func3
    (ChangeSpec.witness6 (enc := enc) (C := Try.checked) false ⟨#[], #[.slice none 0 0, .slice none 0 0, .agg #[.int .i64 0, .int .u32 0, .int .u32 0, .int .u32 0, .int .u32 0], .int .u32 0], []⟩ 8 (by kernel_rfl) (by kernel_rfl) (by kernel_rfl) (by kernel_rfl)) ?_
  intro W base args ds gs before hval0 hW hcnd _
  have hval : ∀ (j : Nat) t v, Try.f3.params[j]? = some t → args[j]? = some v → Value.okWide Try.prog W .any base t v := hval0
  have hW' := hW
  obtain ⟨p, q, hA0, hV, rfl, hfz, hnd⟩ := hW
  have hA : DataW.TrodAll enc Try.prog W 0 (fun _ => true) true Try.f3.params.toList args.toList ds p := hA0
  rw [Try.params3] at hA hval
  obtain ⟨v0, vs0, d0, ds0, p0, q0, hargs, rfl, rfl, h0, r0⟩ := trodAll_cons hA
  obtain ⟨v1, vs1, d1, ds1, p1, q1, rfl, rfl, rfl, h1, r1⟩ := trodAll_cons r0
  obtain ⟨v2, vs2, d2, ds2, p2, q2, rfl, rfl, rfl, h2, r2⟩ := trodAll_cons r1
  obtain ⟨v3, vs3, d3, ds3, p3, q3, rfl, rfl, rfl, h3, r3⟩ := trodAll_cons r2
  obtain ⟨rfl, rfl, rfl⟩ := trodAll_nil r3
  obtain rfl : args = #[v0, v1, v2, v3] := by cases args; simp_all
  obtain ⟨rfl, rfl⟩ := trodVars_none hV
  obtain ⟨a0, len0, cap0, rfl⟩ := okWide_slice Try.underlying22 (hval 0 22 v0 rfl rfl)
  have k0 := h0
  have lt0 : ∀ x ∈ p0, x.block < W.heap.size := by obtain ⟨m, hm⟩ := k0; exact DataW.trod_lt m _ _ _ hm
  obtain ⟨L0, w0⟩ := open_ptrs h0
  obtain ⟨a1, len1, cap1, rfl⟩ := okWide_slice Try.underlying22 (hval 1 22 v1 rfl rfl)
  have k1 := h1
  have lt1 : ∀ x ∈ p1, x.block < W.heap.size := by obtain ⟨m, hm⟩ := k1; exact DataW.trod_lt m _ _ _ hm
  obtain ⟨L1, w1⟩ := open_ptrs h1
  have k2 := h2
  have lt2 : ∀ x ∈ p2, x.block < W.heap.size := by obtain ⟨m, hm⟩ := k2; exact DataW.trod_lt m _ _ _ hm
  obtain ⟨z2, rfl, w2⟩ := open_ptr (hval 2 25 v2 rfl rfl) h2
  obtain ⟨a3, rfl, rfl, rfl, w3⟩ := open_int Try.underlying23 (hval 3 23 v3 rfl rfl) h3
  clear hA0 hval0
  refine (deadLists_walk a0 len0 cap0 L0 a1 len1 cap1 L1 z2 a3 W w0 w1 w2 w3).mono fun e W' ⟨he, bel⟩ => ?_
  subst he
  exact ⟨_, rfl, _, _, _, [], _, [], hW', trodAll_mk1 (shut_bool Try.underlying4 _), (trodAll_cons_mk (Below.trod laidOut (by kernel_rfl) (of_decide_eq_true (by kernel_rfl)) k0 bel lt0) (trodAll_cons_mk (Below.trod laidOut (by kernel_rfl) (of_decide_eq_true (by kernel_rfl)) k1 bel lt1) (trodAll_cons_mk (Below.trod laidOut (by kernel_rfl) (of_decide_eq_true (by kernel_rfl)) k2 bel lt2) (trodAll_cons_mk (shut_int Try.underlying23 w3) trodAll_mk0)))), rfl, bel.frame _, fun h => by cases h⟩

theorem over : Rows.deadListsRow.holds Try.pinned (OpenSpec.ofChange Rows.deadListsSpec) :=
  OpenClaim.holds_of_wide 3 Try.f3 rfl rfl rfl rfl rfl rfl rfl ⟨rfl, rfl, rfl, rfl, rfl⟩ rfl rfl rfl rfl rfl (by kernel_rfl) Try.func3 (by kernel_rfl)
    (of_decide_eq_true (by kernel_rfl)) (by unfold Func.isWrapper; first | (rw [if_pos (by decide +kernel)]; kernel_rfl) | (rw [if_neg (by decide +kernel)]; exact ⟨rfl, rfl⟩))
    (fun os started H enc _ => lifted os started H enc)

/-- The statement. -/
theorem proved : Rows.DeadListsSaid := over
end Go.Proofs.Ytadffkfalclpjaa.deadLists
