/-
  The document's own Public, Sign, Recover for layer 7 answer what chain's answer.
-/
import Derived.Test.YtoednighmdoooaaChainRef
import Derived.Test.YtoednighmdoooaaChainTop
namespace Go.Proofs.Ytoednighmdoooaa
open Go.RowKit Go.Shelf
set_option maxRecDepth 100000

set_option maxHeartbeats 1000000 in
theorem rPublic_bad (a : Option Addr) (len cap : Nat) (l : Int) (h : len ≠ 16 ∨ l < 0 ∨ 7 < l) (w : World) : Calls Try.prog 37 #[.slice a len cap, .int .i64 l] w (ToldB ([], 2) w) := by
  by_cases h1 : len = 16
  · subst h1
    by_cases h2 : l < 0
    · go_enter Try.func37, Try.ntmps37
      go_wp2_with fail
      go_ret2
      exact toldB_none _ _ _ (Below.refl _ _)
    · have h3 : 7 < l := by omega
      have h4 : 0 ≤ l := by omega
      go_enter Try.func37, Try.ntmps37
      go_wp2_with fail
      go_ret2
      exact toldB_none _ _ _ (Below.refl _ _)
  · have h5 : ((len : Int) != 16) = true := by simp; omega
    go_enter Try.func37, Try.ntmps37
    go_wp2_with fail
    go_ret2
    exact toldB_none _ _ _ (Below.refl _ _)
set_option maxHeartbeats 4000000 in
theorem rPublic_ok (a : Option Addr) (cap : Nat) (sd : List UInt8) (l : Nat) (hl : l < 8) (w : World) (hA : Bsl w w.heap.size a 16 cap sd) :
    Calls Try.prog 37 #[.slice a 16 cap, .int .i64 l] w fun en w' => ∃ v, en = .returned (.tuple #[v, .int .i64 0]) ∧ w'.ownsRow w.heap.size 5 1 v 16 (vals (pubL l (valsL sd l lasts 10))) ∧ Below w.heap.size w w' := by
  have l0 : (0 : Int) ≤ l := by omega
  have l1 : (l : Int) < 8 := by omega
  have HA := Lib.hid hA; clear hA
  go_enter Try.func37, Try.ntmps37
  go_wp2_with fail
  go_loopw [6, 7] (fun v i wr => ∃ k : Nat, k ≤ 10 ∧ i = .int .i64 k ∧ wr.ownsRow w.heap.size 5 1 v (16 * k) (vals (valsL sd l lasts k)) ∧ Below w.heap.size w wr) (fun _ i _ => 10 - (intOf i).toNat)
  case atStart => exact ⟨0, by omega, rfl, own_nil _ _, Below.refl _ _⟩
  case round =>
    obtain ⟨k, hk, rfl, ho, hb⟩ := hrel
    have k0 : (0 : Int) ≤ k := by omega
    by_cases hlt : k < 10
    · have k2 : (k : Int) < 10 := by omega
      have hs : valsL sd l lasts (k + 1) = valsL sd l lasts k ++ valL sd l k 15 := by rw [valsL, lasts_get k hlt]
      have HS := Lib.hid hs; clear hs
      have hv := rvalue_any a cap sd l k hl hlt 15 (by omega) wr ((HA.out.below hb).more hb.size)
      obtain ⟨V, hV⟩ : ∃ V, valL sd l k 15 = V := ⟨_, rfl⟩
      rw [hV] at HS hv
      clear hV
      have HV := Lib.hid hv; clear hv
      have HOr := Lib.hid ho; clear ho
      have HBr := Lib.hid hb; clear hb
      go_wp2_with fail
      refine HV.out.mono ?_
      rintro e w1 ⟨v1, rfl, ho1, b1⟩
      obtain ⟨a1, c1, rfl, hb1⟩ := own_to ho1
      have HB1 := Lib.hid (HBr.out.trans (b1.mono HBr.out.size))
      have HO1 := Lib.hid (own_below HOr.out b1); clear b1 ho1 HV
      have HQ1 := Lib.hid hb1; clear hb1
      go_wp2_with (at_builtin
                   refine wpList_append_bsl rfl (.tmp 23) (.tmp 27) rfl w.heap.size _ (16 * k) _ rfl HO1.out _ a1 16 c1 V rfl HQ1.out (by omega) HB1.out.size ?_
                   intro v7 w7 hown7 hg7
                   have HB7 := Lib.hid (app_below HB1.out HO1.out hg7 HB1.out.size); clear hg7
                   have HO7 := Lib.hid hown7; clear hown7)
      go_roundw
      case rel => exact ⟨k + 1, by omega, by go_num, by rw [HS.out]; exact HO7.out, HB7.out⟩
      case measure => simp [intOf]; omega
    · obtain rfl : k = 10 := by omega
      obtain ⟨a1, c1, rfl, hb1⟩ := own_to ho
      have HM := Lib.hid (rmade_any a1 160 c1 _ l hl wr hb1 (by omega)); clear hb1 ho
      have HBr := Lib.hid hb; clear hb
      go_wp2_with fail
      refine HM.out.mono ?_
      rintro e w3 ⟨v3, rfl, ho3, b3⟩
      have HB3 := Lib.hid (HBr.out.trans (b3.mono HBr.out.size))
      have HO3 := Lib.hid (own_mono ho3 HBr.out.size); clear ho3 b3 HM
      go_wp2_with fail
      go_ret2
      exact ⟨_, rfl, HO3.out, HB3.out⟩
theorem rPublic_any (a : Option Addr) (len cap : Nat) (sd : List UInt8) (l : Int) (w : World) (hA : Bsl w w.heap.size a len cap sd) :
    Calls Try.prog 37 #[.slice a len cap, .int .i64 l] w (ToldB (pubO sd l) w) := by
  by_cases h : len ≠ 16 ∨ l < 0 ∨ 7 < l
  · rw [pubO_no sd l (by rw [hA.1]; omega)]
    exact rPublic_bad a len cap l h w
  · obtain rfl : len = 16 := by omega
    obtain ⟨k, rfl⟩ := Int.eq_ofNat_of_zero_le (show 0 ≤ l by omega)
    rw [pubO_ok sd k (by omega) hA.1]
    refine (rPublic_ok a cap sd k (by omega) w hA).mono ?_
    rintro e w' ⟨v, rfl, h, hb⟩
    exact (toldO_of (pubL_length _ _) h hb).toB

set_option maxHeartbeats 1000000 in
theorem rSign_bad (a : Option Addr) (len cap : Nat) (l : Int) (h : len ≠ 16 ∨ l < 0 ∨ 7 < l) (u : Value) (w : World) : Calls Try.prog 26 #[.slice a len cap, .int .i64 l, u] w (ToldB ([], 2) w) := by
  by_cases h1 : len = 16
  · subst h1
    by_cases h2 : l < 0
    · go_enter Try.func26, Try.ntmps26
      go_wp2_with fail
      go_ret2
      exact toldB_none _ _ _ (Below.refl _ _)
    · have h3 : 7 < l := by omega
      have h4 : 0 ≤ l := by omega
      go_enter Try.func26, Try.ntmps26
      go_wp2_with fail
      go_ret2
      exact toldB_none _ _ _ (Below.refl _ _)
  · have h5 : ((len : Int) != 16) = true := by simp; omega
    go_enter Try.func26, Try.ntmps26
    go_wp2_with fail
    go_ret2
    exact toldB_none _ _ _ (Below.refl _ _)
set_option maxHeartbeats 4000000 in
theorem rSign_ok (a : Option Addr) (cap : Nat) (sd : List UInt8) (l : Nat) (hl : l < 8) (b : Option Addr) (lenb capb : Nat) (s : List UInt8) (w : World) (hA : Bsl w w.heap.size a 16 cap sd) (hB : Bsl w w.heap.size b lenb capb s) (hlen : lenb ≤ 100000) :
    Calls Try.prog 26 #[.slice a 16 cap, .int .i64 l, .slice b lenb capb] w fun en w' => ∃ v, en = .returned (.tuple #[v, .int .i64 0]) ∧ w'.ownsRow w.heap.size 5 1 v 160 (vals (valsL sd l (digL (fourW s).a.toNat) 10)) ∧ Below w.heap.size w w' := by
  have l0 : (0 : Int) ≤ l := by omega
  have l1 : (l : Int) < 8 := by omega
  have hd := rdigits_any b lenb capb s w hB hlen
  obtain ⟨x, hx⟩ : ∃ x, (fourW s).a.toNat = x := ⟨_, rfl⟩
  rw [hx] at hd ⊢
  clear hx hB
  have HD := Lib.hid hd; clear hd
  have HA := Lib.hid hA; clear hA
  go_enter Try.func26, Try.ntmps26
  go_wp2_with fail
  refine HD.out.mono ?_
  rintro e w2 ⟨v2, rfl, ho2, b2⟩
  have HA2 := Lib.hid (HA.out.step b2)
  have HB2 := Lib.hid b2; clear b2 HD HA
  obtain ⟨g2, c2, rfl, hg2, hl2, hn2⟩ := nsl_of_own ho2 (by omega)
  have HN2 := Lib.hid hn2; clear ho2 hn2 hg2 hl2
  go_wp2_with fail
  go_loopw [9, 10] (fun v i wr => ∃ k : Nat, k ≤ 10 ∧ i = .int .i64 k ∧ wr.ownsRow w2.heap.size 5 1 v (16 * k) (vals (valsL sd l (digL x) k)) ∧ Below w2.heap.size w2 wr) (fun _ i _ => 10 - (intOf i).toNat)
  case atStart => exact ⟨0, by omega, rfl, own_nil _ _, Below.refl _ _⟩
  case round =>
    obtain ⟨k, hk, rfl, ho, hb⟩ := hrel
    have k0 : (0 : Int) ≤ k := by omega
    by_cases hlt : k < 10
    · have k2 : (k : Int) < 10 := by omega
      have hc := (HN2.out.below hb).cell0 k hlt
      have h15 := digL_le x k hlt
      have hs : valsL sd l (digL x) (k + 1) = valsL sd l (digL x) k ++ valL sd l k ((digL x).getD k 0) := rfl
      obtain ⟨d, hdd⟩ : ∃ d, (digL x).getD k 0 = d := ⟨_, rfl⟩
      rw [hdd] at hc h15 hs
      clear hdd
      have HS := Lib.hid hs; clear hs
      have hv := rvalue_any a cap sd l k hl hlt d (by omega) wr ((HA2.out.below hb).more hb.size)
      obtain ⟨V, hV⟩ : ∃ V, valL sd l k d = V := ⟨_, rfl⟩
      rw [hV] at HS hv
      clear hV
      have HV := Lib.hid hv; clear hv
      have HOr := Lib.hid ho; clear ho
      have HBr := Lib.hid hb; clear hb
      go_wp2_with fail
      refine HV.out.mono ?_
      rintro e w3 ⟨v1, rfl, ho1, b1⟩
      obtain ⟨a1, c1, rfl, hb1⟩ := own_to ho1
      have HB1 := Lib.hid (HBr.out.trans (b1.mono HBr.out.size))
      have HO1 := Lib.hid (own_below HOr.out b1); clear b1 ho1 HV
      have HQ1 := Lib.hid hb1; clear hb1
      go_wp2_with (at_builtin
                   refine wpList_append_bsl rfl (.tmp 28) (.tmp 36) rfl w2.heap.size _ (16 * k) _ rfl HO1.out _ a1 16 c1 V rfl HQ1.out (by omega) HB1.out.size ?_
                   intro v7 w7 hown7 hg7
                   have HB7 := Lib.hid (app_below HB1.out HO1.out hg7 HB1.out.size); clear hg7
                   have HO7 := Lib.hid hown7; clear hown7)
      go_roundw
      case rel => exact ⟨k + 1, by omega, by go_num, by rw [HS.out]; exact HO7.out, HB7.out⟩
      case measure => simp [intOf]; omega
    · obtain rfl : k = 10 := by omega
      have HOr := Lib.hid (own_mono ho HB2.out.size); clear ho
      have HBr := Lib.hid (HB2.out.trans (hb.mono HB2.out.size)); clear hb
      go_wp2_with fail
      go_ret2
      exact ⟨_, rfl, HOr.out, HBr.out⟩
theorem rSign_any (a : Option Addr) (len cap : Nat) (sd : List UInt8) (l : Int) (b : Option Addr) (lenb capb : Nat) (s : List UInt8) (w : World) (hA : Bsl w w.heap.size a len cap sd) (hB : Bsl w w.heap.size b lenb capb s) (hlen : lenb ≤ 100000) :
    Calls Try.prog 26 #[.slice a len cap, .int .i64 l, .slice b lenb capb] w (ToldB (signO sd l (fourW s).a.toNat) w) := by
  by_cases h : len ≠ 16 ∨ l < 0 ∨ 7 < l
  · rw [signO_no sd l _ (by rw [hA.1]; omega)]
    exact rSign_bad a len cap l h _ w
  · obtain rfl : len = 16 := by omega
    obtain ⟨k, rfl⟩ := Int.eq_ofNat_of_zero_le (show 0 ≤ l by omega)
    rw [signO_ok sd k _ (by omega) hA.1]
    refine (rSign_ok a cap sd k (by omega) b lenb capb s w hA hB hlen).mono ?_
    rintro e w' ⟨v, rfl, h, hb⟩
    exact (toldO_of (valsL_length _ _ _ _) h hb).toB

set_option maxHeartbeats 1000000 in
theorem rRecover_leaf (l : Int) (h : l < 0 ∨ 7 < l) (u v : Value) (w : World) : Calls Try.prog 27 #[.int .i64 l, u, v] w (ToldB ([], 2) w) := by
  by_cases h2 : l < 0
  · go_enter Try.func27, Try.ntmps27
    go_wp2_with fail
    go_ret2
    exact toldB_none _ _ _ (Below.refl _ _)
  · have h3 : 7 < l := by omega
    have h4 : 0 ≤ l := by omega
    go_enter Try.func27, Try.ntmps27
    go_wp2_with fail
    go_ret2
    exact toldB_none _ _ _ (Below.refl _ _)
set_option maxHeartbeats 1000000 in
theorem rRecover_size (l : Nat) (hl : l < 8) (u : Value) (c : Option Addr) (len cap : Nat) (hn : len ≠ 160) (w : World) : Calls Try.prog 27 #[.int .i64 l, u, .slice c len cap] w (ToldB ([], 8) w) := by
  have h1 : ((len : Int) != 160) = true := by simp; omega
  have l0 : (0 : Int) ≤ l := by omega
  have l1 : (l : Int) < 8 := by omega
  go_enter Try.func27, Try.ntmps27
  go_wp2_with fail
  go_ret2
  exact toldB_none _ _ _ (Below.refl _ _)
set_option maxHeartbeats 8000000 in
theorem rRecover_ok (l : Nat) (hl : l < 8) (b : Option Addr) (len capb : Nat) (s : List UInt8) (gs off capc : Nat) (sg : List UInt8) (w : World) (hB : Bsl w w.heap.size b len capb s) (hlen : len ≤ 100000) (hC : Bsl w w.heap.size (some ⟨gs, off, none⟩) 160 capc sg) :
    Calls Try.prog 27 #[.int .i64 l, .slice b len capb, .slice (some ⟨gs, off, none⟩) 160 capc] w fun en w' => ∃ v, en = .returned (.tuple #[v, .int .i64 0]) ∧ w'.ownsRow w.heap.size 5 1 v 16 (vals (pubL l (takenL l (digL (fourW s).a.toNat) sg 10))) ∧ Below w.heap.size w w' := by
  have l0 : (0 : Int) ≤ l := by omega
  have l1 : (l : Int) < 8 := by omega
  have hd := rdigits_any b len capb s w hB hlen
  obtain ⟨x, hx⟩ : ∃ x, (fourW s).a.toNat = x := ⟨_, rfl⟩
  rw [hx] at hd ⊢
  clear hx hB
  have hsg := hC.1
  have hcap : 160 ≤ capc := hC.2.1
  have HD := Lib.hid hd; clear hd
  have HC := Lib.hid hC; clear hC
  have HSG := Lib.hid hsg; clear hsg
  go_enter Try.func27, Try.ntmps27
  go_wp2_with fail
  refine HD.out.mono ?_
  rintro e w2 ⟨v2, rfl, ho2, b2⟩
  have HC2 := Lib.hid (HC.out.step b2)
  have HB2 := Lib.hid b2; clear b2 HD HC
  obtain ⟨g2, c2, rfl, hg2, hl2, hn2⟩ := nsl_of_own ho2 (by omega)
  have HN2 := Lib.hid hn2; clear ho2 hn2 hg2 hl2
  go_wp2_with fail
  go_loopw [9, 10] (fun v i wr => ∃ k : Nat, k ≤ 10 ∧ i = .int .i64 k ∧ wr.ownsRow w2.heap.size 5 1 v (16 * k) (vals (takenL l (digL x) sg k)) ∧ Below w2.heap.size w2 wr) (fun _ i _ => 10 - (intOf i).toNat)
  case atStart => exact ⟨0, by omega, rfl, own_nil _ _, Below.refl _ _⟩
  case round =>
    obtain ⟨k, hk, rfl, ho, hb⟩ := hrel
    have k0 : (0 : Int) ≤ k := by omega
    by_cases hlt : k < 10
    · have k2 : (k : Int) < 10 := by omega
      have hc := (HN2.out.below hb).cell0 k hlt
      have h15 := digL_le x k hlt
      have hs : takenL l (digL x) sg (k + 1) = takenL l (digL x) sg k ++ onL l k ((digL x).getD k 0) ((sg.drop (16 * k)).take 16) (15 - (digL x).getD k 0) := rfl
      obtain ⟨d, hdd⟩ : ∃ d, (digL x).getD k 0 = d := ⟨_, rfl⟩
      rw [hdd] at hc h15 hs
      clear hdd
      have HS := Lib.hid hs; clear hs
      have d0 : (0 : Int) ≤ d := by omega
      have d1 : (d : Int) ≤ 15 := by omega
      have s1 : ∀ W : World, (Instr.slice 22 (.slice (some ⟨gs, off, none⟩) 160 capc) (some (.int .i64 (16 * (k : Int)))) (some (.int .i64 (16 * (k : Int) + 16))) none).run Try.prog W = .ok (.slice (some ⟨gs, off + 16 * k, none⟩) 16 (capc - 16 * k)) W := fun W => by
        have h := slice_lh W gs off 160 capc (16 * k) 16 (by omega) (by omega)
        have e : ((16 * k : Nat) : Int) = 16 * (k : Int) := by omega
        rw [e] at h
        exact h
      have hw := ((HC2.out.below hb).more hb.size).win (16 * k) 16 (by omega)
      obtain ⟨V0, hV0⟩ : ∃ V0, (sg.drop (16 * k)).take 16 = V0 := ⟨_, rfl⟩
      have HL0 := Lib.hid (show V0.length = 16 by rw [← hV0]; exact win_length (by rw [HSG.out]; omega))
      rw [hV0] at HS hw
      clear hV0
      have HW := Lib.hid hw; clear hw
      have HOr := Lib.hid ho; clear ho
      have HBr := Lib.hid hb; clear hb
      obtain ⟨wo, hwo⟩ : ∃ wo : World, wr = wo := ⟨_, rfl⟩
      rw [hwo] at hc HW HOr HBr ⊢
      clear hwo
      go_wp2_with fail
      go_loopw [11, 12] (fun v i wi => ∃ j : Nat, d + j ≤ 15 ∧ i = .int .i64 ((d + j : Nat) : Int) ∧ Below wo.heap.size wo wi ∧ ∃ a1 c1, v = .slice a1 16 c1 ∧ Bsl wi wi.heap.size a1 16 c1 (onL l k d V0 j)) (fun _ i _ => 15 - (intOf i).toNat)
      case atStart => exact ⟨0, by omega, rfl, Below.refl _ _, _, _, rfl, HW.out⟩
      case round =>
        obtain ⟨j, hj, rfl, hbi, a1, c1, rfl, hv⟩ := hrel
        obtain ⟨n, hn⟩ : ∃ n : Nat, d + j = n := ⟨_, rfl⟩
        rw [hn] at hj ⊢
        have n0 : (0 : Int) ≤ n := by omega
        have n1 : (n : Int) ≤ 15 := by omega
        have HBi := Lib.hid hbi; clear hbi
        by_cases hjt : n < 15
        · have n2 : (n : Int) < 15 := by omega
          have hx := rnext_any a1 16 c1 _ l k n hl hlt (by omega) wr hv (by omega)
          have hon : onL l k d V0 (j + 1) = keyL (onL l k d V0 j ++ u8s [l, k, n]) := by rw [onL, hn]; rfl
          have HON := Lib.hid hon; clear hon
          have HX := Lib.hid hx; clear hx hv
          have HN := Lib.hid hn; clear hn
          go_wp2_with fail
          refine HX.out.mono ?_
          rintro e w3 ⟨v1, rfl, ho1, b1⟩
          obtain ⟨a3, c3, rfl, hb3⟩ := own_to ho1
          have HB3 := Lib.hid (HBi.out.trans (b1.mono HBi.out.size))
          have HQ3 := Lib.hid hb3; clear b1 ho1 HX hb3
          go_wp2_with fail
          go_roundw
          case rel => exact ⟨j + 1, by have := HN.out; omega, by have := HN.out; go_num, HB3.out, _, _, rfl, by rw [HON.out]; exact HQ3.out⟩
          case measure => simp [intOf]; omega
        · obtain rfl : n = 15 := by omega
          have hj15 : 15 - d = j := by omega
          rw [hj15] at HS
          have HQ := Lib.hid hv; clear hv hj15
          have HO3 := Lib.hid (own_below HOr.out HBi.out)
          have HB3 := Lib.hid (HBr.out.trans (HBi.out.mono HBr.out.size))
          go_wp2_with (at_builtin
                       refine wpList_append_bsl rfl (.tmp 48) (.tmp 49) rfl w2.heap.size _ (16 * k) _ rfl HO3.out _ a1 16 c1 _ rfl HQ.out (by omega) HB3.out.size ?_
                       intro v7 w7 hown7 hg7
                       have HB7 := Lib.hid (app_below HB3.out HO3.out hg7 HB3.out.size); clear hg7
                       have HO7 := Lib.hid hown7; clear hown7)
          go_roundw
          case rel => exact ⟨k + 1, by omega, by go_num, by rw [HS.out]; exact HO7.out, HB7.out⟩
          case measure => simp [intOf]; omega
    · obtain rfl : k = 10 := by omega
      obtain ⟨a1, c1, rfl, hb1⟩ := own_to ho
      have HM := Lib.hid (rmade_any a1 160 c1 _ l hl wr hb1 (by omega)); clear hb1 ho
      have HBr := Lib.hid (HB2.out.trans (hb.mono HB2.out.size)); clear hb
      go_wp2_with fail
      refine HM.out.mono ?_
      rintro e w3 ⟨v3, rfl, ho3, b3⟩
      have HB3 := Lib.hid (HBr.out.trans (b3.mono HBr.out.size))
      have HO3 := Lib.hid (own_mono ho3 HBr.out.size); clear ho3 b3 HM
      go_wp2_with fail
      go_ret2
      exact ⟨_, rfl, HO3.out, HB3.out⟩
theorem rRecover_any (l : Int) (b : Option Addr) (len capb : Nat) (s : List UInt8) (c : Option Addr) (lenc capc : Nat) (sg : List UInt8) (w : World) (hB : Bsl w w.heap.size b len capb s) (hlen : len ≤ 100000) (hC : Bsl w w.heap.size c lenc capc sg) :
    Calls Try.prog 27 #[.int .i64 l, .slice b len capb, .slice c lenc capc] w (ToldB (recO l (fourW s).a.toNat sg) w) := by
  by_cases hl : l < 0 ∨ 7 < l
  · rw [recO, if_neg (by omega)]
    exact rRecover_leaf l hl _ _ w
  · obtain ⟨k, rfl⟩ := Int.eq_ofNat_of_zero_le (show 0 ≤ l by omega)
    by_cases hs : lenc = 160
    · subst hs
      obtain ⟨gs, off, rfl, _, _⟩ := hC.2.2.2.2 (by omega)
      rw [recO_ok k _ sg (by omega) hC.1]
      refine (rRecover_ok k (by omega) b len capb s gs off capc sg w hB hlen hC).mono ?_
      rintro e w' ⟨v, rfl, h, hb⟩
      exact (toldO_of (pubL_length _ _) h hb).toB
    · rw [recO, if_pos (by omega), if_neg (by rw [hC.1]; exact hs)]
      exact rRecover_size k (by omega) _ c lenc capc hs w
end Go.Proofs.Ytoednighmdoooaa
