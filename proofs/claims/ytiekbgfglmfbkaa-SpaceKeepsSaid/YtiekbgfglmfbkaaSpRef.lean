/-
  The document's own functions of layer 12: May, Check, New, All, With, Settled, Same.
-/
import Derived.Test.YtiekbgfglmfbkaaSpFree
import Derived.Test.YtiekbgfglmfbkaaMovI
namespace Go.Proofs.Ytiekbgfglmfbkaa
open Go.RowKit Go.Shelf
set_option maxRecDepth 100000

set_option maxHeartbeats 1000000 in
theorem rsMay_yes (a : Option Addr) (n c B : Nat) (s : List UInt8) (w : World) (hA : Bsl w B a n c s) (h : MayT s) : Calls Try.prog 28 #[.slice a n c] w fun e w' => e = .returned (.bool true) ∧ w = w' := by
  have hn := h.len_of hA
  subst hn
  obtain ⟨b, off, rfl, _⟩ := hA.at_ (by omega)
  have HA := Lib.hid hA
  have HM := Lib.hid h
  clear hA h
  go_enter Try.func28, Try.ntmps28
  go_wp2_with fail
  go_loop [3] (fun i => ∃ k : Nat, k ≤ 256 ∧ i = .int .i64 k) (fun i => 256 - (intOf i).toNat)
  case atStart => exact ⟨0, Nat.zero_le _, rfl⟩
  case round =>
    obtain ⟨k, hk, rfl⟩ := hrel
    have k0 : (0 : Int) ≤ k := by omega
    by_cases hlt : k < 256
    · have k1 : (k : Int) < 256 := by omega
      have hc := HA.out.mk k hlt
      have h2 := HM.out.2.1 k hlt
      by_cases h12 : k < 12
      · rw [HM.out.2.2 k h12] at hc
        have k3 : (k : Int) < 12 := by omega
        clear h2
        go_wp2_with fail
        go_round
        case rel => exact ⟨k + 1, by omega, by go_num⟩
        case measure => simp [intOf]; omega
      · obtain ⟨x, hx⟩ : ∃ x : Nat, mkT s k = x := ⟨_, rfl⟩
        rw [hx] at hc h2
        have k3 : (12 : Int) ≤ k := by omega
        have x1 : (x : Int) ≤ 2 := by omega
        have x0 : (0 : Int) ≤ x := by omega
        clear hx h2
        go_wp2_with fail
        go_round
        case rel => exact ⟨k + 1, by omega, by go_num⟩
        case measure => simp [intOf]; omega
    · have hkk : k = 256 := by omega
      have k3 : (256 : Int) ≤ k := by omega
      clear hkk hlt hk
      go_wp2_with fail
      go_ret
      exact ⟨rfl, rfl⟩
set_option maxHeartbeats 1000000 in
theorem rsMay_no (a : Option Addr) (n c B : Nat) (s : List UInt8) (w : World) (hA : Bsl w B a n c s) (h : ¬ MayT s) : Calls Try.prog 28 #[.slice a n c] w fun e w' => e = .returned (.bool false) ∧ w = w' := by
  by_cases hn : n = 256
  · subst hn
    have hl := hA.1
    have hf : ∃ j, j < 256 ∧ (2 < mkT s j ∨ j < 12 ∧ mkT s j ≠ 1) ∧ ∀ i, i < j → ¬ (2 < mkT s i ∨ i < 12 ∧ mkT s i ≠ 1) := by
      rcases first_from (fun i => 2 < mkT s i ∨ i < 12 ∧ mkT s i ≠ 1) 0 256 with ⟨k, _, h1, h2, h3⟩ | h0
      · exact ⟨k, h1, h2, fun i hi => h3 i (Nat.zero_le _) hi⟩
      · exact absurd ⟨hl, fun i hi => by have := h0 i (Nat.zero_le _) hi; omega, fun i hi => by have := h0 i (Nat.zero_le _) (by omega); omega⟩ h
    obtain ⟨j, hj, hjb, hj0⟩ := hf
    obtain ⟨b, off, rfl, _⟩ := hA.at_ (by omega)
    have HA := Lib.hid hA
    have HJ := Lib.hid hjb
    have H0 := Lib.hid hj0
    clear hA h hl hjb hj0
    go_enter Try.func28, Try.ntmps28
    go_wp2_with fail
    go_loop [3] (fun i => ∃ k : Nat, k ≤ j ∧ i = .int .i64 k) (fun i => 256 - (intOf i).toNat)
    case atStart => exact ⟨0, Nat.zero_le _, rfl⟩
    case round =>
      obtain ⟨k, hk, rfl⟩ := hrel
      have k0 : (0 : Int) ≤ k := by omega
      have k1 : (k : Int) < 256 := by omega
      have hlt : k < 256 := by omega
      have hc := HA.out.mk k hlt
      obtain ⟨x, hx⟩ : ∃ x : Nat, mkT s k = x := ⟨_, rfl⟩
      have x0 : (0 : Int) ≤ x := by omega
      rw [hx] at hc
      by_cases hkj : k < j
      · have h1 := H0.out k hkj
        rw [hx] at h1
        have x1 : (x : Int) ≤ 2 := by omega
        by_cases h12 : k < 12
        · have k3 : (k : Int) < 12 := by omega
          have hx1 : x = 1 := by omega
          rw [hx1] at hc
          clear h1 hx x1 x0 hx1
          go_wp2_with fail
          go_round
          case rel => exact ⟨k + 1, by omega, by go_num⟩
          case measure => simp [intOf]; omega
        · have k3 : (12 : Int) ≤ k := by omega
          clear h1 hx
          go_wp2_with fail
          go_round
          case rel => exact ⟨k + 1, by omega, by go_num⟩
          case measure => simp [intOf]; omega
      · have h1 := HJ.out
        rw [show j = k by omega, hx] at h1
        by_cases h2 : 2 < x
        · have x1 : (2 : Int) < x := by omega
          clear h1 hx hkj hk
          go_wp2_with fail
          go_ret
          exact ⟨rfl, rfl⟩
        · have x1 : (x : Int) ≤ 2 := by omega
          have k3 : (k : Int) < 12 := by omega
          have e1 : ((x : Int) != 1) = true := by simp; omega
          clear h1 hx hkj hk h2
          go_wp2_with fail
          go_ret
          exact ⟨rfl, rfl⟩
  · have n1 := hA.len_le
    have hb : ((n : Int) != 256) = true := by simp; omega
    clear hA h hn
    go_enter Try.func28, Try.ntmps28
    go_wp2_with fail
    go_ret
    exact ⟨rfl, rfl⟩
theorem rsCheck_yes (a : Option Addr) (n c B : Nat) (s : List UInt8) (w : World) (hA : Bsl w B a n c s) (h : MayT s) : Calls Try.prog 20 #[.slice a n c] w fun e w' => e = .returned (.int .i64 0) ∧ w = w' := by
  have HM := Lib.hid (rsMay_yes a n c B s w hA h)
  clear hA h
  go_enter Try.func20, Try.ntmps20
  go_wp2_with fail
  refine HM.out.mono ?_
  rintro e w1 ⟨rfl, rfl⟩
  go_wp2_with fail
  go_ret
  exact ⟨rfl, rfl⟩
theorem rsCheck_no (a : Option Addr) (n c B : Nat) (s : List UInt8) (w : World) (hA : Bsl w B a n c s) (h : ¬ MayT s) : Calls Try.prog 20 #[.slice a n c] w fun e w' => e = .returned (.int .i64 8) ∧ w = w' := by
  have HM := Lib.hid (rsMay_no a n c B s w hA h)
  clear hA h
  go_enter Try.func20, Try.ntmps20
  go_wp2_with fail
  refine HM.out.mono ?_
  rintro e w1 ⟨rfl, rfl⟩
  go_wp2_with fail
  go_ret
  exact ⟨rfl, rfl⟩
set_option maxHeartbeats 1000000 in
theorem rsNew_any (w : World) : Calls Try.prog 21 #[] w (OwnV 256 (newTo 12) w) := by
  have hmk : ∀ W : World, (Instr.makeSlice 26 (.int .i64 256) (.int .i64 256)).run Try.prog W = .ok (.slice (some ⟨W.heap.size, 0, none⟩) 256 256) (W.alloc (.cells (Array.replicate 256 (.int .u8 0)) 5)) := fun W => by kernel_rfl
  obtain ⟨g, hg⟩ : ∃ g, w.heap.size = g := ⟨_, rfl⟩
  obtain ⟨w1, hw1⟩ : ∃ w1, w.alloc (.cells (Array.replicate 256 (.int .u8 0)) 5) = w1 := ⟨_, rfl⟩
  have hown : w1.ownsRow g 5 1 (.slice (some ⟨g, 0, none⟩) 256 256) 256 (vals (newTo 0)) := by
    subst hw1; subst hg
    refine ⟨by simp [vals, newTo], .inr ⟨w.heap.size, 256, Array.replicate 256 (.int .u8 0), rfl, Nat.le_refl _, heap_alloc_new w _, Nat.le_refl _, by unfold maxLen; omega, by simp, ?_⟩⟩
    simp [newTo, vals]
  have hb : Below g w w1 := by
    subst hw1; subst hg
    exact (Below.refl _ w).alloc (Nat.le_refl _) _
  have HO := Lib.hid hown
  have HB := Lib.hid hb
  have HG := Lib.hid hg
  have hmk' : (Instr.makeSlice 26 (.int .i64 256) (.int .i64 256)).run Try.prog w = .ok (.slice (some ⟨g, 0, none⟩) 256 256) w1 := by rw [hmk w, hg, hw1]
  clear hown hb hmk hw1 hg
  go_enter Try.func21, Try.ntmps21
  go_wp2_with fail
  go_loopw [2] (fun i wr => ∃ k : Nat, k ≤ 12 ∧ i = .int .i64 k ∧ wr.ownsRow g 5 1 (.slice (some ⟨g, 0, none⟩) 256 256) 256 (vals (newTo k)) ∧ Below g w wr) (fun i _ => 12 - (intOf i).toNat)
  case atStart => exact ⟨0, Nat.zero_le _, rfl, HO.out, HB.out⟩
  case round =>
    obtain ⟨k, hk, rfl, ho, hb⟩ := hrel
    have k0 : (0 : Int) ≤ k := by omega
    by_cases hlt : k < 12
    · have k1 : (k : Int) < 12 := by omega
      have hc := own_mk ho k (by omega)
      have hw := own_set ho k (by omega) 1
      rw [newTo_set (by omega)] at hw
      have HB2 := Lib.hid (hb.setCell (p := ⟨g, k, none⟩) (Nat.le_refl _) (.int .u8 1))
      have HO2 := Lib.hid (show (wr.setCell ⟨g, k, none⟩ (.int .u8 1)).ownsRow g 5 1 (.slice (some ⟨g, 0, none⟩) 256 256) 256 (vals (newTo (k + 1))) from hw)
      have hf : wr.frozen? ⟨g, k, none⟩ = false := by
        obtain ⟨cs, hbk⟩ := own_blk ho
        exact hbk.frozen k
      clear ho hb hw
      go_wp2_with fail
      go_roundw
      case rel => exact ⟨k + 1, by omega, by go_num, HO2.out, HB2.out⟩
      case measure => simp [intOf]; omega
    · have hkk : k = 12 := by omega
      rw [hkk] at ho ⊢
      have HO2 := Lib.hid ho
      have HB2 := Lib.hid hb
      clear ho hb hkk hlt hk k0
      go_wp2_with fail
      go_ret
      exact ⟨_, rfl, by rw [HG.out]; exact HO2.out, by rw [HG.out]; exact HB2.out⟩
set_option maxHeartbeats 1000000 in
/-- All free blocks, rising: a list of the call's own. -/
theorem rsAll_any (a : Option Addr) (c B : Nat) (s : List UInt8) (w : World) (hA : Bsl w B a 256 c s) (hB : B ≤ w.heap.size) : Calls Try.prog 29 #[.slice a 256 c] w (NewN (freeTo s 256).length (freeTo s 256) w) := by
  obtain ⟨b, off, rfl, _⟩ := hA.at_ (by omega)
  have HA := Lib.hid (hA.more hB)
  clear hA hB
  go_enter Try.func29, Try.ntmps29
  go_wp2_with fail
  go_loopw [3, 4] (fun v i wr => ∃ k : Nat, k ≤ 256 ∧ i = .int .i64 k ∧ wr.ownsRow w.heap.size 3 1 v (freeTo s k).length (valsN (freeTo s k)) ∧ Below w.heap.size w wr) (fun _ i _ => 256 - (intOf i).toNat)
  case atStart => exact ⟨0, Nat.zero_le _, rfl, World.ownsRow_nil _ _ _ _, Below.refl _ _⟩
  case round =>
    obtain ⟨k, hk, rfl, ho, hb⟩ := hrel
    have k0 : (0 : Int) ≤ k := by omega
    by_cases hlt : k < 256
    · have k1 : (k : Int) < 256 := by omega
      have hc := (HA.out.below hb).mk k hlt
      by_cases hz : mkT s k = 0
      · rw [hz] at hc
        have hl : (freeTo s k).length ≤ k := freeTo_le s k
        have hfy : freeTo s k ++ [k] = freeTo s (k + 1) := (freeTo_yes hz).symm
        have hfl : (freeTo s k).length + 1 = (freeTo s (k + 1)).length := by rw [← hfy]; simp
        have HN1 := Lib.hid (one_nsl wr k)
        have HOr := Lib.hid (ho.alloc (.cells #[.int .i64 (k : Int)] 3))
        have HBr := Lib.hid (hb.alloc hb.size (.cells #[.int .i64 (k : Int)] 3))
        have HFY := Lib.hid hfy
        have HFL := Lib.hid hfl
        clear ho hb hz hfy hfl
        go_wp2_with (at_builtin
                     refine wpList_append_nsl rfl (.tmp 14) (.tmp 16) rfl w.heap.size _ (freeTo s k).length _ rfl HOr.out _ (some ⟨wr.heap.size, 0, none⟩) 1 1 [k] rfl HN1.out (by omega) HBr.out.size ?_
                     intro v' W3 hown' hg'
                     rw [HFY.out, HFL.out] at hown'
                     have HB3 := Lib.hid (app_below HBr.out HOr.out hg' HBr.out.size); clear hg'
                     have HO3 := Lib.hid hown'; clear hown')
        go_roundw
        case rel => exact ⟨k + 1, by omega, by go_num, HO3.out, HB3.out⟩
        case measure => simp [intOf]; omega
      · rw [← freeTo_no hz] at ho
        obtain ⟨x, hx⟩ : ∃ x : Nat, mkT s k = x := ⟨_, rfl⟩
        rw [hx] at hc hz
        have e2 : ((x : Int) == 0) = false := by simp; omega
        have HB2 := Lib.hid hb
        have HO2 := Lib.hid ho
        clear ho hb hz hx
        go_wp2_with fail
        go_roundw
        case rel => exact ⟨k + 1, by omega, by go_num, HO2.out, HB2.out⟩
        case measure => simp [intOf]; omega
    · have hkk : k = 256 := by omega
      rw [hkk] at ho
      have HO2 := Lib.hid ho
      have HB2 := Lib.hid hb
      have k3 : (256 : Int) ≤ k := by omega
      clear ho hb hkk hlt hk
      go_wp2_with fail
      go_ret
      exact ⟨_, rfl, HO2.out, HB2.out⟩
set_option maxHeartbeats 1000000 in
theorem rsWith_any (a : Option Addr) (n c : Nat) (s : List UInt8) (k : Nat) (y : UInt8) (w : World) (hA : Bsl w w.heap.size a n c s) (hk : k < n) (hn : n ≤ 20000) : Calls Try.prog 30 #[.slice a n c, .int .i64 k, .int .u8 (y.toNat : Int)] w (OwnV n (s.set k y) w) := by
  have HA := Lib.hid hA
  have HO0 := Lib.hid (own_nil w w.heap.size)
  have HB0 := Lib.hid (Below.refl w.heap.size w)
  have k0 : (0 : Int) ≤ k := by omega
  have k1 : (k : Int) < n := by omega
  have h0n : 0 < n := by omega
  obtain ⟨z, hz⟩ : ∃ z : Int, (y.toNat : Int) = z := ⟨_, rfl⟩
  have HZ := Lib.hid hz
  rw [hz]
  clear hz hA
  go_enter Try.func30, Try.ntmps30
  go_wp2_with (at_builtin
               refine wpList_append_bsl rfl (.const (.slice none 0 0)) (.tmp 8) rfl w.heap.size _ 0 _ rfl HO0.out _ a n c s rfl HA.out (by omega) HB0.out.size ?_
               intro v1 w1 ho hg1
               rw [Nat.zero_add, List.nil_append] at ho
               have b1 := app_below HB0.out HO0.out hg1 HB0.out.size; clear hg1
               obtain ⟨g, c', rfl⟩ := own_at ho h0n
               have hc := own_mk ho k hk
               have hw := own_set ho k hk y
               rw [HZ.out] at hw
               have hlt := own_lt ho
               have HB := Lib.hid (b1.setCell (p := ⟨g, k, none⟩) hlt.1 (.int .u8 z))
               have HO := Lib.hid hw
               have hf : w1.frozen? ⟨g, k, none⟩ = false := by
                 obtain ⟨cs, hbk⟩ := own_blk ho
                 exact hbk.frozen k
               clear ho b1 hw hlt)
  go_ret
  exact ⟨_, rfl, HO.out, HB.out⟩
set_option maxHeartbeats 1000000 in
theorem rsSettled_any (a : Option Addr) (c : Nat) (s : List UInt8) (w : World) (hA : Bsl w w.heap.size a 256 c s) : Calls Try.prog 31 #[.slice a 256 c] w (OwnV 256 (settleL s) w) := by
  have HA := Lib.hid hA
  have hls := hA.1
  have HO0 := Lib.hid (own_nil w w.heap.size)
  have HB0 := Lib.hid (Below.refl w.heap.size w)
  have HLS := Lib.hid hls
  clear hA hls
  go_enter Try.func31, Try.ntmps31
  go_wp2_with (at_builtin
               refine wpList_append_bsl rfl (.const (.slice none 0 0)) (.tmp 5) rfl w.heap.size _ 0 _ rfl HO0.out _ a 256 c s rfl HA.out (by omega) HB0.out.size ?_
               intro v1 w1 ho hg1
               rw [Nat.zero_add, List.nil_append] at ho
               have b1 := app_below HB0.out HO0.out hg1 HB0.out.size; clear hg1
               obtain ⟨g, c', rfl⟩ := own_at ho (by omega)
               have HB := Lib.hid b1
               have HO := Lib.hid ho
               clear ho b1)
  go_loopw [4] (fun i wr => ∃ k : Nat, k ≤ 256 ∧ i = .int .i64 k ∧ wr.ownsRow w.heap.size 5 1 (.slice (some ⟨g, 0, none⟩) 256 c') 256 (vals (stTo s k)) ∧ Below w.heap.size w wr) (fun i _ => 256 - (intOf i).toNat)
  case atStart => exact ⟨0, Nat.zero_le _, rfl, HO.out, HB.out⟩
  case round =>
    obtain ⟨k, hk, rfl, ho, hb⟩ := hrel
    have k0 : (0 : Int) ≤ k := by omega
    by_cases hlt : k < 256
    · have k1 : (k : Int) < 256 := by omega
      have hc := own_mk ho k hlt
      have e0 : mkT (stTo s k) k = mkT s k := by
        rw [stTo_mk s k (by rw [HLS.out]; omega), if_neg (fun h => absurd h.1 (Nat.lt_irrefl _))]
      rw [e0] at hc
      by_cases h2 : mkT s k = 2
      · rw [h2] at hc
        have hs : stTo s (k + 1) = (stTo s k).set k 0 := by rw [stTo, if_pos h2]
        have hw := own_set ho k hlt 0
        rw [← hs] at hw
        have HB2 := Lib.hid (hb.setCell (p := ⟨g, k, none⟩) (own_lt ho).1 (.int .u8 0))
        have HO2 := Lib.hid (show (wr.setCell ⟨g, k, none⟩ (.int .u8 0)).ownsRow w.heap.size 5 1 (.slice (some ⟨g, 0, none⟩) 256 c') 256 (vals (stTo s (k + 1))) from hw)
        have hf : wr.frozen? ⟨g, k, none⟩ = false := by
          obtain ⟨cs, hbk⟩ := own_blk ho
          exact hbk.frozen k
        clear ho hb hw hs h2 e0
        go_wp2_with fail
        go_roundw
        case rel => exact ⟨k + 1, by omega, by go_num, HO2.out, HB2.out⟩
        case measure => simp [intOf]; omega
      · have hs : stTo s (k + 1) = stTo s k := by rw [stTo, if_neg h2]
        clear e0
        obtain ⟨x, hx⟩ : ∃ x : Nat, mkT s k = x := ⟨_, rfl⟩
        rw [hx] at hc h2
        have e2 : ((x : Int) == 2) = false := by simp; omega
        rw [← hs] at ho
        have HB2 := Lib.hid hb
        have HO2 := Lib.hid ho
        clear ho hb hs h2 hx
        go_wp2_with fail
        go_roundw
        case rel => exact ⟨k + 1, by omega, by go_num, HO2.out, HB2.out⟩
        case measure => simp [intOf]; omega
    · have hkk : k = 256 := by omega
      rw [hkk] at ho
      have HO2 := Lib.hid ho
      have HB2 := Lib.hid hb
      have k3 : (256 : Int) ≤ k := by omega
      clear ho hb hkk hlt hk
      go_wp2_with fail
      go_ret
      exact ⟨_, rfl, HO2.out, HB2.out⟩
end Go.Proofs.Ytiekbgfglmfbkaa
