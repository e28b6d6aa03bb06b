/-
  The document's own Free, Take, Give, Settle and Same of layer 12.
-/
import Derived.Test.YtiekbgfglmfbkaaSpRef
namespace Go.Proofs.Ytiekbgfglmfbkaa
open Go.RowKit Go.Shelf
set_option maxRecDepth 100000

theorem rsFree_bad (a : Option Addr) (n c B : Nat) (s : List UInt8) (w : World) (hA : Bsl w B a n c s) (h : ¬ MayT s) : Calls Try.prog 15 #[.slice a n c] w (OutF 8 [] w) := by
  have HM := Lib.hid (rsMay_no a n c B s w hA h)
  clear hA h
  go_enter Try.func15, Try.ntmps15
  go_wp2_with fail
  refine HM.out.mono ?_
  rintro e w1 ⟨rfl, rfl⟩
  go_wp2_with fail
  go_ret2
  exact outF_nil 8 w
theorem rsFree_ok (a : Option Addr) (n c : Nat) (s : List UInt8) (w : World) (hA : Bsl w w.heap.size a n c s) (h : MayT s) : Calls Try.prog 15 #[.slice a n c] w (OutF 0 (freeTo s 256) w) := by
  have HM := Lib.hid (rsMay_yes a n c _ s w hA h)
  have hn := h.len_of hA
  subst hn
  have HF := Lib.hid (rsAll_any a c _ s w hA (Nat.le_refl _))
  clear hA h
  go_enter Try.func15, Try.ntmps15
  go_wp2_with fail
  refine HM.out.mono ?_
  rintro e w1 ⟨rfl, rfl⟩
  go_wp2_with fail
  refine HF.out.mono ?_
  rintro e w1 ⟨v, rfl, ho, b1⟩
  have HO := Lib.hid ho
  have HB := Lib.hid b1
  clear ho b1
  go_wp2_with fail
  go_ret2
  exact ⟨_, rfl, HO.out, HB.out⟩
theorem rsSettle_bad (a : Option Addr) (n c B : Nat) (s : List UInt8) (w : World) (hA : Bsl w B a n c s) (h : ¬ MayT s) : Calls Try.prog 18 #[.slice a n c] w (OutL 8 [] w) := by
  have HM := Lib.hid (rsMay_no a n c B s w hA h)
  clear hA h
  go_enter Try.func18, Try.ntmps18
  go_wp2_with fail
  refine HM.out.mono ?_
  rintro e w1 ⟨rfl, rfl⟩
  go_wp2_with fail
  go_ret2
  exact outL_nil 8 w
theorem rsSettle_ok (a : Option Addr) (n c : Nat) (s : List UInt8) (w : World) (hA : Bsl w w.heap.size a n c s) (h : MayT s) : Calls Try.prog 18 #[.slice a n c] w (OutL 0 (settleL s) w) := by
  have HM := Lib.hid (rsMay_yes a n c _ s w hA h)
  have hn := h.len_of hA
  subst hn
  have HF := Lib.hid (rsSettled_any a c s w hA)
  have HL := Lib.hid (show (settleL s).length = 256 from (settleL_may h).1)
  clear hA h
  go_enter Try.func18, Try.ntmps18
  go_wp2_with fail
  refine HM.out.mono ?_
  rintro e w1 ⟨rfl, rfl⟩
  go_wp2_with fail
  refine HF.out.mono ?_
  rintro e w1 ⟨v, rfl, ho, b1⟩
  have HO := Lib.hid ho
  have HB := Lib.hid b1
  clear ho b1
  go_wp2_with fail
  go_ret2
  exact ⟨_, rfl, by rw [HL.out]; exact HO.out, HB.out⟩
theorem rsGive_bad (a : Option Addr) (n c B : Nat) (s : List UInt8) (k : Int) (w : World) (hA : Bsl w B a n c s) (h : ¬ MayT s) : Calls Try.prog 17 #[.slice a n c, .int .i64 k] w (OutL 8 [] w) := by
  have HM := Lib.hid (rsMay_no a n c B s w hA h)
  clear hA h
  go_enter Try.func17, Try.ntmps17
  go_wp2_with fail
  refine HM.out.mono ?_
  rintro e w1 ⟨rfl, rfl⟩
  go_wp2_with fail
  go_ret2
  exact outL_nil 8 w
theorem rsGive_arg (a : Option Addr) (n c B : Nat) (s : List UInt8) (k : Int) (hk : k < 12 ∨ 256 ≤ k) (w : World) (hA : Bsl w B a n c s) (h : MayT s) : Calls Try.prog 17 #[.slice a n c, .int .i64 k] w (OutL 2 [] w) := by
  have HM := Lib.hid (rsMay_yes a n c B s w hA h)
  clear hA h
  rcases hk with hk | hk
  all_goals
    go_enter Try.func17, Try.ntmps17
    go_wp2_with fail
    refine HM.out.mono ?_
    rintro e w1 ⟨rfl, rfl⟩
    go_wp2_with fail
    go_ret2
    exact outL_nil 2 w
theorem rsGive_none (a : Option Addr) (n c B : Nat) (s : List UInt8) (k : Nat) (hk : 12 ≤ k) (hk2 : k < 256) (w : World) (hA : Bsl w B a n c s) (h : MayT s) (h1 : mkT s k ≠ 1) : Calls Try.prog 17 #[.slice a n c, .int .i64 k] w (OutL 6 [] w) := by
  have HM := Lib.hid (rsMay_yes a n c B s w hA h)
  have hn := h.len_of hA
  subst hn
  obtain ⟨b, off, rfl, _⟩ := hA.at_ (by omega)
  have hc := hA.mk k hk2
  obtain ⟨x, hx⟩ : ∃ x : Nat, mkT s k = x := ⟨_, rfl⟩
  rw [hx] at hc h1
  have e1 : ((x : Int) != 1) = true := by simp; omega
  have k0 : (0 : Int) ≤ k := by omega
  have k1 : (12 : Int) ≤ k := by omega
  have k2 : (k : Int) < 256 := by omega
  clear hA h h1 hx
  go_enter Try.func17, Try.ntmps17
  go_wp2_with fail
  refine HM.out.mono ?_
  rintro e w1 ⟨rfl, rfl⟩
  go_wp2_with fail
  go_ret2
  exact outL_nil 6 w
theorem rsGive_ok (a : Option Addr) (n c : Nat) (s : List UInt8) (k : Nat) (hk : 12 ≤ k) (hk2 : k < 256) (w : World) (hA : Bsl w w.heap.size a n c s) (h : MayT s) (h1 : mkT s k = 1) : Calls Try.prog 17 #[.slice a n c, .int .i64 k] w (OutL 0 (s.set k 2) w) := by
  have HM := Lib.hid (rsMay_yes a n c _ s w hA h)
  have hn := h.len_of hA
  subst hn
  have HW := Lib.hid (rsWith_any a 256 c s k 2 w hA hk2 (by omega))
  have hl : (s.set k 2).length = 256 := by simp [h.1]
  have HL := Lib.hid hl
  obtain ⟨b, off, rfl, _⟩ := hA.at_ (by omega)
  have hc := hA.mk k hk2
  rw [h1] at hc
  have k0 : (0 : Int) ≤ k := by omega
  have k1 : (12 : Int) ≤ k := by omega
  have k2 : (k : Int) < 256 := by omega
  clear hA h h1 hl
  go_enter Try.func17, Try.ntmps17
  go_wp2_with fail
  refine HM.out.mono ?_
  rintro e w1 ⟨rfl, rfl⟩
  go_wp2_with fail
  refine HW.out.mono ?_
  rintro e w1 ⟨v, rfl, ho, b1⟩
  have HO := Lib.hid ho
  have HB := Lib.hid b1
  clear ho b1
  go_wp2_with fail
  go_ret2
  exact ⟨_, rfl, by rw [HL.out]; exact HO.out, HB.out⟩
theorem rsTake_bad (a : Option Addr) (n c B : Nat) (s : List UInt8) (w : World) (hA : Bsl w B a n c s) (h : ¬ MayT s) : Calls Try.prog 16 #[.slice a n c] w (OutTk 8 [] 0 w) := by
  have HM := Lib.hid (rsMay_no a n c B s w hA h)
  clear hA h
  go_enter Try.func16, Try.ntmps16
  go_wp2_with fail
  refine HM.out.mono ?_
  rintro e w1 ⟨rfl, rfl⟩
  go_wp2_with fail
  go_ret3
  exact outTk_nil 8 w
theorem ownN_slice {w : World} {B n : Nat} {v : Value} {xs : List Value} (h : w.ownsRow B 3 1 v n xs) : ∃ a cap, v = .slice a n cap := by
  rcases h.2 with ⟨rfl, h0⟩ | ⟨g, cap, cur, rfl, _⟩
  · exact ⟨none, 0, by rw [h0]⟩
  · exact ⟨_, _, rfl⟩
theorem rsTake_full (a : Option Addr) (n c : Nat) (s : List UInt8) (w : World) (hA : Bsl w w.heap.size a n c s) (h : MayT s) (h0 : ∀ i, i < 256 → mkT s i ≠ 0) : Calls Try.prog 16 #[.slice a n c] w (OutTk 9 [] 0 w) := by
  have HM := Lib.hid (rsMay_yes a n c _ s w hA h)
  have hn := h.len_of hA
  subst hn
  have hf := rsAll_any a c _ s w hA (Nat.le_refl _)
  have e0 : freeTo s 256 = [] := freeTo_same (p := 0) (Nat.zero_le _) fun i _ hi => h0 i hi
  rw [e0] at hf
  have HF := Lib.hid hf
  clear hA h hf h0 e0
  go_enter Try.func16, Try.ntmps16
  go_wp2_with fail
  refine HM.out.mono ?_
  rintro e w1 ⟨rfl, rfl⟩
  go_wp2_with fail
  refine HF.out.mono ?_
  rintro e w1 ⟨v, rfl, ho, b1⟩
  obtain ⟨ga, ca, rfl⟩ := ownN_slice ho
  have HB := Lib.hid b1
  clear ho b1
  simp only [List.length_nil]
  go_wp2_with fail
  go_ret3
  exact ⟨_, rfl, World.ownsRow_nil _ _ _ _, HB.out⟩
set_option maxHeartbeats 2000000 in
theorem rsTake_ok (a : Option Addr) (n c : Nat) (s : List UInt8) (k : Nat) (w : World) (hA : Bsl w w.heap.size a n c s) (h : MayT s) (hk : k < 256) (hz : mkT s k = 0) (h0 : ∀ i, i < k → mkT s i ≠ 0) : Calls Try.prog 16 #[.slice a n c] w (OutTk 0 (s.set k 1) k w) := by
  have hmx : Try.prog.follows Departure.mixedOrders = true := by kernel_rfl
  have HM := Lib.hid (rsMay_yes a n c _ s w hA h)
  have hn := h.len_of hA
  subst hn
  have hl : (s.set k 1).length = 256 := by simp [h.1]
  have HL := Lib.hid hl
  have hf := rsAll_any a c _ s w hA (Nat.le_refl _)
  obtain ⟨L, hL⟩ : ∃ L, freeTo s 256 = L := ⟨_, rfl⟩
  have hL0 : L.getD 0 0 = k ∧ 0 < L.length := by
    have e1 : ∀ m, k < m → ∃ r, freeTo s m = k :: r := by
      intro m hm
      induction m with
      | zero => omega
      | succ m ih =>
        rcases Nat.lt_or_ge k m with h1 | h1
        · obtain ⟨r, hr⟩ := ih h1
          by_cases h2 : mkT s m = 0
          · exact ⟨r ++ [m], by rw [freeTo_yes h2, hr]; rfl⟩
          · exact ⟨r, by rw [freeTo_no h2, hr]⟩
        · obtain rfl : m = k := by omega
          refine ⟨[], ?_⟩
          rw [freeTo_yes hz, freeTo_same (p := 0) (Nat.zero_le _) fun i _ hi => h0 i hi]
          rfl
    obtain ⟨r, hr⟩ := e1 256 hk
    rw [← hL, hr]
    exact ⟨rfl, Nat.succ_pos _⟩
  have hLm : L.length ≤ 256 := by rw [← hL]; exact freeTo_le s 256
  rw [hL] at hf
  have HF := Lib.hid hf
  have HL0 := Lib.hid hL0
  have HA := Lib.hid hA
  have l0 : (0 : Int) < L.length := by omega
  have l1 : ((L.length : Int) == 0) = false := by rw [beq_eq_false_iff_ne]; omega
  have l2 : 0 < L.length := hL0.2
  clear hA h h0 hz hl hf hL0 hL
  go_enter Try.func16, Try.ntmps16
  go_wp2_with fail
  refine HM.out.mono ?_
  rintro e w1 ⟨rfl, rfl⟩
  go_wp2_with fail
  refine HF.out.mono ?_
  rintro e w1 ⟨v, rfl, ho, b1⟩
  obtain ⟨g, cg, rfl, hgb, hgl, hN⟩ := nsl_of_own ho HL0.out.2
  have HB := Lib.hid b1
  have HN := Lib.hid hN
  have HA1 := Lib.hid (HA.out.step b1)
  clear ho b1 hgb hgl hN
  go_wp2_with fail
  obtain ⟨wd, hwd⟩ : ∃ wd, w1.drew = wd := ⟨_, rfl⟩
  have bd : Below w1.heap.size w1 wd := by rw [← hwd]; exact (Below.refl _ w1).drew
  have HBd := Lib.hid (HB.out.trans (bd.mono HB.out.size))
  have HNd := Lib.hid (HN.out.step bd)
  have HAd := Lib.hid (HA1.out.step bd)
  clear bd
  have HW := Lib.hid (rsWith_any a 256 c s k 1 wd HAd.out hk (by omega))
  have hcD : ∀ X : World, Below wd.heap.size wd X → X.cell? ⟨g, 0, none⟩ = some (.int .i64 (k : Int)) := fun X hX => by
    have := (HNd.out.below hX).cell0 0 HL0.out.2
    rw [HL0.out.1] at this
    exact this
  have HC := Lib.hid hcD
  clear hcD
  refine wpI_start (Below wd.heap.size wd) [0, 1, 2, 3, 5, 6, 7, 4, 8, 9, 10] hmx rfl hwd ?_
  have hb0 := Below.refl wd.heap.size wd
  iterate 7 (
    refine wpI_read (v := ?_) hb0 rfl (by kernel_rfl) (by kernel_rfl) (by kernel_rfl) (fun _ _ _ h => h) (.inl ⟨by rfl, ?_⟩) ?_
    rotate_left
    · intro X hX
      have hcx := HC.out X hX
      clear hX
      go_simp
      with_reducible rfl
    try simp only [Act.put, List.setIfInBounds_toArray, List.set_cons_zero, List.set_cons_succ])
  refine wpI_lone rfl (by kernel_rfl) (fun K hK => ?_)
  go_simp
  refine HW.out.mono ?_
  rintro ev wx ⟨v, rfl, ho, b2⟩
  refine hK _ _ b2 ?_
  clear hK K
  try simp only [Act.put, List.setIfInBounds_toArray, List.set_cons_zero, List.set_cons_succ]
  iterate 3 (
    refine wpI_read (v := ?_) b2 rfl (by kernel_rfl) (by kernel_rfl) (by kernel_rfl) (fun _ _ _ h => h) (.inl ⟨by rfl, ?_⟩) ?_
    rotate_left
    · intro X hX
      clear hX
      go_simp
      with_reducible rfl
    try simp only [Act.put, List.setIfInBounds_toArray, List.set_cons_zero, List.set_cons_succ])
  refine wpI_done (by kernel_rfl) ?_
  have HO := Lib.hid (own_mono ho HBd.out.size)
  have HB2 := Lib.hid (HBd.out.trans (b2.mono HBd.out.size))
  clear ho b2
  go_wp2_with fail
  go_ret3
  exact ⟨_, rfl, by rw [HL.out]; exact HO.out, HB2.out⟩
set_option maxHeartbeats 1000000 in
/-- Two lists that are the same. -/
theorem rsSame_yes (a : Option Addr) (n c : Nat) (b : Option Addr) (d : Nat) (x : List Nat) (w : World) (hA : Nsl w w.heap.size a n c x) (hB : Nsl w w.heap.size b n d x) (hx : n ≤ 100000) : Calls Try.prog 19 #[.slice a n c, .slice b n d] w fun e w' => e = .returned (.bool true) ∧ Below w.heap.size w w' := by
  have hmx : Try.prog.follows Departure.mixedOrders = true := by kernel_rfl
  have n0 : (0 : Int) ≤ n := by omega
  have n1 : (n : Int) ≤ 9223372036854775807 := by omega
  have h0 : ((n : Int) != n) = false := by simp
  have HA := Lib.hid hA
  have HB := Lib.hid hB
  clear hA hB
  go_enter Try.func19, Try.ntmps19
  go_wp2_with fail
  clear h0
  go_loopw [5] (fun i wr => ∃ k : Nat, k ≤ n ∧ i = .int .i64 k ∧ Below w.heap.size w wr) (fun i _ => n - (intOf i).toNat)
  case atStart => exact ⟨0, Nat.zero_le _, rfl, Below.refl _ _⟩
  case round =>
    obtain ⟨k, hk, rfl, hb⟩ := hrel
    have k0 : (0 : Int) ≤ k := by omega
    by_cases hlt : k < n
    · have k1 : (k : Int) < n := by omega
      have HA2 := Lib.hid (HA.out.below hb)
      have HB2 := Lib.hid (HB.out.below hb)
      obtain ⟨ba, oa, rfl, _⟩ := HA.out.2.2.2.2 (by omega)
      obtain ⟨bb, ob, rfl, _⟩ := HB.out.2.2.2.2 (by omega)
      have c1 := HA2.out.cellD k hlt
      have c2 := HB2.out.cellD k hlt
      obtain ⟨y, hy⟩ : ∃ y : Nat, x.getD k 0 = y := ⟨_, rfl⟩
      rw [hy] at c1 c2
      have e1 : ((y : Int) != y) = false := by simp
      have HBB := Lib.hid hb
      clear hb hy
      go_wp2_with fail
      go_quiet (fail)
      go_wp2_with fail
      go_roundw
      case rel => exact ⟨k + 1, by omega, by go_num, below_drewN HBB.out _⟩
      case measure => simp [intOf]; omega
    · have hkk : k = n := by omega
      rw [hkk]
      have HBB := Lib.hid hb
      clear hb hkk hlt hk k0
      go_wp2_with fail
      go_ret
      exact ⟨rfl, HBB.out⟩
end Go.Proofs.Ytiekbgfglmfbkaa
