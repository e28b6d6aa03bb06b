/-
  What space's calls answer: Check, Free, Take, Give, Settle.
-/
import Derived.Test.YtiekbgfglmfbkaaSpNext
import Derived.OwnWalk
namespace Go.Proofs.Ytiekbgfglmfbkaa
open Go.RowKit Go.Shelf
set_option maxRecDepth 100000

/-- A table of the call's own, and an error's number. -/
def OutL (c : Nat) (x : List UInt8) (w : World) (e : Ending) (w' : World) : Prop := ∃ v, e = .returned (.tuple #[v, .int .i64 c]) ∧ w'.ownsRow w.heap.size 5 1 v x.length (vals x) ∧ Below w.heap.size w w'
/-- A table of the call's own, a block's number, and an error's number. -/
def OutTk (c : Nat) (x : List UInt8) (k : Nat) (w : World) (e : Ending) (w' : World) : Prop := ∃ v, e = .returned (.tuple #[v, .int .i64 k, .int .i64 c]) ∧ w'.ownsRow w.heap.size 5 1 v x.length (vals x) ∧ Below w.heap.size w w'
/-- A list of numbers of the call's own, and an error's number. -/
def OutF (c : Nat) (x : List Nat) (w : World) (e : Ending) (w' : World) : Prop := ∃ v, e = .returned (.tuple #[v, .int .i64 c]) ∧ w'.ownsRow w.heap.size 3 1 v x.length (valsN x) ∧ Below w.heap.size w w'

theorem outL_nil (c : Nat) (w : World) : OutL c [] w (.returned (.tuple #[.slice none 0 0, .int .i64 c])) w := ⟨_, rfl, World.ownsRow_nil _ _ _ _, Below.refl _ _⟩
theorem outTk_nil (c : Nat) (w : World) : OutTk c [] 0 w (.returned (.tuple #[.slice none 0 0, .int .i64 0, .int .i64 c])) w := ⟨_, rfl, World.ownsRow_nil _ _ _ _, Below.refl _ _⟩
theorem outF_nil (c : Nat) (w : World) : OutF c [] w (.returned (.tuple #[.slice none 0 0, .int .i64 c])) w := ⟨_, rfl, World.ownsRow_nil _ _ _ _, Below.refl _ _⟩
theorem MayT.len_of {w : World} {B n c : Nat} {a : Option Addr} {s : List UInt8} (h : MayT s) (hA : Bsl w B a n c s) : n = 256 := by rw [← hA.1]; exact h.1

theorem spCheck_yes (a : Option Addr) (n c B : Nat) (s : List UInt8) (w : World) (hA : Bsl w B a n c s) (h : MayT s) : Calls Try.prog 14 #[.slice a n c] w fun e w' => e = .returned (.int .i64 0) ∧ w = w' := by
  have HM := Lib.hid (spMay_yes a n c B s w hA h)
  clear hA h
  go_enter Try.func14, Try.ntmps14
  go_wp2_with fail
  refine HM.out.mono ?_
  rintro e w1 ⟨rfl, rfl⟩
  go_wp2_with fail
  go_ret
  exact ⟨rfl, rfl⟩
theorem spCheck_no (a : Option Addr) (n c B : Nat) (s : List UInt8) (w : World) (hA : Bsl w B a n c s) (h : ¬ MayT s) : Calls Try.prog 14 #[.slice a n c] w fun e w' => e = .returned (.int .i64 8) ∧ w = w' := by
  have HM := Lib.hid (spMay_no a n c B s w hA h)
  clear hA h
  go_enter Try.func14, Try.ntmps14
  go_wp2_with fail
  refine HM.out.mono ?_
  rintro e w1 ⟨rfl, rfl⟩
  go_wp2_with fail
  go_ret
  exact ⟨rfl, rfl⟩

theorem spGive_bad (a : Option Addr) (n c B : Nat) (s : List UInt8) (k : Int) (w : World) (hA : Bsl w B a n c s) (h : ¬ MayT s) : Calls Try.prog 10 #[.slice a n c, .int .i64 k] w (OutL 8 [] w) := by
  have HM := Lib.hid (spMay_no a n c B s w hA h)
  clear hA h
  go_enter Try.func10, Try.ntmps10
  go_wp2_with fail
  refine HM.out.mono ?_
  rintro e w1 ⟨rfl, rfl⟩
  go_wp2_with fail
  go_ret2
  exact outL_nil 8 w
theorem spGive_arg (a : Option Addr) (n c B : Nat) (s : List UInt8) (k : Int) (hk : k < 12 ∨ 256 ≤ k) (w : World) (hA : Bsl w B a n c s) (h : MayT s) : Calls Try.prog 10 #[.slice a n c, .int .i64 k] w (OutL 2 [] w) := by
  have HM := Lib.hid (spMay_yes a n c B s w hA h)
  clear hA h
  rcases hk with hk | hk
  all_goals
    go_enter Try.func10, Try.ntmps10
    go_wp2_with fail
    refine HM.out.mono ?_
    rintro e w1 ⟨rfl, rfl⟩
    go_wp2_with fail
    go_ret2
    exact outL_nil 2 w
theorem spGive_none (a : Option Addr) (n c B : Nat) (s : List UInt8) (k : Nat) (hk : 12 ≤ k) (hk2 : k < 256) (w : World) (hA : Bsl w B a n c s) (h : MayT s) (h1 : mkT s k ≠ 1) : Calls Try.prog 10 #[.slice a n c, .int .i64 k] w (OutL 6 [] w) := by
  have HM := Lib.hid (spMay_yes a n c B s w hA h)
  have hn := h.len_of hA
  subst hn
  obtain ⟨b, off, rfl, _⟩ := hA.at_ (by omega)
  have hc := hA.mk k hk2
  obtain ⟨x, hx⟩ : ∃ x : Nat, mkT s k = x := ⟨_, rfl⟩
  rw [hx] at hc h1
  have e1 : ((x : Int) != 1) = true := by simp; omega
  have k0 : (0 : Int) ≤ k := by omega
  have k1 : (12 : Int) ≤ k := by omega
  have k2 : (k : Int) < 256 := by omega
  clear hA h h1 hx
  go_enter Try.func10, Try.ntmps10
  go_wp2_with fail
  refine HM.out.mono ?_
  rintro e w1 ⟨rfl, rfl⟩
  go_wp2_with fail
  go_ret2
  exact outL_nil 6 w
theorem spGive_ok (a : Option Addr) (n c : Nat) (s : List UInt8) (k : Nat) (hk : 12 ≤ k) (hk2 : k < 256) (w : World) (hA : Bsl w w.heap.size a n c s) (h : MayT s) (h1 : mkT s k = 1) : Calls Try.prog 10 #[.slice a n c, .int .i64 k] w (OutL 0 (s.set k 2) w) := by
  have HM := Lib.hid (spMay_yes a n c _ s w hA h)
  have hn := h.len_of hA
  subst hn
  have HW := Lib.hid (spWith_any a 256 c s k 2 w hA hk2 (by omega))
  have hl : (s.set k 2).length = 256 := by simp [h.1]
  have HL := Lib.hid hl
  obtain ⟨b, off, rfl, _⟩ := hA.at_ (by omega)
  have hc := hA.mk k hk2
  rw [h1] at hc
  have k0 : (0 : Int) ≤ k := by omega
  have k1 : (12 : Int) ≤ k := by omega
  have k2 : (k : Int) < 256 := by omega
  clear hA h h1 hl
  go_enter Try.func10, Try.ntmps10
  go_wp2_with fail
  refine HM.out.mono ?_
  rintro e w1 ⟨rfl, rfl⟩
  go_wp2_with fail
  refine HW.out.mono ?_
  rintro e w1 ⟨v, rfl, ho, b1⟩
  have HO := Lib.hid ho
  have HB := Lib.hid b1
  clear ho b1
  go_wp2_with fail
  go_ret2
  exact ⟨_, rfl, by rw [HL.out]; exact HO.out, HB.out⟩

theorem spTake_bad (a : Option Addr) (n c B : Nat) (s : List UInt8) (w : World) (hA : Bsl w B a n c s) (h : ¬ MayT s) : Calls Try.prog 11 #[.slice a n c] w (OutTk 8 [] 0 w) := by
  have HM := Lib.hid (spMay_no a n c B s w hA h)
  clear hA h
  go_enter Try.func11, Try.ntmps11
  go_wp2_with fail
  refine HM.out.mono ?_
  rintro e w1 ⟨rfl, rfl⟩
  go_wp2_with fail
  go_ret3
  exact outTk_nil 8 w
theorem spTake_full (a : Option Addr) (n c : Nat) (s : List UInt8) (w : World) (hA : Bsl w w.heap.size a n c s) (h : MayT s) (h0 : ∀ i, i < 256 → mkT s i ≠ 0) : Calls Try.prog 11 #[.slice a n c] w (OutTk 9 [] 0 w) := by
  have HM := Lib.hid (spMay_yes a n c _ s w hA h)
  have hn := h.len_of hA
  subst hn
  have HF := Lib.hid (spOnes_any a 256 c w)
  have HA := Lib.hid hA
  have H0 := Lib.hid h0
  clear hA h h0
  go_enter Try.func11, Try.ntmps11
  go_wp2_with fail
  refine HM.out.mono ?_
  rintro e w1 ⟨rfl, rfl⟩
  go_wp2_with fail
  refine HF.out.mono ?_
  rintro e w1 ⟨gp, gs, rfl, hgp, hgs, hne, hp, hs, b1⟩
  have HX := Lib.hid (spNext_none gp gs w.heap.size a 256 c s 0 w1 hp hs hne (HA.out.below b1) hgp (Nat.zero_le _) fun i _ hi => H0.out i hi)
  have HB := Lib.hid b1
  have HG := Lib.hid hgp
  clear hgs hne hp hs b1 hgp
  go_wp2_with fail
  refine HX.out.mono ?_
  rintro e w2 ⟨rfl, hg, _⟩
  have HB2 := Lib.hid (below_only HB.out HG.out hg HB.out.size)
  clear hg
  go_wp2_with fail
  go_ret3
  exact ⟨_, rfl, World.ownsRow_nil _ _ _ _, HB2.out⟩
theorem spTake_ok (a : Option Addr) (n c : Nat) (s : List UInt8) (k : Nat) (w : World) (hA : Bsl w w.heap.size a n c s) (h : MayT s) (hk : k < 256) (hz : mkT s k = 0) (h0 : ∀ i, i < k → mkT s i ≠ 0) : Calls Try.prog 11 #[.slice a n c] w (OutTk 0 (s.set k 1) k w) := by
  have HM := Lib.hid (spMay_yes a n c _ s w hA h)
  have hn := h.len_of hA
  subst hn
  have hl : (s.set k 1).length = 256 := by simp [h.1]
  have HL := Lib.hid hl
  have HF := Lib.hid (spOnes_any a 256 c w)
  have HA := Lib.hid hA
  have H0 := Lib.hid h0
  have HZ := Lib.hid hz
  clear hA h h0 hz hl
  go_enter Try.func11, Try.ntmps11
  go_wp2_with fail
  refine HM.out.mono ?_
  rintro e w1 ⟨rfl, rfl⟩
  go_wp2_with fail
  refine HF.out.mono ?_
  rintro e w1 ⟨gp, gs, rfl, hgp, hgs, hne, hp, hs, b1⟩
  have HX := Lib.hid (spNext_some gp gs w.heap.size a 256 c s 0 k w1 hp hs hne (HA.out.below b1) hgp (Nat.zero_le _) hk HZ.out fun i _ hi => H0.out i hi)
  have HB := Lib.hid b1
  have HG := Lib.hid hgp
  clear hgs hne hp hs b1 hgp
  go_wp2_with fail
  refine HX.out.mono ?_
  rintro e w2 ⟨rfl, hg, _⟩
  have HB2 := Lib.hid (below_only HB.out HG.out hg HB.out.size)
  clear hg
  have HW := Lib.hid (spWith_any a 256 c s k 1 w2 (HA.out.step HB2.out) hk (by omega))
  go_wp2_with fail
  refine HW.out.mono ?_
  rintro e w3 ⟨v, rfl, ho, b3⟩
  have HO := Lib.hid (own_mono ho HB2.out.size)
  have HB3 := Lib.hid (HB2.out.trans (b3.mono HB2.out.size))
  clear ho b3
  go_wp2_with fail
  go_ret3
  exact ⟨_, rfl, by rw [HL.out]; exact HO.out, HB3.out⟩

theorem spSettle_bad (a : Option Addr) (n c B : Nat) (s : List UInt8) (w : World) (hA : Bsl w B a n c s) (h : ¬ MayT s) : Calls Try.prog 12 #[.slice a n c] w (OutL 8 [] w) := by
  have HM := Lib.hid (spMay_no a n c B s w hA h)
  clear hA h
  go_enter Try.func12, Try.ntmps12
  go_wp2_with fail
  refine HM.out.mono ?_
  rintro e w1 ⟨rfl, rfl⟩
  go_wp2_with fail
  go_ret2
  exact outL_nil 8 w
set_option maxHeartbeats 1000000 in
theorem spSettle_ok (a : Option Addr) (n c : Nat) (s : List UInt8) (w : World) (hA : Bsl w w.heap.size a n c s) (h : MayT s) : Calls Try.prog 12 #[.slice a n c] w (OutL 0 (settleL s) w) := by
  have HM := Lib.hid (spMay_yes a n c _ s w hA h)
  have hn := h.len_of hA
  subst hn
  have HC := Lib.hid (spClone_any a 256 c s w hA (by omega) (by omega))
  have hl : (settleL s).length = 256 := (settleL_may h).1
  have HL := Lib.hid hl
  obtain ⟨b, off, rfl, hbw⟩ := hA.at_ (by omega)
  have HA := Lib.hid hA
  clear hA h hl
  go_enter Try.func12, Try.ntmps12
  go_wp2_with fail
  refine HM.out.mono ?_
  rintro e w1 ⟨rfl, rfl⟩
  go_wp2_with fail
  refine HC.out.mono ?_
  rintro e w1 ⟨v, rfl, ho, b1⟩
  obtain ⟨g, c', rfl⟩ := own_at ho (by omega)
  have HO := Lib.hid ho
  have HB := Lib.hid b1
  clear ho b1
  go_wp2_with fail
  go_loopw [14] (fun i wr => ∃ k : Nat, k ≤ 256 ∧ i = .int .i64 k ∧ wr.ownsRow w.heap.size 5 1 (.slice (some ⟨g, 0, none⟩) 256 c') 256 (vals (stTo s k)) ∧ Below w.heap.size w wr) (fun i _ => 256 - (intOf i).toNat)
  case atStart => exact ⟨0, Nat.zero_le _, rfl, HO.out, HB.out⟩
  case round =>
    obtain ⟨k, hk, rfl, ho, hb⟩ := hrel
    have k0 : (0 : Int) ≤ k := by omega
    by_cases hlt : k < 256
    · have k1 : (k : Int) < 256 := by omega
      have hc := (HA.out.below hb).mk k hlt
      by_cases h2 : mkT s k = 2
      · rw [h2] at hc
        have hs : stTo s (k + 1) = (stTo s k).set k 0 := by rw [stTo, if_pos h2]
        have hw := own_set ho k hlt 0
        rw [← hs] at hw
        have hoc := own_mk ho k hlt
        have HB2 := Lib.hid (hb.setCell (p := ⟨g, k, none⟩) (own_lt ho).1 (.int .u8 0))
        have HO2 := Lib.hid (show (wr.setCell ⟨g, k, none⟩ (.int .u8 0)).ownsRow w.heap.size 5 1 (.slice (some ⟨g, 0, none⟩) 256 c') 256 (vals (stTo s (k + 1))) from hw)
        have hf : wr.frozen? ⟨g, k, none⟩ = false := by
          obtain ⟨cs, hbk⟩ := own_blk ho
          exact hbk.frozen k
        clear ho hb hw hs h2
        go_wp2_with fail
        go_roundw
        case rel => exact ⟨k + 1, by omega, by go_num, HO2.out, HB2.out⟩
        case measure => simp [intOf]; omega
      · have hs : stTo s (k + 1) = stTo s k := by rw [stTo, if_neg h2]
        obtain ⟨x, hx⟩ : ∃ x : Nat, mkT s k = x := ⟨_, rfl⟩
        rw [hx] at hc h2
        have e2 : ((x : Int) == 2) = false := by simp; omega
        rw [← hs] at ho
        have HB2 := Lib.hid hb
        have HO2 := Lib.hid ho
        clear ho hb hs h2 hx
        go_wp2_with fail
        go_roundw
        case rel => exact ⟨k + 1, by omega, by go_num, HO2.out, HB2.out⟩
        case measure => simp [intOf]; omega
    · have hkk : k = 256 := by omega
      rw [hkk] at ho
      have HO2 := Lib.hid ho
      have HB2 := Lib.hid hb
      have k3 : (256 : Int) ≤ k := by omega
      clear ho hb hkk hlt hk
      go_wp2_with fail
      go_ret2
      exact ⟨_, rfl, by rw [HL.out]; exact HO2.out, HB2.out⟩
end Go.Proofs.Ytiekbgfglmfbkaa
