/-
  Texts of one seat, one behind the other.
-/
import Derived.Maps.OwnSet
import Derived.Maps.Views
import Derived.Carry
import Derived.Laws.CopyOwn
import Derived.IntWalk
import Derived.Deep.RegionLaw
import Derived.Laws.BitsAllLaws
import Derived.Lib.AppendZeros
import Derived.RangeFuncNested
import Derived.Deep.RegionWith
import Derived.OwnWalk
import Derived.Test.YtbggkfomfeeikaaGreatDoorPkSA1
/-
  dev.mayBe tells whether a disk may be.
-/
namespace Go.Proofs.YtbggkfomfeeikaaGreatDoor
open Go.RowKit Go.Shelf
set_option maxRecDepth 100000

theorem dIsLong_any (a : Option Addr) (n c : Nat) (w : World) : Calls Tryz.prog 97 #[.slice a n c] w fun e w' => e = .returned (.bool (decide (n = 256))) ∧ w = w' := by
  by_cases h : n = 256
  · subst h
    go_enter Tryz.func97, Tryz.ntmps97
    go_wp2_with fail
    go_ret
    exact ⟨rfl, rfl⟩
  · have h1 : ((n : Int) == 256) = false := by simp; omega
    rw [decide_eq_false h]
    go_enter Tryz.func97, Tryz.ntmps97
    go_wp2_with fail
    go_ret
    exact ⟨rfl, rfl⟩
theorem dIsBlock_any (p : Int) (w : World) : Calls Tryz.prog 96 #[.int .i64 p] w fun e w' => e = .returned (.bool (decide (0 ≤ p ∧ p < 256))) ∧ w = w' := by
  by_cases h0 : 0 ≤ p
  · by_cases h1 : p < 256
    · rw [decide_eq_true (show 0 ≤ p ∧ p < 256 from ⟨h0, h1⟩)]
      go_enter Tryz.func96, Tryz.ntmps96
      go_wp2_with fail
      go_ret
      exact ⟨by simp; try omega, rfl⟩
    · rw [decide_eq_false (show ¬ (0 ≤ p ∧ p < 256) from fun h => h1 h.2)]
      go_enter Tryz.func96, Tryz.ntmps96
      go_wp2_with fail
      go_ret
      exact ⟨by simp; try omega, rfl⟩
  · rw [decide_eq_false (show ¬ (0 ≤ p ∧ p < 256) from fun h => h0 h.1)]
    go_enter Tryz.func96, Tryz.ntmps96
    go_wp2_with fail
    go_ret
    exact ⟨by simp; try omega, rfl⟩
theorem dMayWait_any (p : Int) (a : Option Addr) (n c : Nat) (w : World) : Calls Tryz.prog 124 #[.agg #[.int .i64 p, .slice a n c]] w fun e w' => e = .returned (.bool (decide ((0 ≤ p ∧ p < 256) ∧ n = 256))) ∧ Below w.heap.size w w' := by
  have hb := dIsBlock_any p
  have hl := dIsLong_any a n c
  have HX := Lib.hid ((Below.refl w.heap.size w).alloc (Nat.le_refl _) (.cells #[.int .i64 p, .slice a n c] 91))
  by_cases h : 0 ≤ p ∧ p < 256
  · simp only [decide_eq_true h] at hb
    have e : decide ((0 ≤ p ∧ p < 256) ∧ n = 256) = decide (n = 256) := by simp [h]
    rw [e]
    have HB := Lib.hid hb
    have HL := Lib.hid hl
    clear hb hl h e
    go_enter Tryz.func124, Tryz.ntmps124
    go_wp2_with fail
    refine (HB.out _).mono ?_
    rintro e w1 ⟨rfl, rfl⟩
    go_wp2_with fail
    refine (HL.out _).mono ?_
    rintro e w1 ⟨rfl, rfl⟩
    go_wp2_with fail
    go_ret
    exact ⟨rfl, HX.out⟩
  · simp only [decide_eq_false h] at hb
    have e : decide ((0 ≤ p ∧ p < 256) ∧ n = 256) = false := by simp; omega
    rw [e]
    have HB := Lib.hid hb
    clear hb hl h e
    go_enter Tryz.func124, Tryz.ntmps124
    go_wp2_with fail
    refine (HB.out _).mono ?_
    rintro e w1 ⟨rfl, rfl⟩
    go_wp2_with fail
    go_ret
    exact ⟨rfl, HX.out⟩
theorem dNotLong_any (a : Option Addr) (n c g : Nat) (w : World) (hg : w.cell? ⟨g, 0, none⟩ = some (.func (.func 97) #[] #[])) : Calls Tryz.prog 140 #[.slice a n c, .pointer (some ⟨g, 0, none⟩)] w fun e w' => e = .returned (.bool (!decide (n = 256))) ∧ w = w' := by
  have HL := Lib.hid (dIsLong_any a n c w)
  go_enter Tryz.func140, Tryz.ntmps140
  go_wp2_with fail
  refine HL.out.mono ?_
  rintro e w1 ⟨rfl, rfl⟩
  go_wp2_with fail
  go_ret
  exact ⟨rfl, rfl⟩
theorem dNotWait_any (p : Int) (a : Option Addr) (n c g : Nat) (r : Bool) (hr : decide ((0 ≤ p ∧ p < 256) ∧ n = 256) = r) (w : World) (hl : g < w.heap.size) (hg : w.cell? ⟨g, 0, none⟩ = some (.func (.func 124) #[] #[])) : Calls Tryz.prog 142 #[.agg #[.int .i64 p, .slice a n c], .pointer (some ⟨g, 0, none⟩)] w fun e w' => e = .returned (.bool (!r)) ∧ Below w.heap.size w w' := by
  have b1 := (Below.refl w.heap.size w).alloc (Nat.le_refl _) (.cells #[.int .i64 p, .slice a n c] 91)
  have hg1 := (b1.cell (p := ⟨g, 0, none⟩) hl).trans hg
  have HL : Hid (∀ W, Calls Tryz.prog 124 #[.agg #[.int .i64 p, .slice a n c]] W fun e w' => e = .returned (.bool r) ∧ Below W.heap.size W w') := Lib.hid fun W => by
    have := dMayWait_any p a n c W
    rw [hr] at this
    exact this
  have HB := Lib.hid b1
  clear b1 hl hr
  go_enter Tryz.func142, Tryz.ntmps142
  go_wp2_with fail
  refine (HL.out _).mono ?_
  rintro e w1 ⟨rfl, b2⟩
  have HB2 := Lib.hid (HB.out.trans (b2.mono HB.out.size))
  clear b2
  go_wp2_with fail
  go_ret
  exact ⟨rfl, HB2.out⟩
/-- slices.IndexFunc over blocks: none is odd. -/
theorem dIndexB_none (a : Option Addr) (n c : Nat) (bl : List (List UInt8)) (g : Nat) (w : World) (hB : Bls w w.heap.size a n c bl) (hg : w.cell? ⟨g, 0, none⟩ = some (.func (.func 97) #[] #[])) (hall : ∀ i, i < n → (bl.getD i []).length = 256) :
    Calls Tryz.prog 149 #[.slice a n c, .func (.func 140) #[] #[.pointer (some ⟨g, 0, none⟩)]] w fun e w' => e = .returned (.int .i64 (-1)) ∧ w = w' := by
  have n0 : (0 : Int) ≤ n := by omega
  have n1 := hB.len_le
  have HB := Lib.hid hB
  have HA := Lib.hid hall
  have HG := Lib.hid hg
  clear hB hall hg
  go_enter Tryz.func149, Tryz.ntmps149
  go_wp2_with fail
  go_loop [8] (fun i => ∃ k : Nat, k ≤ n ∧ i = .int .i64 k) (fun i => n - (intOf i).toNat)
  case atStart => exact ⟨0, Nat.zero_le _, rfl⟩
  case round =>
    obtain ⟨k, hk, rfl⟩ := hrel
    have k0 : (0 : Int) ≤ k := by omega
    by_cases hlt : k < n
    · have k1 : (k : Int) < n := by omega
      obtain ⟨b, off, A, l, c', s, rfl, _, hl, hc, hA⟩ := HB.out.at_ hlt
      have hl6 : l = 256 := by rw [← hA.1, ← hl]; exact HA.out k hlt
      subst hl6
      have hx := dNotLong_any A 256 c' g w HG.out
      have HX := Lib.hid hx
      clear hx hA hl
      go_wp2_with fail
      refine HX.out.mono ?_
      rintro e w1 ⟨rfl, rfl⟩
      go_wp2_with fail
      go_round
      case rel => exact ⟨k + 1, by omega, by go_num⟩
      case measure => simp [intOf]; omega
    · obtain rfl : k = n := by omega
      go_wp2_with fail
      go_ret
      exact ⟨rfl, rfl⟩
/-- One is. -/
theorem dIndexB_some (a : Option Addr) (n c : Nat) (bl : List (List UInt8)) (g : Nat) (w : World) (hB : Bls w w.heap.size a n c bl) (hg : w.cell? ⟨g, 0, none⟩ = some (.func (.func 97) #[] #[])) (j : Nat) (hj : j < n) (hodd : (bl.getD j []).length ≠ 256) :
    Calls Tryz.prog 149 #[.slice a n c, .func (.func 140) #[] #[.pointer (some ⟨g, 0, none⟩)]] w fun e w' => ∃ k : Nat, e = .returned (.int .i64 k) ∧ w = w' := by
  have n0 : (0 : Int) ≤ n := by omega
  have n1 := hB.len_le
  have HB := Lib.hid hB
  have HA := Lib.hid hodd
  have HG := Lib.hid hg
  clear hB hodd hg
  go_enter Tryz.func149, Tryz.ntmps149
  go_wp2_with fail
  go_loop [8] (fun i => ∃ k : Nat, k ≤ j ∧ i = .int .i64 k) (fun i => n - (intOf i).toNat)
  case atStart => exact ⟨0, Nat.zero_le _, rfl⟩
  case round =>
    obtain ⟨k, hk, rfl⟩ := hrel
    have k0 : (0 : Int) ≤ k := by omega
    have k1 : (k : Int) < n := by omega
    obtain ⟨b, off, A, l, c', s, rfl, _, hl, hc, hA⟩ := HB.out.at_ (show k < n by omega)
    have hx := dNotLong_any A l c' g w HG.out
    by_cases hl6 : l = 256
    · have hkj : k < j := by
        rcases Nat.lt_or_ge k j with h | h
        · exact h
        · obtain rfl : k = j := by omega
          exact absurd (by rw [hl, hA.1]; exact hl6) HA.out
      subst hl6
      have HX := Lib.hid hx
      clear hx hA hl
      go_wp2_with fail
      refine HX.out.mono ?_
      rintro e w1 ⟨rfl, rfl⟩
      go_wp2_with fail
      go_round
      case rel => exact ⟨k + 1, by omega, by go_num⟩
      case measure => simp [intOf]; omega
    · simp only [decide_eq_false hl6] at hx
      have HX := Lib.hid hx
      clear hx hA hl
      go_wp2_with fail
      refine HX.out.mono ?_
      rintro e w1 ⟨rfl, rfl⟩
      go_wp2_with fail
      go_ret
      exact ⟨k, rfl, rfl⟩
/-- slices.IndexFunc over writes: none is odd. -/
theorem dIndexW_none (a : Option Addr) (n c : Nat) (ws : WrL) (g : Nat) (w : World) (hB : Wts w w.heap.size a n c ws) (hlg : g < w.heap.size) (hg : w.cell? ⟨g, 0, none⟩ = some (.func (.func 124) #[] #[])) (hall : ∀ i, i < n → (0 ≤ (wr_ ws i).1 ∧ (wr_ ws i).1 < 256) ∧ (wr_ ws i).2.length = 256) :
    Calls Tryz.prog 150 #[.slice a n c, .func (.func 142) #[] #[.pointer (some ⟨g, 0, none⟩)]] w fun e w' => e = .returned (.int .i64 (-1)) ∧ Below w.heap.size w w' := by
  have n0 : (0 : Int) ≤ n := by omega
  have n1 := hB.len_le
  have HB := Lib.hid hB
  have HA := Lib.hid hall
  have HG := Lib.hid hg
  clear hB hall hg
  go_enter Tryz.func150, Tryz.ntmps150
  go_wp2_with fail
  go_loopw [8] (fun i wr => ∃ k : Nat, k ≤ n ∧ i = .int .i64 k ∧ Below w.heap.size w wr) (fun i _ => n - (intOf i).toNat)
  case atStart => exact ⟨0, Nat.zero_le _, rfl, Below.refl _ _⟩
  case round =>
    obtain ⟨k, hk, rfl, hb⟩ := hrel
    have k0 : (0 : Int) ≤ k := by omega
    by_cases hlt : k < n
    · have k1 : (k : Int) < n := by omega
      obtain ⟨b, off, p, A, l, c', s, rfl, hbl, hl, _, hc, hd, hA⟩ := HB.out.at_ hlt
      have hok := HA.out k hlt
      rw [hl] at hok
      have hl6 : l = 256 := by rw [← hA.1]; exact hok.2
      subst hl6
      have c1 := (hb.cell (p := ⟨b, off + k * 2, none⟩) hbl).trans hc
      have c2 := (hb.cell (p := ⟨b, off + k * 2 + 1, none⟩) hbl).trans hd
      have hx := dNotWait_any p A 256 c' g true (decide_eq_true ⟨hok.1, rfl⟩) wr (Nat.lt_of_lt_of_le hlg hb.size) ((hb.cell (p := ⟨g, 0, none⟩) hlg).trans HG.out)
      have HX := Lib.hid hx
      have HBr := Lib.hid hb
      clear hx hA hl hok hb hc hd
      go_wp2_with fail
      refine HX.out.mono ?_
      rintro e w1 ⟨rfl, b2⟩
      have HB2 := Lib.hid (HBr.out.trans (b2.mono HBr.out.size))
      clear b2
      go_wp2_with fail
      go_roundw
      case rel => exact ⟨k + 1, by omega, by go_num, HB2.out⟩
      case measure => simp [intOf]; omega
    · obtain rfl : k = n := by omega
      have HBr := Lib.hid hb
      clear hb
      go_wp2_with fail
      go_ret
      exact ⟨rfl, HBr.out⟩
/-- One is. -/
theorem dIndexW_some (a : Option Addr) (n c : Nat) (ws : WrL) (g : Nat) (w : World) (hB : Wts w w.heap.size a n c ws) (hlg : g < w.heap.size) (hg : w.cell? ⟨g, 0, none⟩ = some (.func (.func 124) #[] #[])) (j : Nat) (hj : j < n) (hodd : ¬ ((0 ≤ (wr_ ws j).1 ∧ (wr_ ws j).1 < 256) ∧ (wr_ ws j).2.length = 256)) :
    Calls Tryz.prog 150 #[.slice a n c, .func (.func 142) #[] #[.pointer (some ⟨g, 0, none⟩)]] w fun e w' => ∃ k : Nat, e = .returned (.int .i64 k) ∧ Below w.heap.size w w' := by
  have n0 : (0 : Int) ≤ n := by omega
  have n1 := hB.len_le
  have HB := Lib.hid hB
  have HA := Lib.hid hodd
  have HG := Lib.hid hg
  clear hB hodd hg
  go_enter Tryz.func150, Tryz.ntmps150
  go_wp2_with fail
  go_loopw [8] (fun i wr => ∃ k : Nat, k ≤ j ∧ i = .int .i64 k ∧ Below w.heap.size w wr) (fun i _ => n - (intOf i).toNat)
  case atStart => exact ⟨0, Nat.zero_le _, rfl, Below.refl _ _⟩
  case round =>
    obtain ⟨k, hk, rfl, hb⟩ := hrel
    have k0 : (0 : Int) ≤ k := by omega
    have k1 : (k : Int) < n := by omega
    obtain ⟨b, off, p, A, l, c', s, rfl, hbl, hl, _, hc, hd, hA⟩ := HB.out.at_ (show k < n by omega)
    have c1 := (hb.cell (p := ⟨b, off + k * 2, none⟩) hbl).trans hc
    have c2 := (hb.cell (p := ⟨b, off + k * 2 + 1, none⟩) hbl).trans hd
    have hx := fun r hr => dNotWait_any p A l c' g r hr wr (Nat.lt_of_lt_of_le hlg hb.size) ((hb.cell (p := ⟨g, 0, none⟩) hlg).trans HG.out)
    by_cases hl6 : (0 ≤ p ∧ p < 256) ∧ l = 256
    · have hkj : k < j := by
        rcases Nat.lt_or_ge k j with h | h
        · exact h
        · obtain rfl : k = j := by omega
          exact absurd (by rw [hl]; exact ⟨hl6.1, by rw [hA.1]; exact hl6.2⟩) HA.out
      have HX := Lib.hid (hx true (decide_eq_true hl6))
      have HBr := Lib.hid hb
      clear hx hA hl hl6 hb hc hd
      go_wp2_with fail
      refine HX.out.mono ?_
      rintro e w1 ⟨rfl, b2⟩
      have HB2 := Lib.hid (HBr.out.trans (b2.mono HBr.out.size))
      clear b2
      go_wp2_with fail
      go_roundw
      case rel => exact ⟨k + 1, by omega, by go_num, HB2.out⟩
      case measure => simp [intOf]; omega
    · have HX := Lib.hid (hx false (decide_eq_false hl6))
      have HBr := Lib.hid hb
      clear hx hA hl hl6 hb hc hd
      go_wp2_with fail
      refine HX.out.mono ?_
      rintro e w1 ⟨rfl, b2⟩
      have HB2 := Lib.hid (HBr.out.trans (b2.mono HBr.out.size))
      clear b2
      go_wp2_with fail
      go_ret
      exact ⟨k, rfl, HB2.out⟩
/-- slices.ContainsFunc: is one odd? -/
theorem dContB_any (a : Option Addr) (n c : Nat) (bl : List (List UInt8)) (g : Nat) (w : World) (hB : Bls w w.heap.size a n c bl) (hg : w.cell? ⟨g, 0, none⟩ = some (.func (.func 97) #[] #[])) (r : Bool) (hr : r = true ↔ ∀ i, i < n → (bl.getD i []).length = 256) :
    Calls Tryz.prog 139 #[.slice a n c, .func (.func 140) #[] #[.pointer (some ⟨g, 0, none⟩)]] w fun e w' => e = .returned (.bool (!r)) ∧ w = w' := by
  cases r with
  | true =>
    have HI := Lib.hid (dIndexB_none a n c bl g w hB hg (hr.1 rfl))
    clear hB hg hr
    go_enter Tryz.func139, Tryz.ntmps139
    go_wp2_with fail
    refine HI.out.mono ?_
    rintro e w1 ⟨rfl, rfl⟩
    
    go_wp2_with fail
    go_ret
    exact ⟨rfl, rfl⟩
  | false =>
    obtain ⟨j, hj, hodd⟩ : ∃ i, i < n ∧ ¬ ((bl.getD i []).length = 256) := by
      apply Classical.byContradiction
      intro hn
      have : false = true := hr.2 fun i hi => Classical.byContradiction fun h => hn ⟨i, hi, h⟩
      cases this
    have HI := Lib.hid (dIndexB_some a n c bl g w hB hg j hj hodd)
    clear hB hg hr hodd
    go_enter Tryz.func139, Tryz.ntmps139
    go_wp2_with fail
    refine HI.out.mono ?_
    rintro e w1 ⟨k, rfl, rfl⟩
    have k0 : (0 : Int) ≤ k := by omega
    
    go_wp2_with fail
    go_ret
    exact ⟨rfl, rfl⟩
/-- All are as they should be: dev.allAre. -/
theorem dAllB_any (a : Option Addr) (n c : Nat) (bl : List (List UInt8)) (w : World) (hB : Bls w w.heap.size a n c bl) (r : Bool) (hr : r = true ↔ ∀ i, i < n → (bl.getD i []).length = 256) :
    Calls Tryz.prog 122 #[.slice a n c, .func (.func 97) #[] #[]] w fun e w' => e = .returned (.bool r) ∧ Below w.heap.size w w' := by
  have b0 := (Below.refl w.heap.size w).alloc (Nat.le_refl _) (.cells #[.func (.func 97) #[] #[]] 124)
  have x0 := Blk.new w 124 #[.func (.func 97) #[] #[]]
  have HI := Lib.hid (dContB_any a n c bl w.heap.size _ (hB.step b0) (x0.cell 0) r hr)
  have HB := Lib.hid b0
  clear hB hr b0 x0
  go_enter Tryz.func122, Tryz.ntmps122
  go_wp2_with fail
  refine HI.out.mono ?_
  rintro e w1 ⟨rfl, rfl⟩
  have HB2 := HB
  go_wp2_with fail
  go_ret
  exact ⟨by simp, HB2.out⟩
/-- slices.ContainsFunc: is one odd? -/
theorem dContW_any (a : Option Addr) (n c : Nat) (ws : WrL) (g : Nat) (w : World) (hB : Wts w w.heap.size a n c ws) (hlg : g < w.heap.size) (hg : w.cell? ⟨g, 0, none⟩ = some (.func (.func 124) #[] #[])) (r : Bool) (hr : r = true ↔ ∀ i, i < n → (0 ≤ (wr_ ws i).1 ∧ (wr_ ws i).1 < 256) ∧ (wr_ ws i).2.length = 256) :
    Calls Tryz.prog 141 #[.slice a n c, .func (.func 142) #[] #[.pointer (some ⟨g, 0, none⟩)]] w fun e w' => e = .returned (.bool (!r)) ∧ Below w.heap.size w w' := by
  cases r with
  | true =>
    have HI := Lib.hid (dIndexW_none a n c ws g w hB hlg hg (hr.1 rfl))
    clear hB hg hr
    go_enter Tryz.func141, Tryz.ntmps141
    go_wp2_with fail
    refine HI.out.mono ?_
    rintro e w1 ⟨rfl, b2⟩
    have HB2 := Lib.hid b2; clear b2
    go_wp2_with fail
    go_ret
    exact ⟨rfl, HB2.out⟩
  | false =>
    obtain ⟨j, hj, hodd⟩ : ∃ i, i < n ∧ ¬ ((0 ≤ (wr_ ws i).1 ∧ (wr_ ws i).1 < 256) ∧ (wr_ ws i).2.length = 256) := by
      apply Classical.byContradiction
      intro hn
      have : false = true := hr.2 fun i hi => Classical.byContradiction fun h => hn ⟨i, hi, h⟩
      cases this
    have HI := Lib.hid (dIndexW_some a n c ws g w hB hlg hg j hj hodd)
    clear hB hg hr hodd
    go_enter Tryz.func141, Tryz.ntmps141
    go_wp2_with fail
    refine HI.out.mono ?_
    rintro e w1 ⟨k, rfl, b2⟩
    have k0 : (0 : Int) ≤ k := by omega
    have HB2 := Lib.hid b2; clear b2
    go_wp2_with fail
    go_ret
    exact ⟨rfl, HB2.out⟩
/-- All are as they should be: dev.allAre. -/
theorem dAllW_any (a : Option Addr) (n c : Nat) (ws : WrL) (w : World) (hB : Wts w w.heap.size a n c ws) (r : Bool) (hr : r = true ↔ ∀ i, i < n → (0 ≤ (wr_ ws i).1 ∧ (wr_ ws i).1 < 256) ∧ (wr_ ws i).2.length = 256) :
    Calls Tryz.prog 123 #[.slice a n c, .func (.func 124) #[] #[]] w fun e w' => e = .returned (.bool r) ∧ Below w.heap.size w w' := by
  have b0 := (Below.refl w.heap.size w).alloc (Nat.le_refl _) (.cells #[.func (.func 124) #[] #[]] 159)
  have x0 := Blk.new w 159 #[.func (.func 124) #[] #[]]
  have HI := Lib.hid (dContW_any a n c ws w.heap.size _ (hB.step b0) (by rw [World.size_alloc]; omega) (x0.cell 0) r hr)
  have HB := Lib.hid b0
  clear hB hr b0 x0
  go_enter Tryz.func123, Tryz.ntmps123
  go_wp2_with fail
  refine HI.out.mono ?_
  rintro e w1 ⟨rfl, b2⟩
  have HB2 := Lib.hid (HB.out.trans (b2.mono HB.out.size)); clear b2
  go_wp2_with fail
  go_ret
  exact ⟨by simp, HB2.out⟩
/-- dev.mayBe. -/
theorem dMay_yes (x : DAt) (D : DkL) (w : World) (h : Dsk w w.heap.size x D) (hm : MayD D) : Calls Tryz.prog 92 #[dval x D] w fun e w' => e = .returned (.bool true) ∧ Below w.heap.size w w' := by
  obtain ⟨ba, bc, wa, wc⟩ := x
  obtain ⟨bl, ws⟩ := D
  obtain ⟨hB, hW⟩ := h
  obtain ⟨⟨m1, m2⟩, m3, m4⟩ := hm
  simp only [dval] at hB hW m1 m2 m3 m4 ⊢
  obtain ⟨m, hm⟩ : ∃ m, ws.length = m := ⟨_, rfl⟩
  rw [hm] at hW m3 m4 ⊢
  rw [m1] at hB ⊢
  have i0 : (m : Int) ≤ 4096 := by omega
  have b0 := (Below.refl w.heap.size w).alloc (Nat.le_refl _) (.cells #[.slice ba 256 bc, .slice wa m wc] 26)
  have x0 := Blk.new w 26 #[.slice ba 256 bc, .slice wa m wc]
  have HI := Lib.hid (dAllB_any ba 256 bc bl _ (hB.step b0) true ⟨fun _ => m2, fun _ => rfl⟩)
  have HX := Lib.hid x0
  have HB := Lib.hid b0
  have HW := Lib.hid (hW.step b0)
  have HP := Lib.hid m4
  clear hB hW b0 x0 m1 m2 m4 hm
  go_enter Tryz.func92, Tryz.ntmps92
  go_wp2_with fail
  refine HI.out.mono ?_
  rintro e w1 ⟨rfl, b1⟩
  have c0 := (HX.out.below b1 HX.out.lt).cell 0
  have c1 := (HX.out.below b1 HX.out.lt).cell 1
  have HI2 := Lib.hid (dAllW_any wa m wc ws w1 (HW.out.step b1) true ⟨fun _ => HP.out, fun _ => rfl⟩)
  have HB2 := Lib.hid (HB.out.trans (b1.mono HB.out.size))
  clear b1
  go_wp2_with fail
  refine HI2.out.mono ?_
  rintro e w2 ⟨rfl, b2⟩
  have HB3 := Lib.hid (HB2.out.trans (b2.mono HB2.out.size))
  clear b2 c0 c1
  go_wp2_with fail
  go_ret
  exact ⟨rfl, HB3.out⟩
theorem dMay_no (x : DAt) (D : DkL) (w : World) (h : Dsk w w.heap.size x D) (hm : ¬ MayD D) : Calls Tryz.prog 92 #[dval x D] w fun e w' => e = .returned (.bool false) ∧ Below w.heap.size w w' := by
  obtain ⟨ba, bc, wa, wc⟩ := x
  obtain ⟨bl, ws⟩ := D
  obtain ⟨hB, hW⟩ := h
  unfold MayD at hm
  simp only [dval] at hB hW hm ⊢
  have l1 := hB.len_le
  have l2 := hW.len_le
  obtain ⟨n, hn⟩ : ∃ n, bl.length = n := ⟨_, rfl⟩
  obtain ⟨m, hm'⟩ : ∃ m, ws.length = m := ⟨_, rfl⟩
  rw [hm'] at hW hm l2 ⊢
  rw [hn] at hB hm l1 ⊢
  have n0 : (0 : Int) ≤ n := by omega
  have m0 : (0 : Int) ≤ m := by omega
  have b0 := (Below.refl w.heap.size w).alloc (Nat.le_refl _) (.cells #[.slice ba n bc, .slice wa m wc] 26)
  have x0 := Blk.new w 26 #[.slice ba n bc, .slice wa m wc]
  have HX := Lib.hid x0
  have HB := Lib.hid b0
  have HW := Lib.hid (hW.step b0)
  have HBl := Lib.hid (hB.step b0)
  clear hB hW b0 x0 hn hm'
  by_cases h1 : n = 256
  · subst h1
    by_cases h2 : (m : Int) ≤ 4096
    · have hm2 : ¬ ((∀ i, i < 256 → (bl.getD i []).length = 256) ∧ ∀ i, i < m → (0 ≤ (wr_ ws i).1 ∧ (wr_ ws i).1 < 256) ∧ (wr_ ws i).2.length = 256) := fun hh => hm ⟨⟨rfl, hh.1⟩, by omega, hh.2⟩
      by_cases h3 : ∀ i, i < 256 → (bl.getD i []).length = 256
      · have HI := Lib.hid (dAllB_any ba 256 bc bl _ HBl.out true ⟨fun _ => h3, fun _ => rfl⟩)
        have HP := Lib.hid (show ¬ ∀ i, i < m → (0 ≤ (wr_ ws i).1 ∧ (wr_ ws i).1 < 256) ∧ (wr_ ws i).2.length = 256 from fun hh => hm2 ⟨h3, hh⟩)
        clear hm hm2 h3
        go_enter Tryz.func92, Tryz.ntmps92
        go_wp2_with fail
        refine HI.out.mono ?_
        rintro e w1 ⟨rfl, b1⟩
        have c0 := (HX.out.below b1 HX.out.lt).cell 0
        have c1 := (HX.out.below b1 HX.out.lt).cell 1
        have HI2 := Lib.hid (dAllW_any wa m wc ws w1 (HW.out.step b1) false ⟨fun h => (by cases h), fun h => absurd h HP.out⟩)
        have HB2 := Lib.hid (HB.out.trans (b1.mono HB.out.size))
        clear b1
        go_wp2_with fail
        refine HI2.out.mono ?_
        rintro e w2 ⟨rfl, b2⟩
        have HB3 := Lib.hid (HB2.out.trans (b2.mono HB2.out.size))
        clear b2 c0 c1
        go_wp2_with fail
        go_ret
        exact ⟨rfl, HB3.out⟩
      · have HI := Lib.hid (dAllB_any ba 256 bc bl _ HBl.out false ⟨fun h => (by cases h), fun h => absurd h h3⟩)
        clear hm hm2 h3
        go_enter Tryz.func92, Tryz.ntmps92
        go_wp2_with fail
        refine HI.out.mono ?_
        rintro e w1 ⟨rfl, b1⟩
        have HB2 := Lib.hid (HB.out.trans (b1.mono HB.out.size))
        clear b1
        go_wp2_with fail
        go_ret
        exact ⟨rfl, HB2.out⟩
    · clear hm
      go_enter Tryz.func92, Tryz.ntmps92
      go_wp2_with fail
      go_ret
      exact ⟨rfl, HB.out⟩
  · have h2 : ((n : Int) == 256) = false := by simp; omega
    clear hm
    go_enter Tryz.func92, Tryz.ntmps92
    go_wp2_with fail
    go_ret
    exact ⟨rfl, HB.out⟩
end Go.Proofs.YtbggkfomfeeikaaGreatDoor
/-
  Words for a map[int]int that the call made: what it holds, as a function; a lookup, a store.
-/
namespace Go.Proofs.YtbggkfomfeeikaaGreatDoor
open Go.RowKit Go.Shelf Go.Maps Go.WideShapes
set_option maxRecDepth 100000

theorem lawInt : Keyed Tryz.prog 3 := int_keyed Tryz.underlying3
theorem zeroInt (w : World) : (zeroValue 3).run Tryz.prog w = .ok (.int .i64 0) w := by kernel_rfl
/-- Block g is a map of at most n entries that holds just what f tells. -/
def MapI (w : World) (g n : Nat) (f : Int → Option Nat) : Prop :=
  ∃ D : DataW Unit, w.ownsMap Tryz.prog 3 (plainElem Tryz.prog 3) g n D ∧ IsMap D ∧ ∀ p : Int, (Lit.int .i64 p).wf = true → has D (.int .i64 p) = (f p).isSome ∧ ∀ i, f p = some i → D.atKey (.int .i64 p) (.lit (.int .i64 0)) = .lit (.int .i64 (i : Nat))
section
variable {w w' : World} {g n : Nat} {f : Int → Option Nat}
theorem MapI.lt (h : MapI w g n f) : g < w.heap.size := by obtain ⟨D, h1, _⟩ := h; exact h1.lt
theorem MapI.kept {row : Option Nat} (h : MapI w g n f) (hg : w.grownBy w' row) (hne : some g ≠ row) : MapI w' g n f := by
  obtain ⟨D, h1, h2⟩ := h
  exact ⟨D, h1.kept hg hne, h2⟩
theorem MapI.below {B : Nat} (h : MapI w g n f) (hb : Below B w w') (hg : g < B) : MapI w' g n f := by
  obtain ⟨D, ⟨es, clock, h1, h3⟩, h2⟩ := h
  exact ⟨D, ⟨es, clock, (hb.block g hg).trans h1, h3⟩, h2⟩
theorem mapI_made (w : World) : MapI (w.alloc (.map #[] 0)) w.heap.size 0 (fun _ => none) :=
  ⟨.map [], World.ownsMap_made _ _ _ _, isMap_empty, fun p _ => ⟨rfl, fun i h => by cases h⟩⟩
theorem MapI.congr {f' : Int → Option Nat} (h : MapI w g n f) (e : ∀ p, f p = f' p) : MapI w g n f' := by
  obtain rfl : f = f' := funext e
  exact h
end
section
variable {w : World} {ops : Array Oper} {rest : List Oper} {o : Oper} {a : Act} {Q : Exit → Act → World → Prop}
/-- m[p] = i. -/
theorem wpList_mapI_put (hg : o.guard = none) (m x v : Operand) (hop : o.op = Op.mapUpdate 149 m x v) (g n : Nat) (f : Int → Option Nat) (hm : a.eval m = .map (some g)) (hown : MapI w g n f) (hn : n < maxLen)
    (p : Int) (i : Nat) (hp : (Lit.int .i64 p).wf = true) (hi : (i : Int) ≤ 9223372036854775807) (hx : a.eval x = .int .i64 p) (hv : a.eval v = .int .i64 (i : Nat))
    (hK : ∀ w', MapI w' g (n + 1) (fun q => if q = p then some i else f q) → w.grownBy w' (some g) → wpList Tryz.prog ops Q rest (a.put o.dst undef) w') : wpList Tryz.prog ops Q (o :: rest) a w := by
  obtain ⟨D, h1, h2, h3⟩ := hown
  have hwi : (Lit.int .i64 (i : Nat)).wf = true := by simp [Lit.wf, IntKind.min, IntKind.max, IntKind.signed, IntKind.bits]; omega
  refine wpList_mapUpdate_own w hg m x v 149 hop 3 3 lawInt Tryz.underlying149 _ g n D hm h1 hn (.int .i64 p) (.int .i64 (i : Nat)) (.int .i64 p) hx hv (keyOf_int_mk Tryz.underlying3 hp) (.lit (.int .i64 (i : Nat))) [] (plainElem_int Tryz.underlying3 hwi) ?_
  intro w' hw' hgr
  refine hK w' ⟨_, hw', h2.put _ _, fun q hq => ?_⟩ hgr
  by_cases e : q = p
  · subst e
    have ef : (fun r => if r = q then some i else f r) q = some i := if_pos rfl
    have hk : WideAt.IsKeyLit (.int .i64 q) := by unfold WideAt.IsKeyLit; exact trivial
    rw [ef]
    refine ⟨has_put_same h2 hk _, fun j hj => ?_⟩
    cases hj
    exact atKey_put_same h2 hk _ _
  · have hne : (Lit.int .i64 q) ≠ (Lit.int .i64 p) := fun h => e (by injection h)
    have ef : (fun r => if r = p then some i else f r) q = f q := if_neg e
    obtain ⟨h4, h5⟩ := h3 q hq
    rw [ef]
    refine ⟨by rw [has_put_other hne, h4], fun j hj => ?_⟩
    rw [atKey_put_other hne]
    exact h5 j hj
/-- i, ok := m[p]. -/
theorem wpList_mapI_get (hg : o.guard = none) (m x : Operand) (hop : o.op = Op.lookup 149 m x true) (g n : Nat) (f : Int → Option Nat) (hm : a.eval m = .map (some g)) (hown : MapI w g n f)
    (p : Int) (hp : (Lit.int .i64 p).wf = true) (hx : a.eval x = .int .i64 p)
    (hK : ∀ c : Int, (∀ i, f p = some i → c = (i : Nat)) → wpList Tryz.prog ops Q rest (a.put o.dst (.tuple #[.int .i64 c, .bool (f p).isSome])) w) : wpList Tryz.prog ops Q (o :: rest) a w := by
  obtain ⟨D, h1, h2, h3⟩ := hown
  refine wpList_lookup_own_ok_int w hg m x 149 hop 3 3 .i64 lawInt Tryz.underlying149 Tryz.underlying3 (zeroInt w) g n D hm h1 (.int .i64 p) (.int .i64 p) hx (keyOf_int_mk Tryz.underlying3 hp) ?_
  intro c hat hwc
  obtain ⟨h4, h5⟩ := h3 p hp
  rw [h4]
  refine hK c fun i hi => ?_
  rw [h5 i hi] at hat
  injection hat with hat
  injection hat with _ hat
  exact hat.symm
theorem wpList_mapI_some (hg : o.guard = none) (m x : Operand) (hop : o.op = Op.lookup 149 m x true) (g n : Nat) (f : Int → Option Nat) (hm : a.eval m = .map (some g)) (hown : MapI w g n f)
    (p : Int) (hp : (Lit.int .i64 p).wf = true) (hx : a.eval x = .int .i64 p) (i : Nat) (hf : f p = some i)
    (hK : wpList Tryz.prog ops Q rest (a.put o.dst (.tuple #[.int .i64 (i : Nat), .bool true])) w) : wpList Tryz.prog ops Q (o :: rest) a w :=
  wpList_mapI_get hg m x hop g n f hm hown p hp hx fun c hc => by
    rw [hf, hc i hf]
    exact hK
theorem wpList_mapI_none (hg : o.guard = none) (m x : Operand) (hop : o.op = Op.lookup 149 m x true) (g n : Nat) (f : Int → Option Nat) (hm : a.eval m = .map (some g)) (hown : MapI w g n f)
    (p : Int) (hp : (Lit.int .i64 p).wf = true) (hx : a.eval x = .int .i64 p) (hf : f p = none)
    (hK : ∀ c : Int, wpList Tryz.prog ops Q rest (a.put o.dst (.tuple #[.int .i64 c, .bool false])) w) : wpList Tryz.prog ops Q (o :: rest) a w :=
  wpList_mapI_get hg m x hop g n f hm hown p hp hx fun c _ => by
    rw [hf]
    exact hK c
end
end Go.Proofs.YtbggkfomfeeikaaGreatDoor
/-
  dev.lastOnes tells for each block which is the last one of the writes whose mark is true.
-/
namespace Go.Proofs.YtbggkfomfeeikaaGreatDoor
open Go.RowKit Go.Shelf
set_option maxRecDepth 100000

/-- A new map that tells of each block its last one among the first m. -/
def LastPost (ws : WrL) (mk : Nat → Bool) (m : Nat) (w : World) (e : Ending) (w' : World) : Prop :=
  ∃ g, e = .returned (.map (some g)) ∧ w.heap.size ≤ g ∧ MapI w' g m (fun p => lastTo ws mk p m) ∧ Below w.heap.size w w'
theorem lastTo_put {ws : WrL} {mk : Nat → Bool} {k : Nat} {p : Int} {s : List UInt8} (h : wr_ ws k = (p, s)) (hm : mk k = true) (q : Int) : (if q = p then some k else lastTo ws mk q k) = lastTo ws mk q (k + 1) := by
  rw [lastTo, h]
  by_cases e : q = p
  · rw [if_pos e, if_pos ⟨hm, e.symm⟩]
  · rw [if_neg e, if_neg (fun h => e h.2.symm)]
theorem lastTo_skip {ws : WrL} {mk : Nat → Bool} {k : Nat} (hm : mk k = false) (q : Int) : lastTo ws mk q k = lastTo ws mk q (k + 1) := by
  rw [lastTo, if_neg (fun h => by rw [hm] at h; cases h.1)]
set_option maxHeartbeats 1000000 in
theorem dLast2_any (a : Option Addr) (m c : Nat) (ws : WrL) (mk : Nat → Bool) (pa pb : Addr) (w : World) (hW : Wts w w.heap.size a m c ws)
    (hF : ∀ W, Below w.heap.size w W → ∀ i, i < m → Calls Tryz.prog 110 #[.int .i64 (i : Nat), .pointer (some pa), .pointer (some pb)] W fun e w' => e = .returned (.bool (mk i)) ∧ Below W.heap.size W w') :
    Calls Tryz.prog 109 #[.slice a m c, .func (.func 110) #[] #[.pointer (some pa), .pointer (some pb)]] w (LastPost ws mk m w) := by
  have hmm := @run_makeMap Tryz.prog
  have m0 : (0 : Int) ≤ m := by omega
  have m1 := hW.len_le
  obtain ⟨g, hg⟩ : ∃ g, w.heap.size = g := ⟨_, rfl⟩
  obtain ⟨w0, hw0⟩ : ∃ w0, w.alloc (.map #[] 0) = w0 := ⟨_, rfl⟩
  have hM := mapI_made w
  have hb0 : Below w.heap.size w w0 := by rw [← hw0]; exact (Below.refl _ w).alloc (Nat.le_refl _) _
  rw [hw0, hg] at hM
  rw [hg] at hb0
  have hM0 : MapI w0 g 0 (fun p => lastTo ws mk p 0) := hM
  have HW := Lib.hid hW
  have HF := Lib.hid hF
  have HG := Lib.hid hg
  have HM0 := Lib.hid hM0
  have HB0 := Lib.hid hb0
  clear hW hF hM hM0 hb0
  go_enter Tryz.func109, Tryz.ntmps109
  go_wp2_with fail
  clear hg hw0
  go_loopw [11] (fun i wr => ∃ k : Nat, k ≤ m ∧ i = .int .i64 k ∧ Hid (MapI wr g k (fun p => lastTo ws mk p k)) ∧ Hid (Below g w wr)) (fun i _ => m - (intOf i).toNat)
  case atStart => exact ⟨0, Nat.zero_le _, rfl, HM0, HB0⟩
  case round =>
    obtain ⟨k, hk, rfl, HM, HB⟩ := hrel
    have k0 : (0 : Int) ≤ k := by omega
    by_cases hlt : k < m
    · have k1 : (k : Int) < m := by omega
      obtain ⟨b, off, p, A, l, c', s, rfl, hlb, hl, hwf, hc, hd, hA⟩ := HW.out.at_ hlt
      rw [HG.out] at hlb
      have c1 := (HB.out.cell (p := ⟨b, off + k * 2, none⟩) hlb).trans hc
      have c2 := (HB.out.cell (p := ⟨b, off + k * 2 + 1, none⟩) hlb).trans hd
      have hx := Blk.new wr 91 #[.int .i64 p, .slice A l c']
      have ba := (Below.refl wr.heap.size wr).alloc (Nat.le_refl _) (.cells #[.int .i64 p, .slice A l c'] 91)
      have hgr : g < wr.heap.size := HM.out.lt
      have ha := HM.out.below ba hgr
      have hb := HB.out.trans (ba.mono (Nat.le_of_lt hgr))
      have hcl := HF.out _ (by rw [HG.out]; exact hb) k hlt
      obtain ⟨wa, hwa⟩ : ∃ wa, wr.alloc (.cells #[.int .i64 p, .slice A l c'] 91) = wa := ⟨_, rfl⟩
      obtain ⟨gt, hgt⟩ : ∃ gt, wr.heap.size = gt := ⟨_, rfl⟩
      rw [hwa, hgt] at hx
      rw [hwa] at ha hb hcl
      rw [hgt] at hgr
      have HX := Lib.hid hx
      have HA := Lib.hid ha
      have HBa := Lib.hid hb
      have HC := Lib.hid hcl
      have HL := Lib.hid hl
      have HWF := Lib.hid hwf
      clear hc hd hA ba hx ha hb hcl HM HB hl hwf
      go_wp2_with fail
      refine HC.out.mono ?_
      rintro e w1 ⟨rfl, b1⟩
      have hgw := HA.out.lt
      have HB1 := Lib.hid (HBa.out.trans (b1.mono (by omega)))
      have HM1 := Lib.hid (HA.out.below b1 hgw)
      have d0 := (HX.out.below b1 HX.out.lt).cell 0
      clear b1 hgt hwa c1 c2 HC HA HBa HX hgw hgr
      by_cases hm : mk k = true
      · have HMK := Lib.hid hm
        go_wp2_with (at_mapUpdate; refine wpList_mapI_put rfl (.tmp 19) (.tmp 21) (.tmp 22) rfl g k _ rfl HM1.out (by unfold maxLen; omega) p k HWF.out (by omega) rfl rfl ?_
                     intro w2 hm2 hg2
                     have HM2 := Lib.hid (hm2.congr (lastTo_put HL.out HMK.out))
                     have HB2 := Lib.hid (HB1.out.grown hg2 (by have := HM1.out.lt; omega) (fun j e => by cases e; exact Nat.le_refl _))
                     clear hm2 hg2)
        go_roundw
        case rel => exact ⟨k + 1, by omega, by go_num, HM2, HB2⟩
        case measure => simp [intOf]; omega
      · have hm' : mk k = false := by simpa using hm
        have HM2 := Lib.hid ((HM1.out.congr (lastTo_skip hm')))
        clear hm
        go_wp2_with fail
        go_roundw
        case rel =>
          obtain ⟨D, h1, h2⟩ := HM2.out
          exact ⟨k + 1, by omega, by go_num, Lib.hid ⟨D, h1.mono (Nat.le_succ _), h2⟩, HB1⟩
        case measure => simp [intOf]; omega
    · obtain rfl : k = m := by omega
      go_wp2_with fail
      go_ret
      exact ⟨g, rfl, by rw [HG.out]; exact Nat.le_refl _, HM.out, by rw [HG.out]; exact HB.out⟩
end Go.Proofs.YtbggkfomfeeikaaGreatDoor
/-
  dev.left tells what last ones leave of a block; the closures that tell marks.
-/
namespace Go.Proofs.YtbggkfomfeeikaaGreatDoor
open Go.RowKit Go.Shelf
set_option maxRecDepth 100000

/-- A list below block B that reads as s. -/
def ReadPost (B : Nat) (s : List UInt8) (w : World) (e : Ending) (w' : World) : Prop := ∃ A c, e = .returned (.slice A s.length c) ∧ Bsl w' B A s.length c s ∧ Below w.heap.size w w'
theorem wf64 {p : Int} (h0 : -9223372036854775808 ≤ p) (h1 : p ≤ 9223372036854775807) : (Lit.int .i64 p).wf = true := by simp [Lit.wf, IntKind.min, IntKind.max, IntKind.signed, IntKind.bits]; omega
set_option maxHeartbeats 1000000 in
theorem dLeft_some (B : Nat) (x : DAt) (D : DkL) (g N : Nat) (f : Int → Option Nat) (p : Int) (i : Nat) (w : World) (hB : B ≤ w.heap.size) (h : Dsk w B x D) (hM : MapI w g N f) (hp : (Lit.int .i64 p).wf = true) (hf : f p = some i) (hi : i < D.2.length) :
    Calls Tryz.prog 112 #[dval x D, .map (some g), .int .i64 p] w (ReadPost B (wr_ D.2 i).2 w) := by
  obtain ⟨b, off, q, A, l, c, s, hbe, hlb, hl, _, hc, hd, hA⟩ := h.2.at_ hi
  obtain ⟨ba, bc, wa, wc⟩ := x
  obtain rfl : wa = some ⟨b, off, none⟩ := hbe
  simp only [dval]
  have m1 := h.2.len_le
  obtain ⟨n, hn⟩ : ∃ n, D.1.length = n := ⟨_, rfl⟩
  obtain ⟨m, hm⟩ : ∃ m, D.2.length = m := ⟨_, rfl⟩
  rw [hm] at m1 hi
  have i0 : (0 : Int) ≤ i := by omega
  have i1 : (i : Int) < m := by omega
  have hb := (Below.refl w.heap.size w).alloc (Nat.le_refl _) (.cells #[.slice ba D.1.length bc, .slice (some ⟨b, off, none⟩) D.2.length wc] 26)
  have hx := Blk.new w 26 #[.slice ba D.1.length bc, .slice (some ⟨b, off, none⟩) D.2.length wc]
  have hM1 := hM.below hb hM.lt
  have c1 := (hb.cell (p := ⟨b, off + i * 2, none⟩) (Nat.lt_of_lt_of_le hlb hB)).trans hc
  have c2 := (hb.cell (p := ⟨b, off + i * 2 + 1, none⟩) (Nat.lt_of_lt_of_le hlb hB)).trans hd
  have hA1 := hA.below (hb.mono hB)
  rw [hn, hm] at hb hx hM1 c1 c2 hA1 ⊢
  rw [hl]
  have hls := hA.1
  subst hls
  have HB := Lib.hid hb
  have HX := Lib.hid hx
  have HM := Lib.hid hM1
  have HA := Lib.hid hA1
  have HP := Lib.hid hp
  have HF := Lib.hid hf
  clear h hM hb hx hM1 hc hd hA hA1 hl hn hm hp hf
  go_enter Tryz.func112, Tryz.ntmps112
  go_wp2_with (at_lookup; refine wpList_mapI_some rfl (.tmp 10) (.tmp 11) rfl g N f rfl HM.out p HP.out rfl i HF.out ?_)
  go_ret
  exact ⟨A, c, rfl, HA.out, HB.out⟩
set_option maxHeartbeats 1000000 in
theorem dLeft_none (B : Nat) (x : DAt) (D : DkL) (g N : Nat) (f : Int → Option Nat) (p : Nat) (w : World) (hB : B ≤ w.heap.size) (h : Dsk w B x D) (hM : MapI w g N f) (hf : f (p : Int) = none) (hp : p < D.1.length) :
    Calls Tryz.prog 112 #[dval x D, .map (some g), .int .i64 p] w (ReadPost B (D.1.getD p []) w) := by
  have m1 := h.1.len_le
  obtain ⟨b, off, A, l, c, s, hbe, hlb, hl, hc, hA⟩ := h.1.at_ hp
  obtain ⟨ba, bc, wa, wc⟩ := x
  obtain rfl : ba = some ⟨b, off, none⟩ := hbe
  simp only [dval]
  obtain ⟨n, hn⟩ : ∃ n, D.1.length = n := ⟨_, rfl⟩
  obtain ⟨m, hm⟩ : ∃ m, D.2.length = m := ⟨_, rfl⟩
  rw [hn] at m1 hp
  have i0 : (0 : Int) ≤ p := by omega
  have i1 : (p : Int) < n := by omega
  have hwf := wf64 (p := p) (by omega) (by omega)
  have hb := (Below.refl w.heap.size w).alloc (Nat.le_refl _) (.cells #[.slice (some ⟨b, off, none⟩) D.1.length bc, .slice wa D.2.length wc] 26)
  have hx := Blk.new w 26 #[.slice (some ⟨b, off, none⟩) D.1.length bc, .slice wa D.2.length wc]
  have hM1 := hM.below hb hM.lt
  have c1 := (hb.cell (p := ⟨b, off + p, none⟩) (Nat.lt_of_lt_of_le hlb hB)).trans hc
  have hA1 := hA.below (hb.mono hB)
  rw [hn, hm] at hb hx hM1 c1 hA1 ⊢
  rw [hl]
  have hls := hA.1
  subst hls
  have HB := Lib.hid hb
  have HX := Lib.hid hx
  have HM := Lib.hid hM1
  have HA := Lib.hid hA1
  have HP := Lib.hid hwf
  have HF := Lib.hid hf
  clear h hM hb hx hM1 hc hA hA1 hl hn hm hwf hf
  go_enter Tryz.func112, Tryz.ntmps112
  go_wp2_with (at_lookup; refine wpList_mapI_none rfl (.tmp 10) (.tmp 11) rfl g N f rfl HM.out p HP.out rfl HF.out ?_; intro cx)
  go_ret
  exact ⟨A, c, rfl, HA.out, HB.out⟩
/-- What last ones leave. -/
theorem dLeft_any (B : Nat) (x : DAt) (D : DkL) (g N : Nat) (mk : Nat → Bool) (p : Nat) (w : World) (hB : B ≤ w.heap.size) (h : Dsk w B x D) (hM : MapI w g N (fun q => lastTo D.2 mk q D.2.length)) (hp : p < D.1.length) :
    Calls Tryz.prog 112 #[dval x D, .map (some g), .int .i64 p] w (ReadPost B (leftD D mk p) w) := by
  have m1 := h.1.len_le
  unfold leftD
  split
  · rename_i i hi
    exact dLeft_some B x D g N _ p i w hB h hM (wf64 (by omega) (by omega)) hi (lastTo_lt hi).1
  · rename_i hi
    exact dLeft_none B x D g N _ p w hB h hM hi hp
/-- A slice of marks that lies below block B reads as ks. -/
def Mks (w : World) (B : Nat) (a : Option Addr) (len cap : Nat) (ks : List Bool) : Prop :=
  ks.length = len ∧ len ≤ cap ∧ cap ≤ maxLen ∧ (0 < len → ∃ b off, a = some ⟨b, off, none⟩ ∧ b < B ∧ ∀ i, i < len → w.cell? ⟨b, off + i, none⟩ = some (.bool (ks.getD i false)))
theorem Mks.below {w w' : World} {B len cap : Nat} {a : Option Addr} {ks : List Bool} (h : Mks w B a len cap ks) (hb : Below B w w') : Mks w' B a len cap ks := by
  obtain ⟨h1, h2, h3, h4⟩ := h
  refine ⟨h1, h2, h3, fun hl => ?_⟩
  obtain ⟨b, off, e, hlt, hc⟩ := h4 hl
  exact ⟨b, off, e, hlt, fun i hi => (hb.cell (p := ⟨b, off + i, none⟩) hlt).trans (hc i hi)⟩
theorem Mks.more {w : World} {B B' len cap : Nat} {a : Option Addr} {ks : List Bool} (h : Mks w B a len cap ks) (hB : B ≤ B') : Mks w B' a len cap ks := by
  obtain ⟨h1, h2, h3, h4⟩ := h
  refine ⟨h1, h2, h3, fun hl => ?_⟩
  obtain ⟨b, off, e, hlt, hc⟩ := h4 hl
  exact ⟨b, off, e, by omega, hc⟩
theorem Mks.step {w w' : World} {len cap : Nat} {a : Option Addr} {ks : List Bool} (h : Mks w w.heap.size a len cap ks) (hb : Below w.heap.size w w') : Mks w' w'.heap.size a len cap ks := (h.below hb).more hb.size
theorem Mks.len_le {w : World} {B len cap : Nat} {a : Option Addr} {ks : List Bool} (h : Mks w B a len cap ks) : (len : Int) ≤ 9223372036854775807 := by have h1 := h.2.1; have h2 := h.2.2.1; unfold maxLen at h2; omega
theorem dGoes_any (B : Nat) (x : DAt) (D : DkL) (gd ga : Nat) (p : Int) (i : Nat) (w : World) (h : Dsk w B x D) (hd : Blk w gd 26 #[.slice x.ba D.1.length x.bc, .slice x.wa D.2.length x.wc]) (hp : w.cell? ⟨ga, 0, none⟩ = some (.int .i64 p)) (hi : i < D.2.length) :
    Calls Tryz.prog 110 #[.int .i64 (i : Nat), .pointer (some ⟨gd, 0, none⟩), .pointer (some ⟨ga, 0, none⟩)] w fun e w' => e = .returned (.bool (decide ((wr_ D.2 i).1 = p))) ∧ Below w.heap.size w w' := by
  obtain ⟨b, off, q, A, l, c, s, hbe, hlb, hl, _, hc, _, hA⟩ := h.2.at_ hi
  obtain ⟨ba, bc, wa, wc⟩ := x
  obtain rfl : wa = some ⟨b, off, none⟩ := hbe
  have m1 := h.2.len_le
  obtain ⟨m, hm⟩ : ∃ m, D.2.length = m := ⟨_, rfl⟩
  rw [hm] at m1 hi
  rw [hl]
  have i0 : (0 : Int) ≤ i := by omega
  have i1 : (i : Int) < m := by omega
  have d1 : w.cell? ⟨gd, 1, none⟩ = some (.slice (some ⟨b, off, none⟩) m wc) := by rw [← hm]; exact hd.cell 1
  have e : (q == p) = decide (q = p) := rfl
  have HB := Lib.hid (fun k => below_drewN (Below.refl w.heap.size w) k)
  have HE := Lib.hid e
  clear h hd hA hm hl e
  go_enter Tryz.func110, Tryz.ntmps110
  go_wp2_with fail
  go_quiet (fail)
  go_wp2_with fail
  go_ret
  exact ⟨by first | rfl | (rw [← HE.out]; rfl), HB.out _⟩
end Go.Proofs.YtbggkfomfeeikaaGreatDoor
/-
  Words for the document's own Twin of a disk: rows of the call's own whose pieces lie each in a block of its own.
-/
namespace Go.Proofs.YtbggkfomfeeikaaGreatDoor
open Go.RowKit Go.Shelf
set_option maxRecDepth 100000

theorem own_val {w : World} {base n : Nat} {v : Value} {s : List UInt8} (h : w.ownsRow base 5 1 v n (vals s)) : ∃ A c, v = .slice A n c ∧ ∀ B, BslO w B A n c s := by
  obtain ⟨A, c, rfl⟩ := own_slice h
  exact ⟨A, c, rfl, fun B => BslO.own h B⟩
/-- The pieces' values: those that are there yet. -/
def ifDone (k i : Nat) (v : Value) : Value := if i < k then v else .slice none 0 0
theorem done_yes {k i : Nat} {v : Value} (h : i < k) : ifDone k i v = v := if_pos h
theorem done_no {k i : Nat} {v : Value} (h : ¬ i < k) : ifDone k i v = .slice none 0 0 := if_neg h
/-- One value more. -/
def putV (vs : Nat → Value) (k : Nat) (v : Value) (i : Nat) : Value := if i = k then v else vs i
theorem put_same (vs : Nat → Value) (k : Nat) (v : Value) : putV vs k v k = v := if_pos rfl
theorem put_ne {vs : Nat → Value} {k i : Nat} {v : Value} (h : i ≠ k) : putV vs k v i = vs i := if_neg h
/-- A disk whose first k pieces are there, each in a block of its own. -/
def TwI (base hb hw : Nat) (D : DkL) (k : Nat) (w : World) : Prop :=
  ∃ (vs : Nat → Value) (cb cw : Array Value), Blk w hb 27 cb ∧ cb.size = D.1.length ∧ Blk w hw 91 cw ∧ cw.size = D.2.length * 2 ∧
    (∀ i, i < D.1.length → cb[i]? = some (ifDone k i (vs i))) ∧
    (∀ j, j < D.2.length → cw[j * 2 + 1]? = some (ifDone k (D.1.length + j) (vs (D.1.length + j))) ∧ (D.1.length + j < k → cw[j * 2]? = some (.int .i64 (wr_ D.2 j).1))) ∧
    (∀ i, i < k → w.ownsRow base 5 1 (vs i) ((pieces D).getD i []).length (vals ((pieces D).getD i []))) ∧
    (∀ i j, i < j → j < k → ∀ b, (vs i).ownBlock = some b → (vs j).ownBlock ≠ some b)
theorem TwI.below {base hb hw k : Nat} {D : DkL} {w w' : World} (h : TwI base hb hw D k w) (hb' : Below w.heap.size w w') : TwI base hb hw D k w' := by
  obtain ⟨vs, cb, cw, h1, h2, h3, h4, h5, h6, h7, h8⟩ := h
  exact ⟨vs, cb, cw, h1.below hb' h1.lt, h2, h3.below hb' h3.lt, h4, h5, h6, fun i hi => own_below (h7 i hi) hb', h8⟩
theorem own_ne {w : World} {base n g : Nat} {v : Value} {xs : List Value} {t : TypeId} {cs : Array Value} (h : w.ownsRow base 5 1 v n xs) (hg : Blk w g t cs) (ht : t ≠ 5) : ∀ b, v.ownBlock = some b → b ≠ g := by
  intro b hb
  obtain ⟨_, ⟨rfl, _⟩ | ⟨g', cap, cur, rfl, _, h3, _⟩⟩ := h
  · cases hb
  · obtain rfl : g' = b := Option.some.inj hb
    exact fun e => (show Blk w g' _ cur from h3).ne hg (Ne.symm ht) e
/-- The next block is there. -/
theorem TwI.block {base hb hw k : Nat} {D : DkL} {w w' : World} {v : Value} (h : TwI base hb hw D k w) (hk : k < D.1.length) (hb' : Below w.heap.size w w') (hv : w'.ownsRow w.heap.size 5 1 v (D.1.getD k []).length (vals (D.1.getD k []))) (hbase : base ≤ w.heap.size) :
    TwI base hb hw D (k + 1) (w'.setCell ⟨hb, k, none⟩ v) := by
  have h0 := h.below hb'
  obtain ⟨vs, cb, cw, h1, h2, h3, h4, h5, h6, h7, h8⟩ := h
  have hlt : ∀ i, i < k → ∀ b, (vs i).ownBlock = some b → b < w.heap.size := fun i hi b e => ((h7 i hi).lt b e).2
  have x1 := h1.below hb' h1.lt
  have x3 := h3.below hb' h3.lt
  have hne : hw ≠ hb := x3.ne x1 (by decide)
  have gs : w'.grownBy (w'.setCell ⟨hb, k, none⟩ v) (some hb) := only_setCell (World.grownBy.refl w' _) (.inl rfl) _
  have hps : (pieces D).getD k [] = D.1.getD k [] := pieces_left hk
  refine ⟨putV vs k v, _, cw, x1.set_ k v, by simpa using h2, x3.far (by simpa using hne) _, h4, fun i hi => ?_, fun j hj => ?_, fun i hi => ?_, fun i j hij hj b e1 e2 => ?_⟩
  · rw [Array.getElem?_setIfInBounds]
    by_cases e : k = i
    · subst e
      rw [if_pos rfl, if_pos (by omega), done_yes (by omega), put_same]
    · rw [if_neg e, h5 i hi, put_ne (Ne.symm e)]
      by_cases e2 : i < k
      · rw [done_yes e2, done_yes (by omega)]
      · rw [done_no e2, done_no (by omega)]
  · obtain ⟨e1, e2⟩ := h6 j hj
    refine ⟨?_, fun hh => absurd hh (by omega)⟩
    rw [e1, done_no (by omega), done_no (by omega)]
  · by_cases e : i = k
    · subst e
      rw [put_same, hps]
      exact own_mono (own_other hv gs (own_ne hv x1 (by decide))) hbase
    · rw [put_ne e]
      have := own_below (h7 i (by omega)) hb'
      exact own_other this gs (own_ne this x1 (by decide))
  · rw [put_ne (by omega)] at e1
    by_cases e : j = k
    · subst e
      rw [put_same] at e2
      have h9 := hlt i (by omega) b e1
      have h10 := (hv.lt b e2).1
      omega
    · rw [put_ne e] at e2
      exact h8 i j hij (by omega) b e1 e2
/-- The next write's place is there. -/
theorem TwI.at_ {base hb hw k j : Nat} {D : DkL} {w : World} {u : Value} (h : TwI base hb hw D k w) (hk : k ≤ D.1.length + j) : TwI base hb hw D k (w.setCell ⟨hw, j * 2, none⟩ u) := by
  obtain ⟨vs, cb, cw, h1, h2, h3, h4, h5, h6, h7, h8⟩ := h
  have hne : hb ≠ hw := h1.ne h3 (by decide)
  have gs : w.grownBy (w.setCell ⟨hw, j * 2, none⟩ u) (some hw) := only_setCell (World.grownBy.refl w _) (.inl rfl) _
  refine ⟨vs, cb, _, h1.far (by simpa using hne) _, h2, h3.set_ _ _, by simpa using h4, h5, fun i hi => ?_, fun i hi => own_other (h7 i hi) gs (own_ne (h7 i hi) h3 (by decide)), h8⟩
  obtain ⟨e1, e2⟩ := h6 i hi
  refine ⟨by rw [Array.getElem?_setIfInBounds, if_neg (by omega)]; exact e1, fun hh => ?_⟩
  rw [Array.getElem?_setIfInBounds, if_neg (by omega)]
  exact e2 hh
/-- The next write is there. -/
theorem TwI.write {base hb hw k j : Nat} {D : DkL} {w w' : World} {v : Value} (h : TwI base hb hw D k w) (hk : k = D.1.length + j) (hj : j < D.2.length) (hat : w.cell? ⟨hw, j * 2, none⟩ = some (.int .i64 (wr_ D.2 j).1)) (hb' : Below w.heap.size w w') (hv : w'.ownsRow w.heap.size 5 1 v (wr_ D.2 j).2.length (vals (wr_ D.2 j).2)) (hbase : base ≤ w.heap.size) :
    TwI base hb hw D (k + 1) (w'.setCell ⟨hw, j * 2 + 1, none⟩ v) := by
  obtain ⟨vs, cb, cw, h1, h2, h3, h4, h5, h6, h7, h8⟩ := h
  have hlt : ∀ i, i < k → ∀ b, (vs i).ownBlock = some b → b < w.heap.size := fun i hi b e => ((h7 i hi).lt b e).2
  have x1 := h1.below hb' h1.lt
  have x3 := h3.below hb' h3.lt
  have hne : hb ≠ hw := x1.ne x3 (by decide)
  rw [h3.cell] at hat
  have gs : w'.grownBy (w'.setCell ⟨hw, j * 2 + 1, none⟩ v) (some hw) := only_setCell (World.grownBy.refl w' _) (.inl rfl) _
  have hps : (pieces D).getD k [] = (wr_ D.2 j).2 := by rw [hk]; exact pieces_right hj
  refine ⟨putV vs k v, cb, _, x1.far (by simpa using hne) _, h2, x3.set_ _ _, by simpa using h4, fun i hi => ?_, fun i hi => ?_, fun i hi => ?_, fun i i' hij hi' b e1 e2 => ?_⟩
  · rw [h5 i hi, put_ne (by omega), done_yes (by omega), done_yes (by omega)]
  · obtain ⟨e1, e2⟩ := h6 i hi
    by_cases e : i = j
    · subst e
      subst hk
      refine ⟨?_, fun _ => ?_⟩
      · rw [Array.getElem?_setIfInBounds, if_pos rfl, if_pos (by omega), done_yes (by omega), put_same]
      · rw [Array.getElem?_setIfInBounds, if_neg (by omega)]
        exact hat
    · refine ⟨?_, fun hh => ?_⟩
      · rw [Array.getElem?_setIfInBounds, if_neg (by omega), e1, put_ne (by omega)]
        by_cases e3 : D.1.length + i < k
        · rw [done_yes e3, done_yes (by omega)]
        · rw [done_no e3, done_no (by omega)]
      · rw [Array.getElem?_setIfInBounds, if_neg (by omega)]
        exact e2 (by omega)
  · by_cases e : i = k
    · subst e
      rw [put_same, hps]
      exact own_mono (own_other hv gs (own_ne hv x3 (by decide))) hbase
    · rw [put_ne e]
      have := own_below (h7 i (by omega)) hb'
      exact own_other this gs (own_ne this x3 (by decide))
  · rw [put_ne (by omega)] at e1
    by_cases e : i' = k
    · subst e
      rw [put_same] at e2
      have h9 := hlt i (by omega) b e1
      have h10 := (hv.lt b e2).1
      omega
    · rw [put_ne e] at e2
      exact h8 i i' hij (by omega) b e1 e2
/-- A disk all of whose pieces are there. -/
def Tw (w : World) (base : Nat) (x : DAt) (D : DkL) : Prop :=
  ∃ hb hw, x = ⟨some ⟨hb, 0, none⟩, D.1.length, some ⟨hw, 0, none⟩, D.2.length⟩ ∧ base ≤ hb ∧ base ≤ hw ∧ Fits D ∧ (∀ i, i < D.2.length → (Lit.int .i64 (wr_ D.2 i).1).wf = true) ∧ TwI base hb hw D (D.1.length + D.2.length) w
theorem Tw.below {w w' : World} {base : Nat} {x : DAt} {D : DkL} (h : Tw w base x D) (hb : Below w.heap.size w w') : Tw w' base x D := by
  obtain ⟨a, b, c, d, e, f, g, h1⟩ := h
  exact ⟨a, b, c, d, e, f, g, h1.below hb⟩
theorem Tw.brow {w : World} {base : Nat} {x : DAt} {D : DkL} (h : Tw w base x D) (C : Nat) : BRowC w C base (.slice x.ba D.1.length x.bc) D.1 := by
  obtain ⟨hb, hw, rfl, k1, k2, hf, hwf, vs, cb, cw, h1, h2, h3, h4, h5, h6, h7, h8⟩ := h
  refine ⟨cb.toList, ⟨by simp [h2], .inr ⟨hb, D.1.length, cb, rfl, k1, h1, Nat.le_refl _, by have := hf.1; unfold maxLen; omega, by omega, List.take_of_length_le (by simp [h2])⟩⟩, fun i hi => ?_⟩
  have ho := h7 i (by omega)
  rw [pieces_left hi] at ho
  obtain ⟨A, c, e, hs⟩ := own_val ho
  refine ⟨A, c, ?_, hs C⟩
  have := h5 i hi
  rw [done_yes (by omega), e] at this
  rw [List.getD_eq_getElem?_getD, Array.getElem?_toList, this]
  rfl
theorem Tw.wrow {w : World} {base : Nat} {x : DAt} {D : DkL} (h : Tw w base x D) (C : Nat) : WRowC w C base (.slice x.wa D.2.length x.wc) D.2 := by
  obtain ⟨hb, hw, rfl, k1, k2, hf, hwf, vs, cb, cw, h1, h2, h3, h4, h5, h6, h7, h8⟩ := h
  refine ⟨cw.toList, ⟨by simp [h4], .inr ⟨hw, D.2.length, cw, rfl, k2, h3, Nat.le_refl _, by have := hf.2.1; unfold maxLen; omega, h4, List.take_of_length_le (by simp [h4])⟩⟩, fun i hi => ?_⟩
  have ho := h7 (D.1.length + i) (by omega)
  rw [pieces_right hi] at ho
  obtain ⟨A, c, e, hs⟩ := own_val ho
  obtain ⟨e1, e2⟩ := h6 i hi
  rw [done_yes (by omega), e] at e1
  refine ⟨hwf i hi, ?_, A, c, ?_, hs C⟩
  · rw [List.getD_eq_getElem?_getD, Array.getElem?_toList, e2 (by omega)]
    rfl
  · rw [List.getD_eq_getElem?_getD, Array.getElem?_toList, e1]
    rfl
theorem Tw.dsk {w : World} {base : Nat} {x : DAt} {D : DkL} (h : Tw w base x D) : Dsk w w.heap.size x D := by
  obtain ⟨a, c, e1, h1⟩ := (h.brow 0).bls
  obtain ⟨a', c', e2, h2⟩ := (h.wrow 0).wts
  cases e1
  cases e2
  exact ⟨h1, h2⟩
/-- A disk that stays where a box of disks is written. -/
def DskT (w : World) (x : DAt) (D : DkL) : Prop := Dsk w w.heap.size x D ∧ ∀ g cs u v, Blk w g 26 cs → Dsk ((w.setCell ⟨g, 0, none⟩ u).setCell ⟨g, 1, none⟩ v) w.heap.size x D
theorem rows_dsk {w : World} {C C' b1 b2 : Nat} {x : DAt} {D : DkL} (h1 : BRowC w C b1 (.slice x.ba D.1.length x.bc) D.1) (h2 : WRowC w C' b2 (.slice x.wa D.2.length x.wc) D.2) : Dsk w w.heap.size x D := by
  obtain ⟨a, c, e1, h1⟩ := h1.bls
  obtain ⟨a', c', e2, h2⟩ := h2.wts
  cases e1
  cases e2
  exact ⟨h1, h2⟩
theorem rows_dskT {w : World} {b1 b2 : Nat} {x : DAt} {D : DkL} (h1 : BRowC w 0 b1 (.slice x.ba D.1.length x.bc) D.1) (h2 : WRowC w 0 b2 (.slice x.wa D.2.length x.wc) D.2) : DskT w x D :=
  ⟨rows_dsk h1 h2, fun g cs u v hg => by
    have gs : w.grownBy ((w.setCell ⟨g, 0, none⟩ u).setCell ⟨g, 1, none⟩ v) (some g) := only_two w g u v
    have := rows_dsk (h1.row gs (Nat.zero_le _) hg (by decide) (by decide)) (h2.row gs (Nat.zero_le _) hg (by decide) (by decide))
    simpa using this⟩
theorem Tw.dskT {w : World} {base : Nat} {x : DAt} {D : DkL} (h : Tw w base x D) : DskT w x D := rows_dskT (h.brow 0) (h.wrow 0)
end Go.Proofs.YtbggkfomfeeikaaGreatDoor
/-
  dev.settled of a disk that may be answers what the writes leave whose mark is true, laid in one new piece.
-/
namespace Go.Proofs.YtbggkfomfeeikaaGreatDoor
open Go.RowKit Go.Shelf
set_option maxRecDepth 100000

/-- A row of one's own whose first k cells are lists below block B that read as f tells. -/
def RowsI (B : Nat) (f : Nat → List UInt8) (hb n k : Nat) (w : World) : Prop := ∃ cb, Blk w hb 27 cb ∧ cb.size = n ∧ ∀ i, i < k → ∃ A c, cb[i]? = some (.slice A (f i).length c) ∧ Bsl w B A (f i).length c (f i)
theorem RowsI.below {B : Nat} {f : Nat → List UInt8} {hb n k : Nat} {w w' : World} (h : RowsI B f hb n k w) (hB : B ≤ w.heap.size) (hw : Below w.heap.size w w') : RowsI B f hb n k w' := by
  obtain ⟨cb, h1, h2, h3⟩ := h
  refine ⟨cb, h1.below hw h1.lt, h2, fun i hi => ?_⟩
  obtain ⟨A, c, h4, h5⟩ := h3 i hi
  exact ⟨A, c, h4, h5.below (hw.mono hB)⟩
theorem RowsI.put {B : Nat} {f : Nat → List UInt8} {hb n k : Nat} {w : World} (h : RowsI B f hb n k w) (hB : B ≤ hb) (hk : k < n) {A : Option Addr} {c : Nat} (hs : Bsl w B A (f k).length c (f k)) : RowsI B f hb n (k + 1) (w.setCell ⟨hb, k, none⟩ (.slice A (f k).length c)) := by
  obtain ⟨cb, h1, h2, h3⟩ := h
  have hb' : Below B w (w.setCell ⟨hb, k, none⟩ (.slice A (f k).length c)) := (Below.refl B w).setCell (p := ⟨hb, k, none⟩) hB _
  refine ⟨_, h1.set_ k _, by simpa using h2, fun i hi => ?_⟩
  rcases Nat.lt_or_ge i k with h9 | h9
  · obtain ⟨A', c', h4, h5⟩ := h3 i h9
    exact ⟨A', c', by rw [Array.getElem?_setIfInBounds, if_neg (by omega)]; exact h4, h5.below hb'⟩
  · obtain rfl : i = k := by omega
    exact ⟨A, c, by rw [Array.getElem?_setIfInBounds, if_pos rfl, if_pos (by omega)], hs.below hb'⟩
theorem RowsI.bls {B : Nat} {f : Nat → List UInt8} {hb n : Nat} {w : World} (h : RowsI B f hb n n w) (hB : B ≤ w.heap.size) (hn : n ≤ 1000000) : Bls w w.heap.size (some ⟨hb, 0, none⟩) n n ((List.range n).map f) := by
  obtain ⟨cb, h1, h2, h3⟩ := h
  refine ⟨by simp, Nat.le_refl _, by unfold maxLen; omega, fun h0 => ⟨hb, 0, rfl, h1.lt, fun i hi => ?_⟩⟩
  obtain ⟨A, c, h4, h5⟩ := h3 i hi
  have e : ((List.range n).map f).getD i [] = f i := by simp [List.getD_eq_getElem?_getD, hi]
  rw [e]
  exact ⟨A, c, by rw [Nat.zero_add, h1.cell, h4], h5.more hB⟩
end Go.Proofs.YtbggkfomfeeikaaGreatDoor
/-
  dev.Check, Flush, Crash, Twin: what they answer, whatever disk they are handed.
-/
namespace Go.Proofs.YtbggkfomfeeikaaGreatDoor
open Go.RowKit Go.Shelf
set_option maxRecDepth 100000

/-- A disk that is answered: none, or one laid in a new piece. -/
def OutD (w : World) (lo : Nat) (x : DAt) (D : DkL) : Prop := (x = ⟨none, 0, none, 0⟩ ∧ D = ([], [])) ∨ Laid w lo x D
theorem OutD.dsk {w : World} {lo : Nat} {x : DAt} {D : DkL} (h : OutD w lo x D) : Dsk w w.heap.size x D := by
  rcases h with ⟨rfl, rfl⟩ | h
  · exact ⟨bls_nil _ _, wts_nil _ _⟩
  · exact h.dsk
theorem OutD.below {w w' : World} {lo : Nat} {x : DAt} {D : DkL} (h : OutD w lo x D) (hb : Below w.heap.size w w') : OutD w' lo x D := h.imp id fun h => h.below hb
theorem OutD.lower {w : World} {lo lo' : Nat} {x : DAt} {D : DkL} (h : OutD w lo x D) (hl : lo' ≤ lo) : OutD w lo' x D := h.imp id fun h => h.lower hl
/-- A disk and an error's number. -/
def ToldD (o : DkL × Int) (w : World) (e : Ending) (w' : World) : Prop := ∃ x', e = .returned (.tuple #[dval x' o.1, .int .i64 o.2]) ∧ OutD w' w.heap.size x' o.1 ∧ Below w.heap.size w w'
/-- An error, and no disk. -/
theorem toldD_no {c : Int} {w : World} {e : Ending} {w' : World} (he : e = .returned (.tuple #[.agg #[.slice none 0 0, .slice none 0 0], .int .i64 c])) (hb : Below w.heap.size w w') : ToldD (([], []), c) w e w' := ⟨⟨none, 0, none, 0⟩, he, .inl ⟨rfl, rfl⟩, hb⟩
def checkO (D : DkL) : Int := if MayD D then 0 else 8
theorem dCheck_any (x : DAt) (D : DkL) (w : World) (h : Dsk w w.heap.size x D) : Calls Tryz.prog 63 #[dval x D] w fun e w' => e = .returned (.int .i64 (checkO D)) ∧ Below w.heap.size w w' := by
  have b0 := (Below.refl w.heap.size w).alloc (Nat.le_refl _) (.cells #[.slice x.ba D.1.length x.bc, .slice x.wa D.2.length x.wc] 26)
  have h0 := h.step b0
  unfold checkO
  by_cases hm : MayD D
  · rw [if_pos hm]
    have HC := Lib.hid (dMay_yes x D _ h0 hm)
    simp only [dval] at HC ⊢
    have HB := Lib.hid b0
    clear b0 h0 h hm
    go_enter Tryz.func63, Tryz.ntmps63
    go_wp2_with fail
    refine HC.out.mono ?_
    rintro e w1 ⟨rfl, b1⟩
    have HB1 := Lib.hid (HB.out.trans (b1.mono HB.out.size))
    clear b1
    go_wp2_with fail
    go_ret
    exact ⟨rfl, HB1.out⟩
  · rw [if_neg hm]
    have HC := Lib.hid (dMay_no x D _ h0 hm)
    simp only [dval] at HC ⊢
    have HB := Lib.hid b0
    clear b0 h0 h hm
    go_enter Tryz.func63, Tryz.ntmps63
    go_wp2_with fail
    refine HC.out.mono ?_
    rintro e w1 ⟨rfl, b1⟩
    have HB1 := Lib.hid (HB.out.trans (b1.mono HB.out.size))
    clear b1
    go_wp2_with fail
    go_ret
    exact ⟨rfl, HB1.out⟩
/-- Boxed, and room for the answer. -/
theorem two_boxes (w : World) (u v : Value) : ∃ w0, (w.alloc (.cells #[u, v] 26)).alloc (.cells #[.slice none 0 0, .slice none 0 0] 26) = w0 ∧ Below w.heap.size w w0 ∧ w0.heap.size = w.heap.size + 2 ∧ Blk w0 w.heap.size 26 #[u, v] ∧ Blk w0 (w.heap.size + 1) 26 #[.slice none 0 0, .slice none 0 0] := by
  refine ⟨_, rfl, ((Below.refl _ w).alloc (Nat.le_refl _) _).alloc (by simp) _, by simp, (Blk.new w _ _).alloc _, ?_⟩
  have := Blk.new (w.alloc (.cells #[u, v] 26)) 26 #[.slice none 0 0, .slice none 0 0]
  rw [World.size_alloc] at this
  exact this
end Go.Proofs.YtbggkfomfeeikaaGreatDoor
/-
  The document's own Twin for layer 9.
-/
namespace Go.Proofs.YtbggkfomfeeikaaGreatDoor
open Go.RowKit Go.Shelf
set_option maxRecDepth 100000

/-- What Twin answers. -/
def TwinPost (D : DkL) (w : World) (e : Ending) (w' : World) : Prop := ∃ x', e = .returned (dval x' D) ∧ Tw w' w.heap.size x' D ∧ Below w.heap.size w w'
end Go.Proofs.YtbggkfomfeeikaaGreatDoor
/-
  dev.New answers 256 blocks of noughts, in one new piece; slices.Repeat of one block.
-/
namespace Go.Proofs.YtbggkfomfeeikaaGreatDoor
open Go.RowKit Go.Shelf
set_option maxRecDepth 100000

theorem dMul64 (w : World) : Calls Tryz.prog 133 #[.int .u64 1, .int .u64 256] w fun e w' => e = .returned (.tuple #[.int .u64 0, .int .u64 256]) ∧ w = w' := by
  go_enter Tryz.func133, Tryz.ntmps133
  go_wp2_with fail
  go_ret2
  exact ⟨rfl, rfl⟩
theorem dMul (w : World) : Calls Tryz.prog 102 #[.int .u64 1, .int .u64 256] w fun e w' => e = .returned (.tuple #[.int .u64 0, .int .u64 256]) ∧ w = w' := by
  go_enter Tryz.func102, Tryz.ntmps102
  go_wp2_with (go_at_call 133; refine (dMul64 _).mono ?_; rintro e w' ⟨rfl, rfl⟩)
  go_ret2
  exact ⟨rfl, rfl⟩
/-- 256 cells, of which n are v. -/
def repR (v : Value) (n : Nat) : List Value := List.replicate n v ++ List.replicate (256 - n) (.slice none 0 0)
theorem repR_length (v : Value) (n : Nat) (h : n ≤ 256) : (repR v n).length = 256 := by simp [repR]; omega
theorem repR_splice (v : Value) (n k : Nat) : splice (repR v n) n (List.replicate k v) = repR v (n + k) := by
  unfold splice repR
  have e1 : (List.replicate n v ++ List.replicate (256 - n) (Value.slice none 0 0)).take n = List.replicate n v := by simp
  have e2 : (List.replicate n v ++ List.replicate (256 - n) (Value.slice none 0 0)).drop (n + (List.replicate k v).length) = List.replicate (256 - (n + k)) (.slice none 0 0) := by
    rw [List.drop_append, List.drop_of_length_le (by simp; try omega)]
    simp
    omega
  rw [e1, e2, ← List.append_assoc, List.replicate_append_replicate]
theorem rep_get {v u : Value} {k j : Nat} (h : (List.replicate k v)[j]? = some u) : j < k ∧ u = v := by
  rw [List.getElem?_replicate] at h
  split at h
  · rename_i h1
    cases h
    exact ⟨h1, rfl⟩
  · cases h
theorem infoSl1 : (Tryz.prog.info? 27).map (·.size) = some 1 := by kernel_rfl
theorem step_copy_rep {ops : Array Oper} {o : Oper} {a : Act} {w w0 : World} {K : Act → World → Prop} {Q : Exit → Act → World → Prop} {E : Prop} (v : Value) (hv : v.oneCell' = true) (hgd : o.guard = none) (d s : Operand)
    (ho : o.op = .call { callee := .builtin .copy, args := #[d, s], argTypes := #[23, 23] }) (g5 n : Nat) (hn : n ≤ 128)
    (hd : a.eval d = .slice (some ⟨g5, n, none⟩) (256 - n) (256 - n)) (hs : a.eval s = .slice (some ⟨g5, 0, none⟩) n 256) (hx : Blk w g5 27 (repR v n).toArray) (hb : Below g5 w0 w)
    (h : ∀ w', Blk w' g5 27 (repR v (n + n)).toArray → Below g5 w0 w' → K (a.put o.dst (.int .i64 n)) w') :
    if Region.wanted o (yielded ops a.tmps) = true then Oper.wp Tryz.prog o a w K Q else E := by
  have hl : (List.replicate n v).length = n := by simp
  refine step_copy_splice hgd d s 23 23 ho 27 Tryz.underlying23 infoSl1 (some ⟨g5, n, none⟩) (some ⟨g5, 0, none⟩) (256 - n) (256 - n) n 256 hd hs g5 n (repR v n) 27 hx (List.replicate n v) (by rw [hl]; simp [Nat.min_def]; omega)
         (fun _ => ⟨rfl, _, rfl, fun j u hu => ?_⟩) (by rw [hl, repR_length v n (by omega)]; omega) (fun u hu => by rw [List.eq_of_mem_replicate hu]; exact hv) g5 w0 hb (Nat.le_refl _) ?_
  · obtain ⟨hj, rfl⟩ := rep_get hu
    have := hx.cell j
    rw [List.getElem?_toArray, repR, List.getElem?_append_left (by simpa using hj), List.getElem?_replicate, if_pos hj] at this
    rw [← this]
    congr 1
    unfold Addr.add
    simp
    exact fun h => h.symm
  · intro w2 hx2 hb2
    rw [hl]
    refine h w2 ?_ hb2
    have := hx2.out
    rwa [repR_splice v n n] at this
theorem rows_l (W : World) (g n : Nat) (hn : n < 256) : (Instr.slice 23 (.slice (some ⟨g, 0, none⟩) 256 256) (some (.int .i64 (n : Int))) none none).run Tryz.prog W = .ok (.slice (some ⟨g, n, none⟩) (256 - n) (256 - n)) W := by
  rw [run_slice_l W 23 _ _ _ (by kernel_rfl) .i64 _ (by omega) (by omega)]
  have hz : (Go.sizeOf (Tryz.prog.elem 23)).run Tryz.prog W = .ok 1 W := by kernel_rfl
  rw [hz]
  have e : ¬ 256 = n := by omega
  simp only [Result.andThen, sliced, Int.toNat_natCast, if_neg e]
  simp [Addr.add]
  exact fun h => h.symm
theorem rows_h (W : World) (g n : Nat) (hn : n < 256) : (Instr.slice 23 (.slice (some ⟨g, 0, none⟩) 256 256) none (some (.int .i64 (n : Int))) none).run Tryz.prog W = .ok (.slice (some ⟨g, 0, none⟩) n 256) W := by
  rw [run_slice_h W 23 _ _ _ (by kernel_rfl) .i64 _ (by omega) (by omega)]
  have hz : (Go.sizeOf (Tryz.prog.elem 23)).run Tryz.prog W = .ok 1 W := by kernel_rfl
  rw [hz]
  simp [Result.andThen, sliced, Addr.add]
/-- The row that Repeat answers. -/
def RepPost (v : Value) (w : World) (e : Ending) (w' : World) : Prop := ∃ g, e = .returned (.slice (some ⟨g, 0, none⟩) 256 256) ∧ w.heap.size ≤ g ∧ Blk w' g 27 (repR v 256).toArray ∧ Below w.heap.size w w'
theorem wpList_copy_one {w w0 : World} {ops : Array Oper} {rest : List Oper} {o : Oper} {a : Act} {Q : Exit → Act → World → Prop} (v : Value) (hv : v.oneCell' = true) (hgd : o.guard = none) (d s : Operand) (ho : o.op = .call { callee := .builtin .copy, args := #[d, s], argTypes := #[23, 23] }) (g g5 : Nat)
    (hd : a.eval d = .slice (some ⟨g5, 0, none⟩) 256 256) (hs : a.eval s = .slice (some ⟨g, 0, none⟩) 1 1) (hx : Blk w g5 27 (repR v 0).toArray) (hN : w.cell? ⟨g, 0, none⟩ = some v) (hb : Below g5 w0 w)
    (h : ∀ w', Blk w' g5 27 (repR v 1).toArray → Below g5 w0 w' → wpList Tryz.prog ops Q rest (a.put o.dst (.int .i64 1)) w') : wpList Tryz.prog ops Q (o :: rest) a w := by
  refine wpList_copy_splice hgd d s 23 23 ho 27 Tryz.underlying23 infoSl1 (some ⟨g5, 0, none⟩) (some ⟨g, 0, none⟩) 256 256 1 1 hd hs g5 0 (repR v 0) 27 hx (List.replicate 1 v) rfl
         (fun _ => ⟨rfl, _, rfl, fun j u hu => ?_⟩) (by rw [repR_length v 0 (by omega)]; simp) (fun u hu => by rw [List.eq_of_mem_replicate hu]; exact hv) g5 w0 hb (Nat.le_refl _) ?_
  · obtain ⟨hj, rfl⟩ := rep_get hu
    obtain rfl : j = 0 := by omega
    exact hN
  · intro w2 hx2 hb2
    refine h w2 ?_ hb2
    have := hx2.out
    rwa [repR_splice v 0 1] at this
set_option maxHeartbeats 4000000 in
theorem dRepeat_any (v : Value) (hv : v.oneCell' = true) (g : Nat) (w : World) (hN : w.cell? ⟨g, 0, none⟩ = some v) :
    Calls Tryz.prog 71 #[.slice (some ⟨g, 0, none⟩) 1 1, .int .i64 256] w (RepPost v w) := by
  have hmk : ∀ W : World, (Instr.makeSlice 23 (.int .i64 256) (.int .i64 256)).run Tryz.prog W = .ok (.slice (some ⟨W.heap.size, 0, none⟩) 256 256) (W.alloc (.cells (repR v 0).toArray 27)) := fun W => by
    have e : (repR v 0).toArray = Array.replicate 256 (.slice none 0 0) := by
      unfold repR
      rw [List.replicate_zero, List.nil_append, Nat.sub_zero, List.toArray_replicate]
    rw [e]
    exact make_rows 256 (by omega) W
  have hg := World.block_lt_of_cell? w _ hN
  have b1 : Below w.heap.size w (w.alloc (.cells (repR v 0).toArray 27)) := (Below.refl _ w).alloc (Nat.le_refl _) _
  have x1 := Blk.new w 27 (repR v 0).toArray
  have n1 : (w.alloc (.cells (repR v 0).toArray 27)).cell? ⟨g, 0, none⟩ = some v := (b1.cell (p := ⟨g, 0, none⟩) hg).trans hN
  obtain ⟨g5, hg5⟩ : ∃ g5, w.heap.size = g5 := ⟨_, rfl⟩
  have HX1 := Lib.hid x1; clear x1
  have HN1 := Lib.hid n1; clear n1 hN
  have HB1 := Lib.hid b1; clear b1 hg
  have HG := Lib.hid hg5; clear hg5
  go_enter Tryz.func71, Tryz.ntmps71
  go_wp2_with (first
    | (go_at_call 102; refine (dMul _).mono ?_; rintro e w' ⟨rfl, rfl⟩)
    | (with_reducible refine dAtCopy ?_
       refine wpList_copy_one v hv rfl (.tmp 31) (.tmp 32) rfl g w.heap.size rfl rfl HX1.out HN1.out HB1.out ?_
       intro w2 hx2 hb2
       have HX2 := Lib.hid hx2
       have HB2 := Lib.hid hb2
       clear hx2 hb2))
  rw [HG.out] at HX2 HB2 ⊢
  go_loopw [8] (fun i wr => ∃ j n : Nat, j ≤ 8 ∧ n = 2 ^ j ∧ i = .int .i64 n ∧ Blk wr g5 27 (repR v n).toArray ∧ Below g5 w wr) (fun i _ => 256 - (intOf i).toNat)
  case atStart => exact ⟨0, 1, by omega, rfl, rfl, HX2.out, HB2.out⟩
  case round =>
    obtain ⟨j, n, hj, hn, rfl, hx, hb⟩ := hrel
    have HX := Lib.hid hx; clear hx
    have HB := Lib.hid hb; clear hb
    have n0 : (0 : Int) ≤ n := by omega
    by_cases h8 : j < 8
    · have hn128 : n ≤ 128 := by
        have : 2 ^ j ≤ 2 ^ 7 := Nat.pow_le_pow_right (by omega) (by omega)
        omega
      have hpos : 0 < n := by rw [hn]; exact Nat.two_pow_pos j
      have hn2 : n + n = 2 ^ (j + 1) := by rw [Nat.pow_succ, hn]; omega
      have i1 : (n : Int) < 256 := by omega
      have s1 := fun W => rows_l W g5 n (by omega)
      have s2 := fun W => rows_h W g5 n (by omega)
      have HX' := Lib.hid HX.out.drew
      have HB' := Lib.hid HB.out.drew
      have HN2 := Lib.hid hn2
      have hsum : IntKind.i64.wrap ((n : Int) + n) = (n : Int) + n := IntWalk.i64_in _ (by omega)
      have HP := Lib.hid hpos
      clear hn hn2 hpos
      go_wp2_with fail
      go_region_law (refine step_copy_rep v hv rfl (.tmp 41) (.tmp 44) rfl g5 n hn128 (by simp [Act.eval, Act.put]) (by simp [Act.eval, Act.put]) HX'.out HB'.out ?_; intro w4 hx4 hb4; have HX4 := Lib.hid hx4; have HB4 := Lib.hid hb4; clear hx4 hb4)
      refine ⟨⟨.int .i64 ((n : Int) + n), _, _, _, _, _, _, _, _, _, _, _, _, _, ⟨j + 1, n + n, by omega, HN2.out, by go_num, HX4.out, HB4.out⟩, rfl⟩, ?_⟩
      have := HP.out
      show 256 - (intOf (.int .i64 ((n : Int) + n))).toNat < 256 - (intOf (.int .i64 (n : Int))).toNat
      simp [intOf]
      omega
    · obtain rfl : j = 8 := by omega
      subst hn
      go_wp2_with fail
      go_ret
      exact ⟨g5, rfl, by rw [HG.out]; exact Nat.le_refl _, HX.out, by rw [HG.out]; exact HB.out⟩
/-- A disk of noughts. -/
def newD : DkL := (List.replicate 256 (List.replicate 256 0), [])
theorem newD_get {i : Nat} (h : i < 256) : newD.1.getD i [] = List.replicate 256 0 := by
  show (List.replicate 256 (List.replicate 256 (0 : UInt8))).getD i [] = _
  rw [List.getD_eq_getElem?_getD, List.getElem?_replicate, if_pos h]
  rfl
theorem newD_len : newD.1.length = 256 := List.length_replicate ..
theorem newD_may : MayD newD := ⟨⟨newD_len, fun i hi => by rw [newD_get hi]; exact List.length_replicate ..⟩, Nat.zero_le _, fun i hi => absurd hi (Nat.not_lt_zero _)⟩
set_option maxHeartbeats 1000000 in
theorem dNew_any (w : World) : Calls Tryz.prog 44 #[] w (LaidPost newD w) := by
  have hmk : ∀ W : World, (Instr.makeSlice 27 (.int .i64 256) (.int .i64 256)).run Tryz.prog W = .ok (.slice (some ⟨W.heap.size, 0, none⟩) 256 256) (W.alloc (.cells (ar (List.replicate 256 0)) 5)) := make_bytes 256 (by omega)
  obtain ⟨B, hB⟩ : ∃ B, w.heap.size = B := ⟨_, rfl⟩
  obtain ⟨Z, hZ⟩ : ∃ Z : List UInt8, List.replicate 256 0 = Z := ⟨_, rfl⟩
  rw [hZ] at hmk
  obtain ⟨w0, hw0⟩ : ∃ w0, ((w.alloc (.cells #[.slice none 0 0, .slice none 0 0] 26)).alloc (.cells (ar Z) 5)).alloc (.cells #[.slice (some ⟨w.heap.size + 1, 0, none⟩) 256 256] 27) = w0 := ⟨_, rfl⟩
  have b0 : Below w.heap.size w w0 := by rw [← hw0]; exact below_alloc3' w _ _ _
  have z0 : w0.heap.size = B + 3 := by rw [← hw0, ← hB]; simp
  have x0 : Blk w0 B 26 #[.slice none 0 0, .slice none 0 0] := by rw [← hw0, ← hB]; exact blk3_0 w _ _ _ _
  have x1 : Blk w0 (B + 1) 5 (ar Z) := by rw [← hw0, ← hB]; exact blk3_1 w _ _ _ _
  have x2 : Blk w0 (B + 2) 27 #[.slice (some ⟨B + 1, 0, none⟩) 256 256] := by rw [← hw0, ← hB]; exact blk3_2 w _ _ _ _
  have hr := dRepeat_any (.slice (some ⟨B + 1, 0, none⟩) 256 256) rfl (B + 2) w0 (x2.cell 0)
  have HR := Lib.hid hr
  have HX0 := Lib.hid x0
  have HX1 := Lib.hid x1
  have HB := Lib.hid b0
  have HZ := Lib.hid z0
  have HBB := Lib.hid hB
  have HZZ := Lib.hid hZ
  rw [hB] at hw0
  clear hr x0 x1 x2 b0 z0 hZ
  go_enter Tryz.func44, Tryz.ntmps44
  go_wp2_with fail
  clear hw0
  refine HR.out.mono ?_
  rintro e w1 ⟨g, rfl, hge, hx, b1⟩
  have hz := HZ.out
  have y1 := HX1.out.below b1 HX1.out.lt
  have hzs := HZZ.out
  have hbs : Bsl w1 w1.heap.size (some ⟨B + 1, 0, none⟩) 256 256 Z := by
    refine ⟨by rw [← hzs]; exact List.length_replicate .., Nat.le_refl _, by unfold maxLen; omega, fun e => (by cases e), fun _ => ⟨B + 1, 0, rfl, y1.lt, fun i hi => ?_⟩⟩
    rw [Nat.zero_add, y1.cell, ar_get Z i hi]
  have hbl : Bls w1 w1.heap.size (some ⟨g, 0, none⟩) 256 256 newD.1 := by
    refine ⟨newD_len, Nat.le_refl _, by unfold maxLen; omega, fun _ => ⟨g, 0, rfl, hx.lt, fun i hi => ?_⟩⟩
    have e : newD.1.getD i [] = Z := by rw [newD_get hi]; exact hzs
    have el : Z.length = 256 := by rw [← hzs]; exact List.length_replicate ..
    rw [e, el]
    refine ⟨some ⟨B + 1, 0, none⟩, 256, ?_, hbs⟩
    rw [Nat.zero_add, hx.cell, List.getElem?_toArray, repR, Nat.sub_self, List.replicate_zero, List.append_nil, List.getElem?_replicate, if_pos hi]
  have hla := dLaid_any ⟨some ⟨g, 0, none⟩, 256, none, 0⟩ newD w1 ⟨by rw [newD_len]; exact hbl, wts_nil _ _⟩ (may_fits newD_may)
  simp only [newD_len] at hla
  have e2 : newD.2.length = 0 := rfl
  rw [e2] at hla
  have HLA := Lib.hid hla
  have HXr := Lib.hid (HX0.out.below b1 HX0.out.lt)
  have HB1 := Lib.hid (HB.out.trans (b1.mono HB.out.size))
  have HZ1 := Lib.hid (show B + 3 ≤ w1.heap.size by have := b1.size; omega)
  clear hge hx b1 y1 hzs hbs hbl hla e2 hz HR
  go_wp2_with fail
  refine HLA.out.mono ?_
  rintro e w4 ⟨x4, rfl, h4, b4⟩
  have hz := HZ1.out
  have y4 := HXr.out.below b4 HXr.out.lt
  have d0 := y4.cell 0
  have d1 := y4.cell 1
  have hf := fun i => y4.frozen i
  have hbb := HBB.out
  obtain ⟨ba4, bc4, wa4, wc4⟩ := x4
  have HK := Lib.hid (fun (u v : Value) => laid_far (g := B) (lo' := B) h4 (by omega) (by omega) u v)
  have HBF := Lib.hid (fun (u v : Value) => ((HB1.out.trans (b4.mono (by omega))).setCell (p := ⟨B, 0, none⟩) (Nat.le_of_eq hbb) u).setCell (p := ⟨B, 1, none⟩) (Nat.le_of_eq hbb) v)
  have HXF := Lib.hid (fun (u v : Value) => (y4.set_ 0 u).set_ 1 v)
  clear h4 b4 y4 hz HLA HXr HB1 hbb
  simp only [dval]
  go_wp2_with fail
  have hKD := HK.out (.slice ba4 newD.1.length bc4) (.slice wa4 newD.2.length wc4)
  have hBF := HBF.out (.slice ba4 newD.1.length bc4) (.slice wa4 newD.2.length wc4)
  have hXF := HXF.out (.slice ba4 newD.1.length bc4) (.slice wa4 newD.2.length wc4)
  obtain ⟨wf, hwf⟩ : ∃ wf, ((w4.setCell ⟨B, 0, none⟩ (.slice ba4 newD.1.length bc4)).setCell ⟨B, 1, none⟩ (.slice wa4 newD.2.length wc4)) = wf := ⟨_, rfl⟩
  rw [hwf] at hKD hBF hXF ⊢
  clear hwf d0 d1 hf
  have e0 := hXF.cell 0
  have e1 := hXF.cell 1
  refine bodyPost_ret (v := dval ⟨ba4, bc4, wa4, wc4⟩ newD) (by simp [results, Tryz.f44, go_sem, e0, e1, dval]) rfl ?_
  exact ⟨⟨ba4, bc4, wa4, wc4⟩, rfl, by rw [HBB.out]; exact hKD, hBF⟩
end Go.Proofs.YtbggkfomfeeikaaGreatDoor
/-
  The document's own New for layer 9: a new disk is 256 blocks of noughts.
-/
namespace Go.Proofs.YtbggkfomfeeikaaGreatDoor
open Go.RowKit Go.Shelf
set_option maxRecDepth 100000

/-- A disk is answered. -/
def DskPost (D : DkL) (w : World) (e : Ending) (w' : World) : Prop := ∃ x', e = .returned (dval x' D) ∧ DskT w' x' D ∧ Below w.heap.size w w'
theorem TwinPost.dsk {D : DkL} {w w' : World} {e : Ending} (h : TwinPost D w e w') : DskPost D w e w' := by
  obtain ⟨x', h1, h2, h3⟩ := h
  exact ⟨x', h1, h2.dskT, h3⟩
/-- Rows whose first k are blocks of noughts. -/
def NewI (hb : Nat) (Z : List UInt8) (k : Nat) (w : World) : Prop :=
  ∃ cb, Blk w hb 27 cb ∧ cb.size = 256 ∧ ∀ i, i < k → ∃ g, cb[i]? = some (.slice (some ⟨g, 0, none⟩) 256 256) ∧ Blk w g 5 (ar Z)
theorem NewI.far {hb k g : Nat} {Z : List UInt8} {w : World} {cs : Array Value} (h : NewI hb Z k w) (hg : Blk w g 26 cs) (u v : Value) : NewI hb Z k ((w.setCell ⟨g, 0, none⟩ u).setCell ⟨g, 1, none⟩ v) := by
  obtain ⟨cb, h1, h2, h3⟩ := h
  have hn1 : hb ≠ g := h1.ne hg (by decide)
  refine ⟨cb, (h1.far (p := ⟨g, 0, none⟩) hn1 u).far (p := ⟨g, 1, none⟩) hn1 v, h2, fun i hi => ?_⟩
  obtain ⟨g', h4, h5⟩ := h3 i hi
  have hn2 : g' ≠ g := h5.ne hg (by decide)
  exact ⟨g', h4, (h5.far (p := ⟨g, 0, none⟩) hn2 u).far (p := ⟨g, 1, none⟩) hn2 v⟩
theorem NewI.dsk {hb : Nat} {Z : List UInt8} {w : World} (h : NewI hb Z 256 w) (hZ : List.replicate 256 0 = Z) : Dsk w w.heap.size ⟨some ⟨hb, 0, none⟩, 256, none, 0⟩ newD := by
  obtain ⟨cb, y1, h2, h3⟩ := h
  refine ⟨⟨newD_len, by rw [newD_len]; exact Nat.le_refl _, (show 256 ≤ maxLen by unfold maxLen; omega), fun _ => ⟨hb, 0, rfl, y1.lt, fun i hi => ?_⟩⟩, wts_nil _ _⟩
  rw [newD_len] at hi
  obtain ⟨g, h4, y2⟩ := h3 i hi
  have e : newD.1.getD i [] = Z := by rw [newD_get hi]; exact hZ
  have el : Z.length = 256 := by rw [← hZ]; exact List.length_replicate ..
  rw [e, el]
  refine ⟨some ⟨g, 0, none⟩, 256, ?_, el, Nat.le_refl _, by unfold maxLen; omega, fun e => (by cases e), fun _ => ⟨g, 0, rfl, y2.lt, fun i hi => ?_⟩⟩
  · rw [Nat.zero_add, y1.cell, h4]
  · rw [Nat.zero_add, y2.cell, ar_get Z i hi]
end Go.Proofs.YtbggkfomfeeikaaGreatDoor
/-
  dev.Read: what it answers, whatever disk and place it is handed.
-/
namespace Go.Proofs.YtbggkfomfeeikaaGreatDoor
open Go.RowKit Go.Shelf
set_option maxRecDepth 100000

/-- bytes.Clone: a list of the call's own. -/
theorem dClone_any (B : Nat) (a : Option Addr) (len cap : Nat) (s : List UInt8) (w : World) (hB : B ≤ w.heap.size) (hA : Bsl w B a len cap s) (hlen : len ≤ 1000000000000) :
    Calls Tryz.prog 111 #[.slice a len cap] w (OwnV len s w) := by
  have q22 : ∀ (w : World) (a : Option Addr) (n c n' c' : Nat), (binOp .eql 27 (.slice a n c) (.slice none n' c')).run Tryz.prog w = .ok (.bool a.isNone) w := fun w a n c n' c' => Lib.run_eql_slice_nil w _ _ a n c n' c' Tryz.underlying27
  obtain ⟨h1, h2, h3, h4, h5⟩ := hA
  cases a with
  | none =>
    have hc := h4 rfl
    have hl : len = 0 := by omega
    subst hl; subst hc
    obtain rfl : s = [] := List.eq_nil_of_length_eq_zero h1
    go_enter Tryz.func111, Tryz.ntmps111
    go_wp2_with fail
    go_ret
    exact ⟨_, rfl, own_nil _ _, Below.refl _ _⟩
  | some ad =>
    have hA : Bsl w B (some ad) len cap s := ⟨h1, h2, h3, h4, h5⟩
    have b1 : Below w.heap.size w (w.alloc (.cells #[] 5)) := (Below.refl _ w).alloc (Nat.le_refl _) _
    have HA1 := Lib.hid (hA.below (b1.mono hB)); clear hA
    have HB1 := Lib.hid b1; clear b1
    have HO1 := Lib.hid (own_empty w)
    clear h1 h2 h3 h4 h5
    go_enter Tryz.func111, Tryz.ntmps111
    go_wp2_with (at_builtin
                 refine wpList_append_big rfl (.tmp 5) (.tmp 6) rfl w.heap.size _ 0 _ rfl HO1.out _ (some ad) len cap s rfl HA1.out (by omega) HB1.out.size ?_
                 intro v' W3 hown' hg'
                 have HB3 := Lib.hid (app_below HB1.out HO1.out hg' HB1.out.size); clear hg'
                 have HO3 := Lib.hid hown'; clear hown')
    go_ret
    refine ⟨_, rfl, ?_, HB3.out⟩
    have := HO3.out
    rwa [Nat.zero_add, List.nil_append] at this
/-- A list of the call's own, and an error's number. -/
def ToldL (o : List UInt8 × Int) (w : World) (e : Ending) (w' : World) : Prop := ∃ v, e = .returned (.tuple #[v, .int .i64 o.2]) ∧ w'.ownsRow w.heap.size 5 1 v o.1.length (vals o.1) ∧ Below w.heap.size w w'
def readO (D : DkL) (p : Int) : List UInt8 × Int := if MayD D then (if 0 ≤ p ∧ p < 256 then (leftD D (fun _ => true) p.toNat, 0) else ([], 2)) else ([], 8)
theorem leftD_goes (D : DkL) (p : Nat) : leftD D (fun i => decide ((wr_ D.2 i).1 = (p : Int))) p = leftD D (fun _ => true) p := by
  have : lastTo D.2 (fun i => decide ((wr_ D.2 i).1 = (p : Int))) (p : Int) D.2.length = lastTo D.2 (fun _ => true) (p : Int) D.2.length := lastTo_congr fun i _ => by simp
  unfold leftD
  rw [this]
theorem read_boxes (w : World) (u v k : Value) : ∃ w0, (w.alloc (.cells #[u, v] 26)).alloc (.cells #[k] 3) = w0 ∧ Below w.heap.size w w0 ∧ w0.heap.size = w.heap.size + 2 ∧ Blk w0 w.heap.size 26 #[u, v] ∧ Blk w0 (w.heap.size + 1) 3 #[k] := by
  refine ⟨_, rfl, ((Below.refl _ w).alloc (Nat.le_refl _) _).alloc (by simp) _, by simp, (Blk.new w _ _).alloc _, ?_⟩
  have := Blk.new (w.alloc (.cells #[u, v] 26)) 3 #[k]
  rw [World.size_alloc] at this
  exact this
set_option maxHeartbeats 2000000 in
theorem dRead_any (x : DAt) (D : DkL) (p : Int) (w : World) (h : Dsk w w.heap.size x D) : Calls Tryz.prog 80 #[dval x D, .int .i64 p] w (ToldL (readO D p) w) := by
  obtain ⟨w0, hw0, b0, z0, x0, xp⟩ := read_boxes w (.slice x.ba D.1.length x.bc) (.slice x.wa D.2.length x.wc) (.int .i64 p)
  have h0 := h.step b0
  have c0 := x0.cell 0
  have c1 := x0.cell 1
  have cp := xp.cell 0
  have HX0 := Lib.hid x0
  have HXp := Lib.hid xp
  have HB := Lib.hid b0
  have HZ := Lib.hid z0
  have HD := Lib.hid h0
  unfold readO
  by_cases hm : MayD D
  · rw [if_pos hm]
    have HC := Lib.hid (dMay_yes x D _ h0 hm)
    simp only [dval] at HC ⊢
    have hbk := dIsBlock_any p
    have HM := Lib.hid hm
    by_cases hp : 0 ≤ p ∧ p < 256
    · rw [if_pos hp]
      simp only [decide_eq_true hp] at hbk
      obtain ⟨q, rfl⟩ := Int.eq_ofNat_of_zero_le hp.1
      have hq : q < 256 := by omega
      have HBK := Lib.hid hbk
      have hll := leftD_length hm (fun _ => true) hq
      have e2 : ((q : Int).toNat) = q := by simp
      obtain ⟨s, hs⟩ : ∃ s, leftD D (fun _ => true) q = s := ⟨_, rfl⟩
      rw [hs] at hll
      rw [e2, hs]
      have HLL := Lib.hid hll
      have HS := Lib.hid hs
      clear e2 hs b0 h0 h hm x0 xp z0 hbk hp hll
      go_enter Tryz.func80, Tryz.ntmps80
      go_wp2_with fail
      clear hw0 c0 c1 cp
      refine HC.out.mono ?_
      rintro e w1 ⟨rfl, b1⟩
      have cp := (HXp.out.below b1 HXp.out.lt).cell 0
      have HB1 := Lib.hid b1
      clear b1
      go_wp2_with fail
      refine (HBK.out _).mono ?_
      rintro e w1' ⟨rfl, rfl⟩
      have b1 := HB1.out
      have x01 := HX0.out.below b1 HX0.out.lt
      have xp1 := HXp.out.below b1 HXp.out.lt
      have hD1 := HD.out.step b1
      have c0 := x01.cell 0
      have c1 := x01.cell 1
      have hl := dLast2_any x.wa D.2.length x.wc D.2 (fun i => decide ((wr_ D.2 i).1 = (q : Int))) ⟨w.heap.size, 0, none⟩ ⟨w.heap.size + 1, 0, none⟩ w1 hD1.2 (fun W hW i hi => dGoes_any w1.heap.size x D w.heap.size (w.heap.size + 1) (q : Int) i W ⟨hD1.1.below hW, hD1.2.below hW⟩ (x01.below hW x01.lt) ((xp1.below hW xp1.lt).cell 0) hi)
      have HL := Lib.hid hl
      have HX1 := Lib.hid x01
      have HXp1 := Lib.hid xp1
      have HD1 := Lib.hid hD1
      have HBw := Lib.hid (HB.out.trans (b1.mono HB.out.size))
      clear b1 x01 xp1 hD1 hl HB1 HC HBK HX0 HXp HB HD
      go_wp2_with fail
      clear c0 c1 cp
      refine HL.out.mono ?_
      rintro e w2 ⟨g, rfl, hge, hM, b2⟩
      have c0 := (HX1.out.below b2 HX1.out.lt).cell 0
      have c1 := (HX1.out.below b2 HX1.out.lt).cell 1
      have cp := (HXp1.out.below b2 HXp1.out.lt).cell 0
      have hle := dLeft_any w2.heap.size x D g D.2.length (fun i => decide ((wr_ D.2 i).1 = (q : Int))) q w2 (Nat.le_refl _) (HD1.out.step b2) hM (by rw [HM.out.1.1]; exact hq)
      rw [leftD_goes] at hle
      simp only [dval] at hle
      rw [HS.out] at hle
      have HLE := Lib.hid hle
      have HB2 := Lib.hid (HBw.out.trans (b2.mono HBw.out.size))
      clear hle b2 hM hge HL
      go_wp2_with fail
      clear c0 c1 cp
      refine HLE.out.mono ?_
      rintro e w3 ⟨A, c, rfl, h3, b3⟩
      have HCL := Lib.hid (dClone_any w2.heap.size A s.length c s w3 b3.size h3 (by rw [HLL.out]; omega))
      have HB3 := Lib.hid (HB2.out.trans (b3.mono HB2.out.size))
      clear h3 b3 HLE
      go_wp2_with fail
      refine HCL.out.mono ?_
      rintro e w4 ⟨v4, rfl, h4, b4⟩
      have HO := Lib.hid (own_mono h4 HB3.out.size)
      have HB4 := Lib.hid (HB3.out.trans (b4.mono HB3.out.size))
      clear h4 b4
      go_wp2_with fail
      go_ret2
      exact ⟨v4, rfl, HO.out, HB4.out⟩
    · rw [if_neg hp]
      simp only [decide_eq_false hp] at hbk
      have HBK := Lib.hid hbk
      clear b0 h0 h hm x0 xp z0 hbk hp
      go_enter Tryz.func80, Tryz.ntmps80
      go_wp2_with fail
      clear hw0 c0 c1 cp
      refine HC.out.mono ?_
      rintro e w1 ⟨rfl, b1⟩
      have cp := (HXp.out.below b1 HXp.out.lt).cell 0
      have HB1 := Lib.hid (HB.out.trans (b1.mono HB.out.size))
      clear b1
      go_wp2_with fail
      refine (HBK.out _).mono ?_
      rintro e w1' ⟨rfl, rfl⟩
      go_wp2_with fail
      go_ret2
      exact ⟨_, rfl, own_nil _ _, HB1.out⟩
  · rw [if_neg hm]
    have HC := Lib.hid (dMay_no x D _ h0 hm)
    simp only [dval] at HC ⊢
    clear b0 h0 h hm x0 xp z0
    go_enter Tryz.func80, Tryz.ntmps80
    go_wp2_with fail
    clear hw0 c0 c1 cp
    refine HC.out.mono ?_
    rintro e w1 ⟨rfl, b1⟩
    have HB1 := Lib.hid (HB.out.trans (b1.mono HB.out.size))
    clear b1
    go_wp2_with fail
    go_ret2
    exact ⟨_, rfl, own_nil _ _, HB1.out⟩
end Go.Proofs.YtbggkfomfeeikaaGreatDoor
/-
  slices.Grow of nil, and slices.Concat of slices of writes: a row of the call's own that holds them all, one behind the other.
-/
namespace Go.Proofs.YtbggkfomfeeikaaGreatDoor
open Go.RowKit Go.Shelf
set_option maxRecDepth 100000

set_option maxHeartbeats 1000000 in
theorem dGrow_any (n : Nat) (h0 : 0 < n) (hn : n ≤ 1000000) (w : World) : Calls Tryz.prog 129 #[.slice none 0 0, .int .i64 n] w fun e w' => ∃ v, e = .returned v ∧ WRow w' w.heap.size v [] ∧ Below w.heap.size w w' := by
  obtain ⟨i0, hi, hz0, hz1, hz2⟩ := info_parts infoWri
  have hr : ∀ ty, (Builtin.append_ #[24, 3] ty #[.slice none 0 0, .int .i64 n]).run Tryz.prog w =
      .ok (.slice (some ⟨w.heap.size, 0, none⟩) n (grownCap w n 0 91)) (w.drew.alloc (.cells (Builtin.zeroCells (Value.agg #[.int .i64 0, .slice none 0 0]).cells n ++ Builtin.zeroCells (Value.agg #[.int .i64 0, .slice none 0 0]).cells (grownCap w n 0 91 - n)) 91)) := fun ty =>
    Lib.run_append_nil_zeros w 24 3 ty 91 i0 (.agg #[.int .i64 0, .slice none 0 0]) .i64 .i64 Tryz.underlying24 Tryz.underlying3 hi hz0 n h0 (by omega) (by omega) (by rw [hz2]; omega)
  have hG1 : n ≤ grownCap w n 0 91 := grownCap_ge w _ _ _
  have hG2 : grownCap w n 0 91 ≤ maxLen := grownCap_le_maxLen w n 0 91 (by unfold maxLen; omega)
  obtain ⟨G, hG⟩ : ∃ G, grownCap w n 0 91 = G := ⟨_, rfl⟩
  rw [hG] at hr hG1 hG2
  obtain ⟨cs, hcs⟩ : ∃ cs, Builtin.zeroCells (Value.agg #[.int .i64 0, .slice none 0 0]).cells n ++ Builtin.zeroCells (Value.agg #[.int .i64 0, .slice none 0 0]).cells (G - n) = cs := ⟨_, rfl⟩
  have hsz : cs.size = G * 2 := by
    rw [← hcs]
    simp [Builtin.zeroCells, Value.cells]
    omega
  rw [hcs] at hr
  have z5 : ∀ w, (Go.sizeOf 91).run Tryz.prog w = .ok 2 w := fun w => by kernel_rfl
  have n1 : ¬ ((n : Int) < 0) := by omega
  have n2 : (0 : Int) < n := by omega
  have n3 : (n : Int) ≤ 1000000 := by omega
  have g0 : (G : Int) ≤ 9223372036854775807 := by unfold maxLen at hG2; omega
  have hown : (w.drew.alloc (.cells cs 91)).ownsRow w.heap.size 91 2 (.slice (some ⟨w.heap.size, 0, none⟩) 0 G) 0 [] :=
    ⟨rfl, .inr ⟨w.heap.size, G, cs, rfl, Nat.le_refl _, by have := heap_alloc_new w.drew (.cells cs 91); simpa using this, Nat.zero_le _, hG2, by omega, by simp⟩⟩
  have hrow : WRow (w.drew.alloc (.cells cs 91)) w.heap.size (.slice (some ⟨w.heap.size, 0, none⟩) 0 G) [] := ⟨[], hown, fun i h => absurd h (Nat.not_lt_zero _)⟩
  have hbel : Below w.heap.size w (w.drew.alloc (.cells cs 91)) := (Below.refl _ w).drew.alloc (by simp) _
  have HO := Lib.hid hrow; clear hown hrow
  have HB := Lib.hid hbel; clear hbel
  have HG2 := Lib.hid hG2; clear hG2
  clear hG hcs hsz hi hz0 hz1 hz2
  go_enter Tryz.func129, Tryz.ntmps129
  go_wp2_with (at_builtin; refine Lib.wpList_append_run _ rfl _ _ _ _ rfl _ _ rfl rfl _ _ (hr _) ?_)
  go_ret
  exact ⟨_, rfl, HO.out, HB.out⟩

/-- A slice of writes as it is handed in. -/
structure WPart where
  a : Option Addr
  len : Nat
  cap : Nat
  ws : WrL
def flatW (ps : List WPart) : WrL := ps.flatMap (·.ws)
theorem flatW_take_succ (ps : List WPart) (k : Nat) (h : k < ps.length) : flatW (ps.take (k + 1)) = flatW (ps.take k) ++ (ps[k]).ws := by
  unfold flatW
  rw [List.take_succ_eq_append_getElem h, List.flatMap_append]
  simp
theorem flatW_take_le (ps : List WPart) (k : Nat) : (flatW (ps.take k)).length ≤ (flatW ps).length := by
  have : flatW ps = flatW (ps.take k) ++ flatW (ps.drop k) := by
    unfold flatW
    rw [← List.flatMap_append, List.take_append_drop]
  rw [this, List.length_append]
  omega
/-- A row of the call's own that holds ws. -/
def WOwn (ws : WrL) (w : World) (e : Ending) (w' : World) : Prop := ∃ v, e = .returned v ∧ WRow w' w.heap.size v ws ∧ Below w.heap.size w w'
set_option maxHeartbeats 2000000 in
theorem dConcat_any (r c : Nat) (ps : List WPart) (w : World) (hr : r < w.heap.size) (hl : ps.length ≤ 1000)
    (hcell : ∀ i (h : i < ps.length), w.cell? ⟨r, i, none⟩ = some (.slice (ps[i]).a (ps[i]).len (ps[i]).cap)) (hb : ∀ i (h : i < ps.length), Wts w w.heap.size (ps[i]).a (ps[i]).len (ps[i]).cap (ps[i]).ws)
    (h0 : 0 < (flatW ps).length) (hm : (flatW ps).length ≤ 1000000) :
    Calls Tryz.prog 98 #[.slice (some ⟨r, 0, none⟩) ps.length c] w (WOwn (flatW ps) w) := by
  obtain ⟨n, hn⟩ : ∃ n, ps.length = n := ⟨_, rfl⟩
  have HN := Lib.hid hn
  rw [hn] at hl ⊢
  clear hn
  have n0 : (0 : Int) ≤ n := by omega
  have n1 : (n : Int) ≤ 1000 := by omega
  have HC := Lib.hid hcell; clear hcell
  have HB := Lib.hid hb; clear hb
  have HM := Lib.hid hm; clear hm
  have H0 := Lib.hid h0; clear h0
  go_enter Tryz.func98, Tryz.ntmps98
  go_wp2_with fail
  go_loop [3, 11] (fun z i => ∃ k : Nat, k ≤ n ∧ i = .int .i64 k ∧ z = .int .i64 ((flatW (ps.take k)).length : Nat)) (fun _ i => n - (intOf i).toNat)
  case atStart => exact ⟨0, Nat.zero_le _, rfl, rfl⟩
  case round =>
    obtain ⟨k, hk, rfl, rfl⟩ := hrel
    by_cases hlt : k < n
    · have hkp : k < ps.length := by rw [HN.out]; exact hlt
      have hce := HC.out k hkp
      have hbe := (HB.out k hkp).1
      have hsu := flatW_take_succ ps k hkp
      have hle := flatW_take_le ps (k + 1)
      rw [hsu, List.length_append, hbe] at hle
      have hsl : (flatW (ps.take (k + 1))).length = (flatW (ps.take k)).length + (ps[k]).len := by rw [hsu, List.length_append, hbe]
      obtain ⟨p, hp⟩ : ∃ p, ps[k] = p := ⟨_, rfl⟩
      rw [hp] at hce hle hsl
      obtain ⟨m, hm⟩ : ∃ m, (flatW (ps.take k)).length = m := ⟨_, rfl⟩
      rw [hm] at hle hsl ⊢
      obtain ⟨pa, pl, pc, pss⟩ := p
      dsimp only at hce hle hsl
      have hmm := HM.out
      have m0 : (0 : Int) ≤ (m : Int) := by omega
      have m1 : (m : Int) + (pl : Int) ≤ 1000000 := by omega
      have m2 : (0 : Int) ≤ (pl : Int) := by omega
      have m3 : ¬ ((m : Int) + (pl : Int) < 0) := by omega
      have k0 : (k : Int) < n := by omega
      have HSL := Lib.hid hsl; clear hsl
      clear hp hm hsu hbe hle hmm
      go_wp2_with fail
      go_round
      case rel => exact ⟨k + 1, by omega, by go_num, by rw [HSL.out]; go_num⟩
      case measure => simp [intOf]; omega
    · obtain rfl : k = n := by omega
      have ht : ps.take k = ps := List.take_of_length_le (by rw [HN.out]; exact Nat.le_refl _)
      rw [ht]
      obtain ⟨m, hm⟩ : ∃ m, (flatW ps).length = m := ⟨_, rfl⟩
      have gr := dGrow_any m (by rw [← hm]; exact H0.out) (by rw [← hm]; exact HM.out) w
      rw [hm]
      have GR := Lib.hid gr; clear gr
      clear hm ht
      go_wp2_with fail
      refine GR.out.mono ?_
      rintro e w1 ⟨v, rfl, ho, b1⟩
      have HO := Lib.hid ho; clear ho
      have HB1 := Lib.hid b1; clear b1
      go_wp2_with fail
      go_loopw [6, 27] (fun v i wr => ∃ j : Nat, j ≤ k ∧ i = .int .i64 j ∧ WRow wr w.heap.size v (flatW (ps.take j)) ∧ Below w.heap.size w wr) (fun _ i _ => k - (intOf i).toNat)
      case atStart => exact ⟨0, Nat.zero_le _, rfl, HO.out, HB1.out⟩
      case round =>
        obtain ⟨j, hj, rfl, ho2, hb2⟩ := hrel
        by_cases hlt2 : j < k
        · have hkp : j < ps.length := by rw [HN.out]; exact hlt2
          have hce := (hb2.cell (p := ⟨r, j, none⟩) hr).trans (HC.out j hkp)
          have hbs := (HB.out j hkp).below hb2
          have hbe := (HB.out j hkp).1
          have hsu := flatW_take_succ ps j hkp
          have hle := flatW_take_le ps (j + 1)
          rw [hsu, List.length_append, hbe] at hle
          obtain ⟨p, hp⟩ : ∃ p, ps[j] = p := ⟨_, rfl⟩
          rw [hp] at hce hle hsu hbs hbe
          obtain ⟨t, ht⟩ : ∃ t, flatW (ps.take j) = t := ⟨_, rfl⟩
          rw [ht] at hle hsu ho2
          obtain ⟨pa, pl, pc, pss⟩ := p
          dsimp only at hce hle hsu hbs hbe
          have hmm := HM.out
          have k0 : (j : Int) < k := by omega
          have hnm : t.length + pl ≤ 1000000 := by omega
          have HSU := Lib.hid hsu; clear hsu
          have HO2 := Lib.hid ho2; clear ho2
          have HB2 := Lib.hid hb2; clear hb2
          have HBS := Lib.hid hbs; clear hbs
          clear hp ht hle hmm hbe
          go_wp2_with (at_builtin; refine wpList_append_wrow rfl (.tmp 31) (.tmp 32) rfl w.heap.size u6 t rfl HO2.out w.heap.size pa pl pc pss rfl HBS.out (Nat.le_refl _) hnm HB2.out.size ?_; intro v' W3 hown' hg' hrow')
          have hb3 : Below w.heap.size w W3 := HB2.out.grown hg' HB2.out.size (fun k e => (hrow' k e).1)
          have HO3 := Lib.hid hown'; clear hown'
          have HB3 := Lib.hid hb3; clear hb3 hg' hrow'
          go_wp2_with fail
          go_roundw
          case rel => exact ⟨j + 1, by omega, by go_num, by rw [HSU.out]; exact HO3.out, HB3.out⟩
          case measure => simp [intOf]; omega
        · obtain rfl : j = k := by omega
          have ht : ps.take j = ps := List.take_of_length_le (by rw [HN.out]; exact Nat.le_refl _)
          rw [ht] at ho2
          have HO2 := Lib.hid ho2
          have HB2 := Lib.hid hb2; clear hb2
          clear ho2 ht
          go_wp2_with fail
          go_ret
          exact ⟨_, rfl, HO2.out, HB2.out⟩
end Go.Proofs.YtbggkfomfeeikaaGreatDoor
/-
  dev.Write: what it answers, whatever disk, place and bytes it is handed.
-/
namespace Go.Proofs.YtbggkfomfeeikaaGreatDoor
open Go.RowKit Go.Shelf
set_option maxRecDepth 100000

/-- A disk on which one more write waits. -/
def withD (D : DkL) (p : Int) (s : List UInt8) : DkL := (D.1, D.2 ++ [(p, s)])
def writeO (D : DkL) (p : Int) (s : List UInt8) : DkL × Int :=
  if MayD D then (if 0 ≤ p ∧ p < 256 then (if s.length = 256 then (if D.2.length = 4096 then (([], []), 9) else (withD D p s, 0)) else (([], []), 3)) else (([], []), 2)) else (([], []), 8)
theorem wr_with (ws : WrL) (p : Int) (s : List UInt8) : (∀ i, i < ws.length → wr_ (ws ++ [(p, s)]) i = wr_ ws i) ∧ wr_ (ws ++ [(p, s)]) ws.length = (p, s) := by
  unfold wr_
  refine ⟨fun i hi => ?_, ?_⟩
  · rw [List.getD_eq_getElem?_getD, List.getElem?_append_left hi, ← List.getD_eq_getElem?_getD]
  · rw [List.getD_eq_getElem?_getD, List.getElem?_append_right (Nat.le_refl _), Nat.sub_self]
    rfl
theorem with_may {D : DkL} {p : Int} {s : List UInt8} (h : MayD D) (hp : 0 ≤ p ∧ p < 256) (hs : s.length = 256) (hn : D.2.length ≠ 4096) : MayD (withD D p s) := by
  obtain ⟨h1, h2, h3⟩ := h
  obtain ⟨e1, e2⟩ := wr_with D.2 p s
  refine ⟨h1, by show (D.2 ++ [(p, s)]).length ≤ 4096; rw [List.length_append]; simp; omega, fun i hi => ?_⟩
  have hi' : i < D.2.length + 1 := by have : i < (D.2 ++ [(p, s)]).length := hi; rwa [List.length_append] at this
  show (0 ≤ (wr_ (D.2 ++ [(p, s)]) i).1 ∧ (wr_ (D.2 ++ [(p, s)]) i).1 < 256) ∧ (wr_ (D.2 ++ [(p, s)]) i).2.length = 256
  rcases Nat.lt_or_ge i D.2.length with h4 | h4
  · rw [e1 i h4]
    exact h3 i h4
  · obtain rfl : i = D.2.length := by omega
    rw [e2]
    exact ⟨hp, hs⟩
def WriteGoes (D : DkL) (p : Int) (s : List UInt8) : Prop := MayD D ∧ (0 ≤ p ∧ p < 256) ∧ s.length = 256 ∧ D.2.length ≠ 4096
/-- The ways that are refused. -/
theorem dWrite_no (x : DAt) (D : DkL) (p : Int) (a : Option Addr) (n c : Nat) (s : List UInt8) (w : World) (h : Dsk w w.heap.size x D) (hs : Bsl w w.heap.size a n c s) (hno : ¬ WriteGoes D p s) : Calls Tryz.prog 67 #[dval x D, .int .i64 p, .slice a n c] w (ToldD (writeO D p s) w) := by
  obtain ⟨w0, hw0, b0, z0, x0, x1⟩ := two_boxes w (.slice x.ba D.1.length x.bc) (.slice x.wa D.2.length x.wc)
  have h0 := h.step b0
  have c0 := x0.cell 0
  have c1 := x0.cell 1
  have HX0 := Lib.hid x0
  have HX1 := Lib.hid x1
  have HB := Lib.hid b0
  have hbk := dIsBlock_any p
  have hlg := dIsLong_any a n c
  have hsl := hs.1
  unfold writeO
  by_cases hm : MayD D
  · rw [if_pos hm]
    have HC := Lib.hid (dMay_yes x D _ h0 hm)
    simp only [dval] at HC ⊢
    by_cases hp : 0 ≤ p ∧ p < 256
    · rw [if_pos hp]
      simp only [decide_eq_true hp] at hbk
      have HBK := Lib.hid hbk
      by_cases hl : s.length = 256
      · have hf4 : D.2.length = 4096 := Classical.byContradiction fun hh => hno ⟨hm, hp, hl, hh⟩
        rw [if_pos hl, if_pos hf4]
        have hn : n = 256 := by omega
        simp only [decide_eq_true hn] at hlg
        have HLG := Lib.hid hlg
        rw [hf4] at hw0 HX0 c1 HC ⊢
        clear b0 h0 h hm x0 x1 z0 hbk hlg hno hp hl hsl hs hf4 hn
        go_enter Tryz.func67, Tryz.ntmps67
        go_wp2_with fail
        clear hw0 c0 c1
        refine HC.out.mono ?_
        rintro e w1 ⟨rfl, b1⟩
        have HX01 := Lib.hid (HX0.out.below b1 HX0.out.lt)
        have HY := Lib.hid (HX1.out.below b1 HX1.out.lt)
        have HB1 := Lib.hid (HB.out.trans (b1.mono HB.out.size))
        clear b1
        go_wp2_with fail
        refine (HBK.out _).mono ?_
        rintro e w1' ⟨rfl, rfl⟩
        go_wp2_with fail
        refine (HLG.out _).mono ?_
        rintro e w1' ⟨rfl, rfl⟩
        have c1 := HX01.out.cell 1
        have d0 := HY.out.cell 0
        have d1 := HY.out.cell 1
        have hf := fun i => HY.out.frozen i
        go_wp2_with fail
        clear c1
        have hBF := (HB1.out.setCell (p := ⟨w.heap.size + 1, 0, none⟩) (Nat.le_add_right _ _) (.slice none 0 0)).setCell (p := ⟨w.heap.size + 1, 1, none⟩) (Nat.le_add_right _ _) (.slice none 0 0)
        have hXF := (HY.out.set_ 0 (.slice none 0 0)).set_ 1 (.slice none 0 0)
        obtain ⟨wf, hwf⟩ : ∃ wf, ((w1.setCell ⟨w.heap.size + 1, 0, none⟩ (.slice none 0 0)).setCell ⟨w.heap.size + 1, 1, none⟩ (.slice none 0 0)) = wf := ⟨_, rfl⟩
        rw [hwf] at hBF hXF ⊢
        clear hwf d0 d1 hf
        have e0 := hXF.cell 0
        have e1 := hXF.cell 1
        exact bodyPost_ret (v := .tuple #[.agg #[.slice none 0 0, .slice none 0 0], .int .i64 9]) (by simp [results, Tryz.f67, go_sem, e0, e1]) rfl (toldD_no rfl hBF)
      · rw [if_neg hl]
        have hn : n ≠ 256 := by omega
        simp only [decide_eq_false hn] at hlg
        have HLG := Lib.hid hlg
        clear b0 h0 h hm x0 x1 z0 hbk hlg hno hp hl hsl hs hn
        go_enter Tryz.func67, Tryz.ntmps67
        go_wp2_with fail
        clear hw0 c0 c1
        refine HC.out.mono ?_
        rintro e w1 ⟨rfl, b1⟩
        have HX01 := Lib.hid (HX0.out.below b1 HX0.out.lt)
        have HY := Lib.hid (HX1.out.below b1 HX1.out.lt)
        have HB1 := Lib.hid (HB.out.trans (b1.mono HB.out.size))
        clear b1
        go_wp2_with fail
        refine (HBK.out _).mono ?_
        rintro e w1' ⟨rfl, rfl⟩
        go_wp2_with fail
        refine (HLG.out _).mono ?_
        rintro e w1' ⟨rfl, rfl⟩
        have c1 := HX01.out.cell 1
        have d0 := HY.out.cell 0
        have d1 := HY.out.cell 1
        have hf := fun i => HY.out.frozen i
        go_wp2_with fail
        clear c1
        have hBF := (HB1.out.setCell (p := ⟨w.heap.size + 1, 0, none⟩) (Nat.le_add_right _ _) (.slice none 0 0)).setCell (p := ⟨w.heap.size + 1, 1, none⟩) (Nat.le_add_right _ _) (.slice none 0 0)
        have hXF := (HY.out.set_ 0 (.slice none 0 0)).set_ 1 (.slice none 0 0)
        obtain ⟨wf, hwf⟩ : ∃ wf, ((w1.setCell ⟨w.heap.size + 1, 0, none⟩ (.slice none 0 0)).setCell ⟨w.heap.size + 1, 1, none⟩ (.slice none 0 0)) = wf := ⟨_, rfl⟩
        rw [hwf] at hBF hXF ⊢
        clear hwf d0 d1 hf
        have e0 := hXF.cell 0
        have e1 := hXF.cell 1
        exact bodyPost_ret (v := .tuple #[.agg #[.slice none 0 0, .slice none 0 0], .int .i64 3]) (by simp [results, Tryz.f67, go_sem, e0, e1]) rfl (toldD_no rfl hBF)
    · rw [if_neg hp]
      simp only [decide_eq_false hp] at hbk
      have HBK := Lib.hid hbk
      clear b0 h0 h hm x0 x1 z0 hbk hlg hno hp hsl hs
      go_enter Tryz.func67, Tryz.ntmps67
      go_wp2_with fail
      clear hw0 c0 c1
      refine HC.out.mono ?_
      rintro e w1 ⟨rfl, b1⟩
      have HX01 := Lib.hid (HX0.out.below b1 HX0.out.lt)
      have HY := Lib.hid (HX1.out.below b1 HX1.out.lt)
      have HB1 := Lib.hid (HB.out.trans (b1.mono HB.out.size))
      clear b1
      go_wp2_with fail
      refine (HBK.out _).mono ?_
      rintro e w1' ⟨rfl, rfl⟩
      have c1 := HX01.out.cell 1
      have d0 := HY.out.cell 0
      have d1 := HY.out.cell 1
      have hf := fun i => HY.out.frozen i
      go_wp2_with fail
      clear c1
      have hBF := (HB1.out.setCell (p := ⟨w.heap.size + 1, 0, none⟩) (Nat.le_add_right _ _) (.slice none 0 0)).setCell (p := ⟨w.heap.size + 1, 1, none⟩) (Nat.le_add_right _ _) (.slice none 0 0)
      have hXF := (HY.out.set_ 0 (.slice none 0 0)).set_ 1 (.slice none 0 0)
      obtain ⟨wf, hwf⟩ : ∃ wf, ((w1.setCell ⟨w.heap.size + 1, 0, none⟩ (.slice none 0 0)).setCell ⟨w.heap.size + 1, 1, none⟩ (.slice none 0 0)) = wf := ⟨_, rfl⟩
      rw [hwf] at hBF hXF ⊢
      clear hwf d0 d1 hf
      have e0 := hXF.cell 0
      have e1 := hXF.cell 1
      exact bodyPost_ret (v := .tuple #[.agg #[.slice none 0 0, .slice none 0 0], .int .i64 2]) (by simp [results, Tryz.f67, go_sem, e0, e1]) rfl (toldD_no rfl hBF)
  · rw [if_neg hm]
    have HC := Lib.hid (dMay_no x D _ h0 hm)
    simp only [dval] at HC ⊢
    clear b0 h0 h hm x0 x1 z0 hbk hlg hno hsl hs
    go_enter Tryz.func67, Tryz.ntmps67
    go_wp2_with fail
    clear hw0 c0 c1
    refine HC.out.mono ?_
    rintro e w1 ⟨rfl, b1⟩
    have HX01 := Lib.hid (HX0.out.below b1 HX0.out.lt)
    have HY := Lib.hid (HX1.out.below b1 HX1.out.lt)
    have HB1 := Lib.hid (HB.out.trans (b1.mono HB.out.size))
    clear b1
    have c1 := HX01.out.cell 1
    have d0 := HY.out.cell 0
    have d1 := HY.out.cell 1
    have hf := fun i => HY.out.frozen i
    go_wp2_with fail
    clear c1
    have hBF := (HB1.out.setCell (p := ⟨w.heap.size + 1, 0, none⟩) (Nat.le_add_right _ _) (.slice none 0 0)).setCell (p := ⟨w.heap.size + 1, 1, none⟩) (Nat.le_add_right _ _) (.slice none 0 0)
    have hXF := (HY.out.set_ 0 (.slice none 0 0)).set_ 1 (.slice none 0 0)
    obtain ⟨wf, hwf⟩ : ∃ wf, ((w1.setCell ⟨w.heap.size + 1, 0, none⟩ (.slice none 0 0)).setCell ⟨w.heap.size + 1, 1, none⟩ (.slice none 0 0)) = wf := ⟨_, rfl⟩
    rw [hwf] at hBF hXF ⊢
    clear hwf d0 d1 hf
    have e0 := hXF.cell 0
    have e1 := hXF.cell 1
    exact bodyPost_ret (v := .tuple #[.agg #[.slice none 0 0, .slice none 0 0], .int .i64 8]) (by simp [results, Tryz.f67, go_sem, e0, e1]) rfl (toldD_no rfl hBF)
set_option maxHeartbeats 4000000 in
theorem dWrite_yes (x : DAt) (D : DkL) (p : Int) (a : Option Addr) (c : Nat) (s : List UInt8) (w : World) (h : Dsk w w.heap.size x D) (hs : Bsl w w.heap.size a 256 c s) (hm : MayD D) (hp : 0 ≤ p ∧ p < 256) (hn : D.2.length ≠ 4096) : Calls Tryz.prog 67 #[dval x D, .int .i64 p, .slice a 256 c] w (ToldD (withD D p s, 0) w) := by
  obtain ⟨w0, hw0, b0, z0, x0, x1⟩ := two_boxes w (.slice x.ba D.1.length x.bc) (.slice x.wa D.2.length x.wc)
  have h0 := h.step b0
  have c0 := x0.cell 0
  have c1 := x0.cell 1
  have HX0 := Lib.hid x0
  have HX1 := Lib.hid x1
  have HB := Lib.hid b0
  have HZ := Lib.hid z0
  have HD := Lib.hid h0
  have HS0 := Lib.hid (hs.step b0)
  have HC := Lib.hid (dMay_yes x D _ h0 hm)
  have hbk := dIsBlock_any p
  simp only [decide_eq_true hp] at hbk
  have HBK := Lib.hid hbk
  have hlg := dIsLong_any a 256 c
  have HLG : Hid (∀ W, Calls Tryz.prog 97 #[.slice a 256 c] W fun e w' => e = .returned (.bool true) ∧ W = w') := Lib.hid hlg
  have HM := Lib.hid hm
  have HF := Lib.hid (may_fits (with_may hm hp hs.1 hn))
  obtain ⟨m, hm2⟩ : ∃ m, D.2.length = m := ⟨_, rfl⟩
  have m0 : m < 4096 := by have := hm.2.1; omega
  have m1 : ((m : Int) == 4096) = false := by simp; omega
  have HM2 := Lib.hid hm2
  have HP := Lib.hid hp
  simp only [dval] at HC ⊢
  rw [hm2] at HX0 hw0 c1 HC ⊢
  clear b0 h0 h hm x0 x1 z0 hbk hlg hs hn hp
  go_enter Tryz.func67, Tryz.ntmps67
  go_wp2_with fail
  clear hw0 c0 c1 hm2
  refine HC.out.mono ?_
  rintro e w1 ⟨rfl, b1⟩
  have x01 := HX0.out.below b1 HX0.out.lt
  have c0 := x01.cell 0
  have c1 := x01.cell 1
  have HX01 := Lib.hid x01
  have HX11 := Lib.hid (HX1.out.below b1 HX1.out.lt)
  have HB1 := Lib.hid (HB.out.trans (b1.mono HB.out.size))
  have HZ1 := Lib.hid (show w.heap.size + 2 ≤ w1.heap.size by have := b1.size; have := HZ.out; omega)
  have HD1 := Lib.hid (HD.out.step b1)
  have HS1 := Lib.hid (HS0.out.step b1)
  clear b1 x01 HX0 HX1 HB HD HS0
  go_wp2_with fail
  refine (HBK.out _).mono ?_
  rintro e w1' ⟨rfl, rfl⟩
  go_wp2_with fail
  refine (HLG.out _).mono ?_
  rintro e w1' ⟨rfl, rfl⟩
  go_wp2_with fail
  have hsz := HZ1.out
  have hD1 := HD1.out
  have hS1 := HS1.out
  have hp := HP.out
  obtain ⟨g1, hg1⟩ : ∃ g, w1.heap.size = g := ⟨_, rfl⟩
  obtain ⟨w2, hw2⟩ : ∃ w2, (w1.alloc (.cells #[.int .i64 p, .slice a 256 c] 91)).alloc (.cells #[.slice x.wa m x.wc, .slice (some ⟨g1, 0, none⟩) 1 1] 24) = w2 := ⟨_, rfl⟩
  have b2 : Below w1.heap.size w1 w2 := by rw [← hw2]; exact ((Below.refl _ w1).alloc (Nat.le_refl _) _).alloc (by simp) _
  have y1 : Blk w2 g1 91 #[.int .i64 p, .slice a 256 c] := by rw [← hw2, ← hg1]; exact (Blk.new w1 _ _).alloc _
  have y2 : Blk w2 (g1 + 1) 24 #[.slice x.wa m x.wc, .slice (some ⟨g1, 0, none⟩) 1 1] := by
    have := Blk.new (w1.alloc (.cells #[.int .i64 p, .slice a 256 c] 91)) 24 #[.slice x.wa m x.wc, .slice (some ⟨g1, 0, none⟩) 1 1]
    rw [World.size_alloc, hg1, hw2] at this
    exact this
  have hD2 := hD1.step b2
  have hS2 := hS1.step b2
  have hone : Wts w2 w2.heap.size (some ⟨g1, 0, none⟩) 1 1 [(p, s)] := by
    refine ⟨rfl, Nat.le_refl _, by unfold maxLen; omega, fun _ => ⟨g1, 0, rfl, y1.lt, fun i hi => ?_⟩⟩
    obtain rfl : i = 0 := by omega
    have hsl := hS2.1
    refine ⟨wf64 (p := p) (by omega) (by omega), y1.cell 0, a, c, ?_, ?_⟩
    · show w2.cell? ⟨g1, 1, none⟩ = some (.slice a s.length c)
      rw [hsl]
      exact y1.cell 1
    · show Bsl w2 _ a s.length c s
      rw [hsl]
      exact hS2
  have hcon := dConcat_any (g1 + 1) 2 [⟨x.wa, m, x.wc, D.2⟩, ⟨some ⟨g1, 0, none⟩, 1, 1, [(p, s)]⟩] w2 y2.lt (by simp) (fun i hi => by
    have : i = 0 ∨ i = 1 := by simp at hi; omega
    rcases this with rfl | rfl
    · exact y2.cell 0
    · exact y2.cell 1) (fun i hi => by
    have : i = 0 ∨ i = 1 := by simp at hi; omega
    rcases this with rfl | rfl
    · show Wts w2 w2.heap.size x.wa m x.wc D.2
      rw [← HM2.out]
      exact hD2.2
    · exact hone) (by simp [flatW]) (by simp [flatW, HM2.out]; omega)
  have hfl : flatW [⟨x.wa, m, x.wc, D.2⟩, ⟨some ⟨g1, 0, none⟩, 1, 1, [(p, s)]⟩] = D.2 ++ [(p, s)] := by simp [flatW]
  rw [hfl] at hcon
  have HCON := Lib.hid hcon
  have HX02 := Lib.hid (HX01.out.below b2 HX01.out.lt)
  have HX12 := Lib.hid (HX11.out.below b2 HX11.out.lt)
  have HB2 := Lib.hid (HB1.out.trans (b2.mono (by omega)))
  have HZ2 := Lib.hid (show w.heap.size + 2 ≤ w2.heap.size by have := b2.size; omega)
  have HD2 := Lib.hid hD2
  rw [hg1, hw2]
  clear hsz hD1 hS1 hp hg1 hw2 b2 y1 y2 hD2 hS2 hone hcon hfl HB1 HZ1 HD1 HS1 HX01 HX11 c0 c1
  refine HCON.out.mono ?_
  rintro e w3 ⟨v, rfl, hrow, b3⟩
  obtain ⟨wa3, wc3, rfl, hwts⟩ := hrow.wts
  have x03 := HX02.out.below b3 HX02.out.lt
  have c0 := x03.cell 0
  have c1 := x03.cell 1
  have hla := dLaid_any ⟨x.ba, x.bc, wa3, wc3⟩ (withD D p s) w3 ⟨(HD2.out.step b3).1, hwts⟩ HF.out
  have hw1 : (withD D p s).1 = D.1 := rfl
  have hw2 : (withD D p s).2 = D.2 ++ [(p, s)] := rfl
  simp only [hw1, hw2] at hla
  obtain ⟨L, hL⟩ : ∃ L, (D.2 ++ [(p, s)]).length = L := ⟨_, rfl⟩
  rw [hL] at hla ⊢
  have HLA := Lib.hid hla
  have HX2 := Lib.hid (HX12.out.below b3 HX12.out.lt)
  have HB1 := Lib.hid (HB2.out.trans (b3.mono HB2.out.size))
  have HZ1 := Lib.hid (show w.heap.size + 2 ≤ w3.heap.size by have := b3.size; have := HZ2.out; omega)
  have HW2 := Lib.hid (show (withD D p s).2.length = L from hL)
  clear hrow b3 hwts x03 hla hw1 hw2 hL HCON HX02 HX12 HB2 HZ2 HD2
  go_wp2_with fail
  refine HLA.out.mono ?_
  rintro e w4 ⟨x2, rfl, h2, b2⟩
  clear c0 c1
  have y2 := HX2.out.below b2 HX2.out.lt
  have d0 := y2.cell 0
  have d1 := y2.cell 1
  have hf := fun i => y2.frozen i
  have hz := HZ1.out
  have HK := Lib.hid (fun (u v : Value) => laid_far (g := w.heap.size + 1) (lo' := w.heap.size) h2 (by omega) (by omega) u v)
  have HBF := Lib.hid (fun (u v : Value) => ((HB1.out.trans (b2.mono (by omega))).setCell (p := ⟨w.heap.size + 1, 0, none⟩) (Nat.le_add_right _ _) u).setCell (p := ⟨w.heap.size + 1, 1, none⟩) (Nat.le_add_right _ _) v)
  have HXF := Lib.hid (fun (u v : Value) => (y2.set_ 0 u).set_ 1 v)
  obtain ⟨K, hK⟩ : ∃ K, withD D p s = K := ⟨_, rfl⟩
  rw [hK] at HK ⊢
  have HK0 := Lib.hid hK
  obtain ⟨ba2, bc2, wa2, wc2⟩ := x2
  clear h2 b2 y2 hz hK
  simp only [dval]
  go_wp2_with fail
  have hKD := HK.out (.slice ba2 K.1.length bc2) (.slice wa2 K.2.length wc2)
  have hBF := HBF.out (.slice ba2 K.1.length bc2) (.slice wa2 K.2.length wc2)
  have hXF := HXF.out (.slice ba2 K.1.length bc2) (.slice wa2 K.2.length wc2)
  obtain ⟨wf, hwf⟩ : ∃ wf, ((w4.setCell ⟨w.heap.size + 1, 0, none⟩ (.slice ba2 K.1.length bc2)).setCell ⟨w.heap.size + 1, 1, none⟩ (.slice wa2 K.2.length wc2)) = wf := ⟨_, rfl⟩
  rw [hwf] at hKD hBF hXF ⊢
  clear hwf d0 d1 hf
  have e0 := hXF.cell 0
  have e1 := hXF.cell 1
  refine bodyPost_ret (v := .tuple #[dval ⟨ba2, bc2, wa2, wc2⟩ K, .int .i64 0]) (by simp [results, Tryz.f67, go_sem, e0, e1, dval]) rfl ?_
  exact ⟨⟨ba2, bc2, wa2, wc2⟩, by rw [HK0.out], .inr (by rw [HK0.out]; exact hKD), hBF⟩
theorem dWrite_any (x : DAt) (D : DkL) (p : Int) (a : Option Addr) (n c : Nat) (s : List UInt8) (w : World) (h : Dsk w w.heap.size x D) (hs : Bsl w w.heap.size a n c s) : Calls Tryz.prog 67 #[dval x D, .int .i64 p, .slice a n c] w (ToldD (writeO D p s) w) := by
  by_cases hy : WriteGoes D p s
  · obtain ⟨h1, h2, h3, h4⟩ := hy
    rw [writeO, if_pos h1, if_pos h2, if_pos h3, if_neg h4]
    obtain rfl : n = 256 := by rw [← hs.1]; exact h3
    exact dWrite_yes x D p a c s w h hs h1 h2 h4
  · exact dWrite_no x D p a n c s w h hs hy
end Go.Proofs.YtbggkfomfeeikaaGreatDoor
/-
  The document's own With for layer 9, with the rows that it makes.
-/
namespace Go.Proofs.YtbggkfomfeeikaaGreatDoor
open Go.RowKit Go.Shelf
set_option maxRecDepth 100000

/-- A disk whose rows are rows: it stays where boxes of disks are written. -/
def DskR (w : World) (x : DAt) (D : DkL) : Prop := ∃ b1 b2, BRowC w 0 b1 (.slice x.ba D.1.length x.bc) D.1 ∧ WRowC w 0 b2 (.slice x.wa D.2.length x.wc) D.2
theorem DskR.dsk {w : World} {x : DAt} {D : DkL} (h : DskR w x D) : Dsk w w.heap.size x D := by
  obtain ⟨b1, b2, h1, h2⟩ := h
  exact rows_dsk h1 h2
theorem DskR.below {w w' : World} {x : DAt} {D : DkL} (h : DskR w x D) (hb : Below w.heap.size w w') : DskR w' x D := by
  obtain ⟨b1, b2, h1, h2⟩ := h
  exact ⟨b1, b2, h1.below hb, h2.below hb⟩
end Go.Proofs.YtbggkfomfeeikaaGreatDoor
/-
  slices.Grow of nil, and slices.Concat of lists of bytes: new memory that holds them all, one behind the other; nothing that was there is written.
-/
namespace Go.Proofs.YtbggkfomfeeikaaGreatDoor
open Go.RowKit Go.Shelf
set_option maxRecDepth 100000

set_option maxHeartbeats 1000000 in
theorem grow_any (n : Nat) (h0 : 0 < n) (hn : n ≤ 100000) (w : World) : Calls Tryz.prog 115 #[.slice none 0 0, .int .i64 n] w fun e w' => ∃ v, e = .returned v ∧ w'.ownsRow w.heap.size 5 1 v 0 (vals []) ∧ Below w.heap.size w w' := by
  obtain ⟨i0, hi, hz0, hz1, hz2⟩ := info_parts infoU8
  have hr : ∀ ty, (Builtin.append_ #[27, 3] ty #[.slice none 0 0, .int .i64 n]).run Tryz.prog w =
      .ok (.slice (some ⟨w.heap.size, 0, none⟩) n (grownCap w n 0 5)) (w.drew.alloc (.cells (Builtin.zeroCells (Value.int .u8 0).cells n ++ Builtin.zeroCells (Value.int .u8 0).cells (grownCap w n 0 5 - n)) 5)) := fun ty =>
    Lib.run_append_nil_zeros w 27 3 ty 5 i0 (.int .u8 0) .i64 .i64 Tryz.underlying27 Tryz.underlying3 hi hz0 n h0 (by omega) (by omega) (by rw [hz2]; omega)
  have hG1 : n ≤ grownCap w n 0 5 := grownCap_ge w _ _ _
  have hG2 : grownCap w n 0 5 ≤ maxLen := grownCap_le_maxLen w n 0 5 (by unfold maxLen; omega)
  obtain ⟨G, hG⟩ : ∃ G, grownCap w n 0 5 = G := ⟨_, rfl⟩
  rw [hG] at hr hG1 hG2
  obtain ⟨cs, hcs⟩ : ∃ cs, Builtin.zeroCells (Value.int .u8 0).cells n ++ Builtin.zeroCells (Value.int .u8 0).cells (G - n) = cs := ⟨_, rfl⟩
  have hsz : cs.size = G := by
    rw [← hcs]
    simp [Builtin.zeroCells, Value.cells]
    omega
  rw [hcs] at hr
  have z5 : ∀ w, (Go.sizeOf 5).run Tryz.prog w = .ok 1 w := fun w => by kernel_rfl
  have n1 : ¬ ((n : Int) < 0) := by omega
  have n2 : (0 : Int) < n := by omega
  have n3 : (n : Int) ≤ 100000 := by omega
  have g0 : (G : Int) ≤ 9223372036854775807 := by unfold maxLen at hG2; omega
  have hown : (w.drew.alloc (.cells cs 5)).ownsRow w.heap.size 5 1 (.slice (some ⟨w.heap.size, 0, none⟩) 0 G) 0 (vals []) :=
    ⟨rfl, .inr ⟨w.heap.size, G, cs, rfl, Nat.le_refl _, by have := heap_alloc_new w.drew (.cells cs 5); simpa using this, Nat.zero_le _, hG2, by omega, by simp [vals]⟩⟩
  have hbel : Below w.heap.size w (w.drew.alloc (.cells cs 5)) := (Below.refl _ w).drew.alloc (by simp) _
  have HO := Lib.hid hown; clear hown
  have HB := Lib.hid hbel; clear hbel
  have HG2 := Lib.hid hG2; clear hG2
  clear hG hcs hsz hi hz0 hz1 hz2
  go_enter Tryz.func115, Tryz.ntmps115
  go_wp2_with (at_builtin; refine Lib.wpList_append_run _ rfl _ _ _ _ rfl _ _ rfl rfl _ _ (hr _) ?_)
  go_ret
  exact ⟨_, rfl, HO.out, HB.out⟩

/-- A list of bytes as it is handed in. -/
structure Part where
  a : Option Addr
  len : Nat
  cap : Nat
  s : List UInt8
/-- Lists, one behind the other. -/
def flat (ps : List Part) : List UInt8 := ps.flatMap (·.s)
theorem flat_take_succ (ps : List Part) (k : Nat) (h : k < ps.length) : flat (ps.take (k + 1)) = flat (ps.take k) ++ (ps[k]).s := by
  unfold flat
  rw [List.take_succ_eq_append_getElem h, List.flatMap_append]
  simp
theorem flat_take_le (ps : List Part) (k : Nat) : (flat (ps.take k)).length ≤ (flat ps).length := by
  have : flat ps = flat (ps.take k) ++ flat (ps.drop k) := by
    unfold flat
    rw [← List.flatMap_append, List.take_append_drop]
  rw [this, List.length_append]
  omega

/-- The same, the call's own. -/
def OwnPost (s : List UInt8) (w : World) (e : Ending) (w' : World) : Prop := ∃ v, e = .returned v ∧ w'.ownsRow w.heap.size 5 1 v s.length (vals s) ∧ Below w.heap.size w w'

set_option maxHeartbeats 2000000 in
theorem concat_own (r c : Nat) (ps : List Part) (w : World) (hr : r < w.heap.size) (hl : ps.length ≤ 1000) (_hc : ps.length ≤ c)
    (hcell : ∀ i (h : i < ps.length), w.cell? ⟨r, i, none⟩ = some (.slice (ps[i]).a (ps[i]).len (ps[i]).cap)) (hb : ∀ i (h : i < ps.length), Bsl w w.heap.size (ps[i]).a (ps[i]).len (ps[i]).cap (ps[i]).s)
    (h0 : 0 < (flat ps).length) (hm : (flat ps).length ≤ 100000) :
    Calls Tryz.prog 83 #[.slice (some ⟨r, 0, none⟩) ps.length c] w (OwnPost (flat ps) w) := by
  obtain ⟨n, hn⟩ : ∃ n, ps.length = n := ⟨_, rfl⟩
  have HN := Lib.hid hn
  rw [hn] at hl ⊢
  clear hn
  have n0 : (0 : Int) ≤ n := by omega
  have n1 : (n : Int) ≤ 1000 := by omega
  have HC := Lib.hid hcell; clear hcell
  have HB := Lib.hid hb; clear hb
  have HM := Lib.hid hm; clear hm
  have H0 := Lib.hid h0; clear h0
  go_enter Tryz.func83, Tryz.ntmps83
  go_wp2_with fail
  go_loop [3, 11] (fun z i => ∃ k : Nat, k ≤ n ∧ i = .int .i64 k ∧ z = .int .i64 ((flat (ps.take k)).length : Nat)) (fun _ i => n - (intOf i).toNat)
  case atStart => exact ⟨0, Nat.zero_le _, rfl, rfl⟩
  case round =>
    obtain ⟨k, hk, rfl, rfl⟩ := hrel
    by_cases hlt : k < n
    · have hkp : k < ps.length := by rw [HN.out]; exact hlt
      have hce := HC.out k hkp
      have hbe := (HB.out k hkp).1
      have hsu := flat_take_succ ps k hkp
      have hle := flat_take_le ps (k + 1)
      rw [hsu, List.length_append, hbe] at hle
      have hsl : (flat (ps.take (k + 1))).length = (flat (ps.take k)).length + (ps[k]).len := by rw [hsu, List.length_append, hbe]
      obtain ⟨p, hp⟩ : ∃ p, ps[k] = p := ⟨_, rfl⟩
      rw [hp] at hce hle hsl
      obtain ⟨m, hm⟩ : ∃ m, (flat (ps.take k)).length = m := ⟨_, rfl⟩
      rw [hm] at hle hsl ⊢
      obtain ⟨pa, pl, pc, pss⟩ := p
      dsimp only at hce hle hsl
      have hmm := HM.out
      have m0 : (0 : Int) ≤ (m : Int) := by omega
      have m1 : (m : Int) + (pl : Int) ≤ 100000 := by omega
      have m2 : (0 : Int) ≤ (pl : Int) := by omega
      have m3 : ¬ ((m : Int) + (pl : Int) < 0) := by omega
      have k0 : (k : Int) < n := by omega
      have HSL := Lib.hid hsl; clear hsl
      clear hp hm hsu hbe hle hmm
      go_wp2_with fail
      go_round
      case rel => exact ⟨k + 1, by omega, by go_num, by rw [HSL.out]; go_num⟩
      case measure => simp [intOf]; omega
    · obtain rfl : k = n := by omega
      have ht : ps.take k = ps := List.take_of_length_le (by rw [HN.out]; exact Nat.le_refl _)
      rw [ht]
      obtain ⟨m, hm⟩ : ∃ m, (flat ps).length = m := ⟨_, rfl⟩
      have gr := grow_any m (by rw [← hm]; exact H0.out) (by rw [← hm]; exact HM.out) w
      rw [hm]
      have GR := Lib.hid gr; clear gr
      have HML := Lib.hid hm; clear hm ht
      go_wp2_with fail
      refine GR.out.mono ?_
      rintro e w1 ⟨v, rfl, ho, b1⟩
      have HO := Lib.hid ho; clear ho
      have HB1 := Lib.hid b1; clear b1
      go_wp2_with fail
      go_loopw [6, 27] (fun v i wr => ∃ j : Nat, j ≤ k ∧ i = .int .i64 j ∧ wr.ownsRow w.heap.size 5 1 v (flat (ps.take j)).length (vals (flat (ps.take j))) ∧ Below w.heap.size w wr) (fun _ i _ => k - (intOf i).toNat)
      case atStart => exact ⟨0, Nat.zero_le _, rfl, HO.out, HB1.out⟩
      case round =>
        obtain ⟨j, hj, rfl, ho2, hb2⟩ := hrel
        by_cases hlt2 : j < k
        · have hkp : j < ps.length := by rw [HN.out]; exact hlt2
          have hce := (hb2.cell (p := ⟨r, j, none⟩) hr).trans (HC.out j hkp)
          have hbs := ((HB.out j hkp).below hb2).more hb2.size
          have hbe := (HB.out j hkp).1
          have hsu := flat_take_succ ps j hkp
          have hle := flat_take_le ps (j + 1)
          rw [hsu, List.length_append, hbe] at hle
          obtain ⟨p, hp⟩ : ∃ p, ps[j] = p := ⟨_, rfl⟩
          rw [hp] at hce hle hsu hbs hbe
          obtain ⟨t, ht⟩ : ∃ t, flat (ps.take j) = t := ⟨_, rfl⟩
          rw [ht] at hle hsu ho2
          obtain ⟨pa, pl, pc, pss⟩ := p
          dsimp only at hce hle hsu hbs hbe
          have hmm := HM.out
          have k0 : (j : Int) < k := by omega
          have hnm : t.length + pl ≤ 100000 := by omega
          have HSU := Lib.hid hsu; clear hsu
          have HO2 := Lib.hid ho2; clear ho2
          have HB2 := Lib.hid hb2; clear hb2
          have HBS := Lib.hid hbs; clear hbs
          have HBE := Lib.hid hbe; clear hbe
          clear hp ht hle hmm
          go_wp2_with (at_builtin; refine wpList_append_bsl rfl (.tmp 31) (.tmp 32) rfl w.heap.size u6 t.length _ rfl HO2.out wr.heap.size pa pl pc pss rfl HBS.out hnm HB2.out.size ?_; intro v' W3 hown' hg')
          have hb3 : Below w.heap.size w W3 := HB2.out.grown hg' HB2.out.size (fun k e => (HO2.out.lt k e).1)
          have HO3 := Lib.hid hown'; clear hown'
          have HB3 := Lib.hid hb3; clear hb3 hg'
          go_wp2_with fail
          go_roundw
          case rel => exact ⟨j + 1, by omega, by go_num, by rw [HSU.out, List.length_append, HBE.out]; exact HO3.out, HB3.out⟩
          case measure => simp [intOf]; omega
        · obtain rfl : j = k := by omega
          have ht : ps.take j = ps := List.take_of_length_le (by rw [HN.out]; exact Nat.le_refl _)
          rw [ht] at ho2
          have HO2 := Lib.hid ho2
          have HB2 := Lib.hid hb2; clear hb2
          clear ho2 ht
          go_wp2_with fail
          go_ret
          exact ⟨_, rfl, HO2.out, HB2.out⟩
end Go.Proofs.YtbggkfomfeeikaaGreatDoor
/-
  A range over a function that has no end of its own: it goes on until the body leaves it. What the iterator tells of each value and of the world is handed to the body; a bound on the rounds comes from the caller.
-/
namespace Go.Proofs.YtbggkfomfeeikaaGreatDoor
open Go Go.RowKit
set_option maxRecDepth 100000

/-- Cells at or behind block B stay. -/
def CellsFrom (B : Nat) (W W' : World) : Prop := W.heap.size ≤ W'.heap.size ∧ ∀ p v, B ≤ p.block → W.cell? p = some v → W'.cell? p = some v
/-- All that lies at or behind block B stays. -/
def AllFrom (B : Nat) (W W' : World) : Prop := W.heap.size ≤ W'.heap.size ∧ ∀ k o, B ≤ k → W.heap[k]? = some o → W'.heap[k]? = some o
theorem CellsFrom.trans {B : Nat} {a b c : World} (h : CellsFrom B a b) (k : CellsFrom B b c) : CellsFrom B a c := ⟨Nat.le_trans h.1 k.1, fun p v hp hv => k.2 p v hp (h.2 p v hp hv)⟩
theorem AllFrom.cells {B : Nat} {a b : World} (h : AllFrom B a b) : CellsFrom B a b := ⟨h.1, fun p v hp hv => by
  obtain ⟨o, ho, _⟩ := cells_of_cell hv
  have := h.2 _ o hp ho
  exact (World.cell?_of_block (this.trans ho.symm)).trans hv⟩
theorem below_putObj {B : Nat} {W : World} {l : Nat} (o : Obj) (h : B ≤ l) : Below B W (W.putObj l o) :=
  ⟨rfl, rfl, rfl, by simp, fun k hk => World.putObj_heap_other (by omega)⟩

end Go.Proofs.YtbggkfomfeeikaaGreatDoor
/-
  cipher.pieces hands out the pieces of the stream of a key and a number, from the first one on, for as long as they are asked for.
-/
namespace Go.Proofs.YtbggkfomfeeikaaGreatDoor
open Go.RowKit Go.Shelf
set_option maxRecDepth 100000
attribute [local go_sem] Oper.semAt_some

end Go.Proofs.YtbggkfomfeeikaaGreatDoor
/-
  cipher's stream, of a key, a number and a length that may be, is so many bytes of its pieces, in new memory; nothing that was there is written.
-/
namespace Go.Proofs.YtbggkfomfeeikaaGreatDoor
open Go.RowKit Go.Shelf
set_option maxRecDepth 100000
attribute [local go_sem] Oper.semAt_some

/-- What the loop keeps behind c bytes s. -/
def StI (g n : Nat) (w : World) (c : Nat) (s : List UInt8) (W : World) : Prop :=
  Blk W g 3 #[.int .i64 n] ∧ Blk W (g + 2) 27 #[.slice (some ⟨g + 1, 0, none⟩) c n] ∧ W.ownsRow g 5 1 (.slice (some ⟨g + 1, 0, none⟩) c n) c (vals s) ∧ Below g w W
theorem StI.below {g n : Nat} {w : World} {c : Nat} {s : List UInt8} {W W' : World} {B : Nat} (h : StI g n w c s W) (hb : Below B W W') (hB : g + 3 ≤ B) : StI g n w c s W' := by
  obtain ⟨h1, h2, h3, h4⟩ := h
  refine ⟨h1.below hb (by omega), h2.below hb (by omega), ?_, h4.trans (hb.mono (by omega))⟩
  obtain ⟨e1, ⟨e2, _⟩ | ⟨g', cap, cur, e3, e4, e5, e6⟩⟩ := h3
  · cases e2
  · cases e3
    exact ⟨e1, .inr ⟨g + 1, n, cur, rfl, e4, (hb.block _ (by omega)).trans e5, e6⟩⟩

end Go.Proofs.YtbggkfomfeeikaaGreatDoor
/-
  A row of the call's own that holds a text, and is written byte by byte.
-/
namespace Go.Proofs.YtbggkfomfeeikaaGreatDoor
open Go.RowKit Go.Shelf
set_option maxRecDepth 100000

/-- A row of the call's own that holds a text. -/
def RowI (W : World) (g len cap : Nat) (t : List UInt8) : Prop := ∃ cur : Array Value, Blk W g 5 cur ∧ cur.size = cap ∧ t.length = len ∧ len ≤ cap ∧ cur.toList.take len = vals t
theorem RowI.set_ {W : World} {g len cap : Nat} {t : List UInt8} (h : RowI W g len cap t) {j : Nat} (_hj : j < len) (y : UInt8) : RowI (W.setCell ⟨g, j, none⟩ (.int .u8 (y.toNat : Int))) g len cap (t.set j y) := by
  obtain ⟨cur, hb, hs, ht, hl, hc⟩ := h
  refine ⟨_, hb.set_ j _, by simpa using hs, by rw [List.length_set]; exact ht, hl, ?_⟩
  rw [Array.toList_setIfInBounds, List.take_set, hc, vals, vals, List.map_set]
theorem RowI.below {W W1 : World} {g len cap B : Nat} {t : List UInt8} (h : RowI W g len cap t) (hb : Below B W W1) (hg : g < B) : RowI W1 g len cap t := by
  obtain ⟨cur, h1, h2⟩ := h
  exact ⟨cur, h1.below hb hg, h2⟩
end Go.Proofs.YtbggkfomfeeikaaGreatDoor
/-
  Words for stores by value (api.Store): a disk, a table, Epoch and Count; where they lie; what calls that answer stores answer.
-/
namespace Go.Proofs.YtbggkfomfeeikaaGreatDoor
open Go.RowKit Go.Shelf
set_option maxRecDepth 100000

/-- A store: its disk, its table, its Epoch and its Count. -/
abbrev StL := DkL × List UInt8 × Nat × Nat
/-- Where its slices are. -/
structure SAt where
  d : DAt
  a : Option Addr
  c : Nat
/-- The store as a value. -/
@[reducible] def stV (x : SAt) (S : StL) : Value := .agg #[.slice x.d.ba S.1.1.length x.d.bc, .slice x.d.wa S.1.2.length x.d.wc, .slice x.a S.2.1.length x.c, .int .u32 (S.2.2.1 : Int), .int .u32 (S.2.2.2 : Int)]
/-- Its cells. -/
@[reducible] def stC (x : SAt) (S : StL) : Array Value := #[.slice x.d.ba S.1.1.length x.d.bc, .slice x.d.wa S.1.2.length x.d.wc, .slice x.a S.2.1.length x.c, .int .u32 (S.2.2.1 : Int), .int .u32 (S.2.2.2 : Int)]
/-- Its numbers fit. -/
def WfS (S : StL) : Prop := S.2.2.1 < 4294967296 ∧ S.2.2.2 < 4294967296
/-- A store that lies below block B reads as S. -/
def Str (w : World) (B : Nat) (x : SAt) (S : StL) : Prop := Dsk w B x.d S.1 ∧ Bsl w B x.a S.2.1.length x.c S.2.1
/-- It goes on reading so. -/
def StP (L : Nat) (w : World) (x : SAt) (S : StL) : Prop := Lasts L w fun W => Str W W.heap.size x S
/-- None. -/
abbrev st0 : StL := (([], []), [], 0, 0)
def at0 : SAt := ⟨⟨none, 0, none, 0⟩, none, 0⟩
theorem Str.lasts {w : World} {L : Nat} {x : SAt} {S : StL} (h : Str w L x S) (hL : L ≤ w.heap.size) : StP L w x S := (dsk_lasts h.1 hL).and (bsl_lasts h.2 hL)
theorem st0_lasts (L : Nat) (w : World) : StP L w at0 st0 := fun _ _ => ⟨⟨bls_nil _ _, wts_nil _ _⟩, ⟨rfl, Nat.le_refl _, Nat.zero_le _, fun _ => rfl, fun h => absurd h (by simp)⟩⟩
/-- A store may be. -/
def MayS (S : StL) : Prop := MayD S.1 ∧ MayT S.2.1 ∧ (1 ≤ S.2.2.1 ∧ S.2.2.1 ≤ 65535) ∧ S.2.2.2 ≤ 65535
/-- The sum of bytes. -/
def sumOf (b : List UInt8) : Nat := (fourW b).a.toNat
theorem sumOf_lt (b : List UInt8) : sumOf b < 4294967296 := (fourW b).a.isLt
/-- A block laid: a store and its pointer, if there is room. -/
def putS (S : StL) (birth iv tag : Nat) (b : List UInt8) : Option (StL × Pt) :=
  match freeTo S.2.1 256 with
  | [] => none
  | k :: _ => if 4096 ≤ S.1.2.length then none else some ((withD S.1 (k : Int) b, S.2.1.set k 1, S.2.2.1, S.2.2.2), ((k : Int), birth, iv, tag, sumOf b))
theorem putS_none {S : StL} {birth iv tag : Nat} {b : List UInt8} (h : ∀ i, i < 256 → mkT S.2.1 i ≠ 0) : putS S birth iv tag b = none := by
  have e0 : freeTo S.2.1 256 = [] := freeTo_same (p := 0) (Nat.zero_le _) fun i _ hi => h i hi
  unfold putS
  rw [e0]
theorem freeTo_head {s : List UInt8} {k : Nat} (hk : k < 256) (hz : mkT s k = 0) (h0 : ∀ i, i < k → mkT s i ≠ 0) : ∃ r, freeTo s 256 = k :: r := by
  have e1 : ∀ m, k < m → ∃ r, freeTo s m = k :: r := by
    intro m hm
    induction m with
    | zero => omega
    | succ m ih =>
      rcases Nat.lt_or_ge k m with h1 | h1
      · obtain ⟨r, hr⟩ := ih h1
        by_cases h2 : mkT s m = 0
        · exact ⟨r ++ [m], by rw [freeTo_yes h2, hr]; rfl⟩
        · exact ⟨r, by rw [freeTo_no h2, hr]⟩
      · obtain rfl : m = k := by omega
        refine ⟨[], ?_⟩
        rw [freeTo_yes hz, freeTo_same (p := 0) (Nat.zero_le _) fun i _ hi => h0 i hi]
        rfl
  exact e1 256 hk
theorem putS_great {S : StL} {birth iv tag : Nat} {b : List UInt8} (h : 4096 ≤ S.1.2.length) : putS S birth iv tag b = none := by
  unfold putS
  split
  · rfl
  · rw [if_pos h]
theorem putS_some {S : StL} {birth iv tag : Nat} {b : List UInt8} {k : Nat} (hk : k < 256) (hz : mkT S.2.1 k = 0) (h0 : ∀ i, i < k → mkT S.2.1 i ≠ 0) (hw : S.1.2.length < 4096) :
    putS S birth iv tag b = some ((withD S.1 (k : Int) b, S.2.1.set k 1, S.2.2.1, S.2.2.2), ((k : Int), birth, iv, tag, sumOf b)) := by
  obtain ⟨r, hr⟩ := freeTo_head hk hz h0
  unfold putS
  rw [hr]
  simp only
  rw [if_neg (by omega)]
/-- What is answered of what Put answers. -/
def putR : Option (StL × Pt) → StL × Pt × Nat
  | none => (st0, p0, 9)
  | some sp => (sp.1, sp.2, 0)
/-- What Raw answers: a store, a pointer, an error's number. -/
noncomputable def rawO (S : StL) (birth iv tag : Nat) (b : List UInt8) : StL × Pt × Nat :=
  open Classical in
  if MayS S then
    if 1 ≤ birth ∧ birth ≤ 16777215 then
      if b.length = 256 then
        putR (putS S birth iv tag b)
      else (st0, p0, 3)
    else (st0, p0, 2)
  else (st0, p0, 8)
/-- A block as a flush would leave it. -/
def seenS (S : StL) (k : Nat) : List UInt8 := leftD S.1 (fun _ => true) k
/-- What Look answers of a store and a pointer that may be. -/
def seenO (S : StL) (p : Pt) : List UInt8 × Nat :=
  if p = p0 then ([], 6) else if sumOf (seenS S p.1.toNat) = p.2.2.2.2 then (seenS S p.1.toNat, 0) else ([], 130)
noncomputable def lookO (S : StL) (p : Pt) : List UInt8 × Nat :=
  open Classical in if MayS S ∧ MayP p then seenO S p else ([], 8)
/-- Bytes and an error's number. -/
def OutBE (o : List UInt8 × Nat) (w : World) (e : Ending) (w' : World) : Prop := ∃ v, e = .returned (.tuple #[v, .int .i64 o.2]) ∧ w'.ownsRow w.heap.size 5 1 v o.1.length (vals o.1) ∧ Below w.heap.size w w'
theorem mayP_at {p : Pt} (h : MayP p) (hp : p ≠ p0) : ∃ k : Nat, p.1 = (k : Int) ∧ 12 ≤ k ∧ k < 256 := by
  rcases h with h | h
  · exact absurd h hp
  · exact ⟨p.1.toNat, by omega, by omega, by omega⟩
end Go.Proofs.YtbggkfomfeeikaaGreatDoor
/-
  What follows of stores as plain lists: a block laid is seen, no other changes; what was sealed is opened; what was given up is seen as before; room; numbers; a byte turned.
-/
namespace Go.Proofs.YtbggkfomfeeikaaGreatDoor
open Go.RowKit Go.Shelf
set_option maxRecDepth 100000

theorem leftD_withD (D : DkL) (p : Nat) (s : List UInt8) (q : Nat) : leftD (withD D p s) (fun _ => true) q = if q = p then s else leftD D (fun _ => true) q := by
  obtain ⟨h1, h2⟩ := wr_with D.2 (p : Int) s
  have hl : (withD D (p : Int) s).2.length = D.2.length + 1 := by simp [withD]
  have he : (withD D (p : Int) s).2 = D.2 ++ [((p : Int), s)] := rfl
  unfold leftD
  rw [hl, he, lastTo, h2]
  by_cases e : q = p
  · subst e
    rw [if_pos ⟨rfl, rfl⟩, if_pos rfl]
    simp only
    rw [h2]
  · rw [if_neg (fun h => e (by have := h.2; simp only at this; omega)), if_neg e]
    have hc : lastTo (D.2 ++ [((p : Int), s)]) (fun _ => true) (q : Int) D.2.length = lastTo D.2 (fun _ => true) (q : Int) D.2.length := lastTo_congr (fun i hi => by rw [h1 i hi])
    rw [hc]
    cases hx : lastTo D.2 (fun _ => true) (q : Int) D.2.length with
    | none => rfl
    | some i => simp only; rw [h1 i (lastTo_lt hx).1]

/-- A store with a block laid. -/
@[reducible] def putAt (S : StL) (k : Nat) (b : List UInt8) : StL := (withD S.1 (k : Int) b, S.2.1.set k 1, S.2.2.1, S.2.2.2)
theorem seenS_put (S : StL) (k : Nat) (b : List UInt8) (q : Nat) : seenS (putAt S k b) q = if q = k then b else seenS S q := leftD_withD S.1 k b q

theorem free_first {s : List UInt8} {k : Nat} {r : List Nat} (h : freeTo s 256 = k :: r) : k < 256 ∧ mkT s k = 0 ∧ ∀ i, i < k → mkT s i ≠ 0 := by
  have h1 : k ∈ freeTo s 256 := by rw [h]; exact List.mem_cons_self
  obtain ⟨a, b⟩ := freeTo_mem.1 h1
  refine ⟨a, b, fun i hi hz => ?_⟩
  rcases first_from (fun i => mkT s i = 0) 0 256 with ⟨j, _, hj, hjz, hjm⟩ | hn
  · obtain ⟨r', hr'⟩ := freeTo_head hj hjz fun i hi => hjm i (Nat.zero_le _) hi
    rw [h] at hr'
    cases hr'
    exact hjm i (Nat.zero_le _) hi hz
  · exact hn k (Nat.zero_le _) a b
theorem putS_cases {S : StL} (h : MayT S.2.1) (birth iv tag : Nat) (b : List UInt8) : (putS S birth iv tag b = none ∧ (freeTo S.2.1 256 = [] ∨ 4096 ≤ S.1.2.length)) ∨
    ∃ k r, (12 ≤ k ∧ k < 256) ∧ mkT S.2.1 k = 0 ∧ (∀ i, i < k → mkT S.2.1 i ≠ 0) ∧ S.1.2.length < 4096 ∧ freeTo S.2.1 256 = k :: r ∧ putS S birth iv tag b = some (putAt S k b, ((k : Int), birth, iv, tag, sumOf b)) := by
  cases hf : freeTo S.2.1 256 with
  | nil => exact .inl ⟨by unfold putS; rw [hf], .inl rfl⟩
  | cons k r =>
    obtain ⟨h1, h2, h3⟩ := free_first hf
    rcases Nat.lt_or_ge S.1.2.length 4096 with hw | hw
    · exact .inr ⟨k, r, ⟨h.free_ge (by omega), h1⟩, h2, h3, hw, rfl, putS_some h1 h2 h3 hw⟩
    · exact .inl ⟨putS_great hw, .inr hw⟩

/-! What may be. -/
theorem putAt_may {S : StL} (h : MayS S) {k : Nat} (hk : 12 ≤ k ∧ k < 256) {b : List UInt8} (hb : b.length = 256) (hw : S.1.2.length < 4096) : MayS (putAt S k b) :=
  ⟨with_may h.1 (by omega) hb (by omega), set_may h.2.1 hk.1 hk.2 1 (by decide), h.2.2⟩
theorem ptr_may {k birth : Nat} (hk : 12 ≤ k ∧ k < 256) (hb : 1 ≤ birth ∧ birth ≤ 16777215) (iv tag s : Nat) : MayP ((k : Int), birth, iv, tag, s) := .inr ⟨by simp only; omega, hb⟩
theorem ptr_not {k birth : Nat} (hb : 1 ≤ birth) (iv tag s : Nat) : (((k : Int), birth, iv, tag, s) : Pt) ≠ p0 := fun e => by
  have : birth = 0 := congrArg (fun p : Pt => p.2.1) e
  omega

/-! What is seen. -/
theorem seenO_put (S : StL) {k birth : Nat} (hb : 1 ≤ birth) (iv tag : Nat) (b : List UInt8) : seenO (putAt S k b) ((k : Int), birth, iv, tag, sumOf b) = (b, 0) := by
  unfold seenO
  rw [if_neg (ptr_not hb _ _ _)]
  have e : seenS (putAt S k b) ((k : Int)).toNat = b := by rw [seenS_put, if_pos (Int.toNat_natCast k)]
  simp only
  rw [e, if_pos rfl]
theorem seenO_far (S : StL) {k : Nat} {b : List UInt8} {p : Pt} (hp : MayP p) (h : p.1 ≠ (k : Int)) : seenO (putAt S k b) p = seenO S p := by
  unfold seenO
  by_cases h0 : p = p0
  · rw [if_pos h0, if_pos h0]
  · obtain ⟨j, h1, _, _⟩ := mayP_at hp h0
    have hj : p.1.toNat ≠ k := by omega
    rw [if_neg h0, if_neg h0, seenS_put, if_neg hj]
theorem lookO_may {S : StL} {p : Pt} (h : MayS S) (hp : MayP p) : lookO S p = seenO S p := by unfold lookO; rw [if_pos ⟨h, hp⟩]
theorem put_mark {S : StL} {k i : Nat} {b : List UInt8} (hl : S.2.1.length = 256) (hk : k < 256) : mkT (putAt S k b).2.1 i = if i = k then 1 else mkT S.2.1 i := mkT_set S.2.1 k 1 i (by omega)

/-! What the four that lay answer. -/
theorem rawO_cases (S : StL) (birth iv tag : Nat) (b : List UInt8) : (∃ e, rawO S birth iv tag b = (st0, p0, e) ∧ e ≠ 0 ∧ (MayS S → 1 ≤ birth ∧ birth ≤ 16777215 → b.length = 256 → freeTo S.2.1 256 = [] ∨ 4096 ≤ S.1.2.length)) ∨
    (∃ k r, MayS S ∧ (1 ≤ birth ∧ birth ≤ 16777215) ∧ b.length = 256 ∧ (12 ≤ k ∧ k < 256) ∧ mkT S.2.1 k = 0 ∧ S.1.2.length < 4096 ∧ freeTo S.2.1 256 = k :: r ∧ rawO S birth iv tag b = (putAt S k b, ((k : Int), birth, iv, tag, sumOf b), 0)) := by
  by_cases h1 : MayS S
  · by_cases h2 : 1 ≤ birth ∧ birth ≤ 16777215
    · by_cases h3 : b.length = 256
      · rcases putS_cases h1.2.1 birth iv tag b with ⟨h, hn⟩ | ⟨k, r, hk, hz, _, hw, hf, h⟩
        · exact .inl ⟨9, by unfold rawO; rw [if_pos h1, if_pos h2, if_pos h3, h]; rfl, by decide, fun _ _ _ => hn⟩
        · exact .inr ⟨k, r, h1, h2, h3, hk, hz, hw, hf, by unfold rawO; rw [if_pos h1, if_pos h2, if_pos h3, h]; rfl⟩
      · exact .inl ⟨3, by unfold rawO; rw [if_pos h1, if_pos h2, if_neg h3], by decide, fun _ _ h => absurd h h3⟩
    · exact .inl ⟨2, by unfold rawO; rw [if_pos h1, if_neg h2], by decide, fun _ h _ => absurd h h2⟩
  · exact .inl ⟨8, by unfold rawO; rw [if_neg h1], by decide, fun h _ _ => absurd h h1⟩
end Go.Proofs.YtbggkfomfeeikaaGreatDoor
/-
  ptr.mayBe, ptr.put and ptr.get, whatever pointer and whichever sixteen bytes they are handed; nothing that was there is written.
-/
namespace Go.Proofs.YtbggkfomfeeikaaGreatDoor
open Go.RowKit Go.Shelf
set_option maxRecDepth 100000

/-- The sizes lie where the program's initialiser laid them. -/
def Szs (w : World) : Prop := 0 < w.heap.size ∧ w.cell? ⟨0, 0, none⟩ = some (.int .i64 1) ∧ w.cell? ⟨0, 1, none⟩ = some (.int .i64 3) ∧ w.cell? ⟨0, 2, none⟩ = some (.int .i64 4) ∧ w.cell? ⟨0, 3, none⟩ = some (.int .i64 4) ∧ w.cell? ⟨0, 4, none⟩ = some (.int .i64 4)
theorem Szs.below {B : Nat} {w w' : World} (h : Szs w) (hb : Below B w w') (hB : 0 < B) : Szs w' := by
  obtain ⟨h0, h1, h2, h3, h4, h5⟩ := h
  exact ⟨Nat.lt_of_lt_of_le h0 hb.size, (hb.cell (p := ⟨0, 0, none⟩) hB).trans h1, (hb.cell (p := ⟨0, 1, none⟩) hB).trans h2, (hb.cell (p := ⟨0, 2, none⟩) hB).trans h3, (hb.cell (p := ⟨0, 3, none⟩) hB).trans h4, (hb.cell (p := ⟨0, 4, none⟩) hB).trans h5⟩
theorem Szs.step {w w' : World} (h : Szs w) (hb : Below w.heap.size w w') : Szs w' := h.below hb h.1

theorem szIdx0 (W : World) : (Instr.index 148 (.agg #[.int .i64 1, .int .i64 3, .int .i64 4, .int .i64 4, .int .i64 4]) (.int .i64 0)).run Tryz.prog W = .ok (.int .i64 1) W := by kernel_rfl
theorem szIdx1 (W : World) : (Instr.index 148 (.agg #[.int .i64 1, .int .i64 3, .int .i64 4, .int .i64 4, .int .i64 4]) (.int .i64 1)).run Tryz.prog W = .ok (.int .i64 3) W := by kernel_rfl
theorem szIdx2 (W : World) : (Instr.index 148 (.agg #[.int .i64 1, .int .i64 3, .int .i64 4, .int .i64 4, .int .i64 4]) (.int .i64 2)).run Tryz.prog W = .ok (.int .i64 4) W := by kernel_rfl
theorem szIdx3 (W : World) : (Instr.index 148 (.agg #[.int .i64 1, .int .i64 3, .int .i64 4, .int .i64 4, .int .i64 4]) (.int .i64 3)).run Tryz.prog W = .ok (.int .i64 4) W := by kernel_rfl
theorem szIdx4 (W : World) : (Instr.index 148 (.agg #[.int .i64 1, .int .i64 3, .int .i64 4, .int .i64 4, .int .i64 4]) (.int .i64 4)).run Tryz.prog W = .ok (.int .i64 4) W := by kernel_rfl
/-- A pointer's bytes. -/
def bytesP (p : Pt) : List UInt8 := leB 1 p.1.toNat ++ leB 3 p.2.1 ++ leB 4 p.2.2.1 ++ leB 4 p.2.2.2.1 ++ leB 4 p.2.2.2.2
theorem bytesP_length (p : Pt) : (bytesP p).length = 16 := by simp [bytesP, leB_length]
/-- The pointer whose bytes these are. -/
def getP (s : List UInt8) : Pt := (((leN ((s.drop 0).take 1) : Nat) : Int), leN ((s.drop 1).take 3), leN ((s.drop 4).take 4), leN ((s.drop 8).take 4), leN ((s.drop 12).take 4))
theorem leN_le (s : List UInt8) (i k : Nat) : leN ((s.drop i).take k) < 256 ^ k :=
  Nat.lt_of_lt_of_le (leN_lt _) (Nat.pow_le_pow_right (by omega) (by simp; omega))
theorem wf_getP (s : List UInt8) : WfP (getP s) := by
  have h0 := leN_le s 0 1
  have h1 := leN_le s 1 3
  have h2 := leN_le s 4 4
  have h3 := leN_le s 8 4
  have h4 := leN_le s 12 4
  refine ⟨⟨?_, ?_⟩, ?_, ?_, ?_, ?_⟩ <;> simp only [getP] <;> omega
/-- A pointer that may be has numbers that have room. -/
theorem MayP.room {p : Pt} (h : MayP p) : (0 ≤ p.1 ∧ p.1 < 256) ∧ p.2.1 < 16777216 := by
  rcases h with rfl | ⟨⟨h1, h2⟩, h3, h4⟩
  · decide
  · omega
theorem getP_bytesP {p : Pt} (h : MayP p) (hw : WfP p) : getP (bytesP p) = p := by
  obtain ⟨⟨h1, h2⟩, h3⟩ := h.room
  obtain ⟨_, _, h4, h5, h6⟩ := hw
  obtain ⟨a, b, c, d, e⟩ := p
  dsimp only at h1 h2 h3 h4 h5 h6
  have e0 : ((bytesP (a, b, c, d, e)).drop 0).take 1 = leB 1 a.toNat := by simp [bytesP, leB_length]
  have l1 := leB_length 1 a.toNat
  have l2 := leB_length 3 b
  have l3 := leB_length 4 c
  have l4 := leB_length 4 d
  have l5 := leB_length 4 e
  have cut : ∀ (A B C : List UInt8) (i k : Nat), A.length = i → B.length = k → ((A ++ (B ++ C)).drop i).take k = B := fun A B C i k h1 h2 => by
    subst h1; subst h2; simp
  have e1 : ((bytesP (a, b, c, d, e)).drop 1).take 3 = leB 3 b := by
    have := cut (leB 1 a.toNat) (leB 3 b) (leB 4 c ++ leB 4 d ++ leB 4 e) 1 3 l1 l2
    simpa [bytesP] using this
  have e2 : ((bytesP (a, b, c, d, e)).drop 4).take 4 = leB 4 c := by
    have := cut (leB 1 a.toNat ++ leB 3 b) (leB 4 c) (leB 4 d ++ leB 4 e) 4 4 (by simp [leB_length]) l3
    simpa [bytesP] using this
  have e3 : ((bytesP (a, b, c, d, e)).drop 8).take 4 = leB 4 d := by
    have := cut (leB 1 a.toNat ++ leB 3 b ++ leB 4 c) (leB 4 d) (leB 4 e) 8 4 (by simp [leB_length]) l4
    simpa [bytesP] using this
  have e4 : ((bytesP (a, b, c, d, e)).drop 12).take 4 = leB 4 e := by
    have := cut (leB 1 a.toNat ++ leB 3 b ++ leB 4 c ++ leB 4 d) (leB 4 e) [] 12 4 (by simp [leB_length]) l5
    simpa [bytesP] using this
  rw [getP, e0, e1, e2, e3, e4, leN_leB 1 _ (by omega), leN_leB 3 _ (by omega), leN_leB 4 _ (by omega), leN_leB 4 _ (by omega), leN_leB 4 _ (by omega)]
  have : ((a.toNat : Nat) : Int) = a := by omega
  rw [this]
theorem bytesP_getP {s : List UInt8} (h : s.length = 16) : bytesP (getP s) = s := by
  have back : ∀ (i k : Nat), i + k ≤ 16 → leB k (leN ((s.drop i).take k)) = (s.drop i).take k := fun i k hk => by
    have := leB_leN ((s.drop i).take k)
    rwa [win_length (by omega)] at this
  have e0 : (((leN ((s.drop 0).take 1) : Nat) : Int)).toNat = leN ((s.drop 0).take 1) := by omega
  simp only [bytesP, getP]
  rw [e0, back 0 1 (by omega), back 1 3 (by omega), back 4 4 (by omega), back 8 4 (by omega), back 12 4 (by omega)]
  have j : ∀ i k, s.take i ++ (s.drop i).take k = s.take (i + k) := fun i k => List.take_add.symm
  rw [List.drop_zero, j 1 3, j 4 4, j 8 4, j 12 4]
  exact List.take_of_length_le (by omega)

theorem isTaken_any (a : Int) (w : World) : Calls Tryz.prog 107 #[.int .i64 a] w fun e w' => e = .returned (.bool (decide (12 ≤ a ∧ a < 256))) ∧ w = w' := by
  by_cases h : 12 ≤ a
  · by_cases h2 : a < 256
    · rw [decide_eq_true (And.intro h h2)]
      go_enter Tryz.func107, Tryz.ntmps107
      go_wp2_with fail
      go_ret
      exact ⟨rfl, rfl⟩
    · rw [decide_eq_false (fun hh : 12 ≤ a ∧ a < 256 => h2 hh.2)]
      go_enter Tryz.func107, Tryz.ntmps107
      go_wp2_with fail
      go_ret
      exact ⟨rfl, rfl⟩
  · rw [decide_eq_false (fun hh : 12 ≤ a ∧ a < 256 => h hh.1)]
    go_enter Tryz.func107, Tryz.ntmps107
    go_wp2_with fail
    go_ret
    exact ⟨rfl, rfl⟩
theorem isSync_any (b : Nat) (w : World) : Calls Tryz.prog 108 #[.int .u32 (b : Int)] w fun e w' => e = .returned (.bool (decide (1 ≤ b ∧ b ≤ 16777215))) ∧ w = w' := by
  by_cases h : 1 ≤ b
  · by_cases h2 : b ≤ 16777215
    · rw [decide_eq_true (And.intro h h2)]
      have i1 : (1 : Int) ≤ (b : Int) := by omega
      have i2 : (b : Int) ≤ 16777215 := by omega
      go_enter Tryz.func108, Tryz.ntmps108
      go_wp2_with fail
      go_ret
      exact ⟨rfl, rfl⟩
    · rw [decide_eq_false (fun hh : 1 ≤ b ∧ b ≤ 16777215 => h2 hh.2)]
      have i1 : (1 : Int) ≤ (b : Int) := by omega
      have i2 : ¬ (b : Int) ≤ 16777215 := by omega
      go_enter Tryz.func108, Tryz.ntmps108
      go_wp2_with fail
      go_ret
      exact ⟨rfl, rfl⟩
  · rw [decide_eq_false (fun hh : 1 ≤ b ∧ b ≤ 16777215 => h hh.1)]
    have i1 : ¬ (1 : Int) ≤ (b : Int) := by omega
    go_enter Tryz.func108, Tryz.ntmps108
    go_wp2_with fail
    go_ret
    exact ⟨rfl, rfl⟩
theorem mayBe_any (p : Pt) (w : World) : Calls Tryz.prog 77 #[ptV p] w fun e w' => e = .returned (.bool (decide (MayP p))) ∧ Below w.heap.size w w' := by
  obtain ⟨a, b, c, d, e⟩ := p
  have heq := eqPt_zero a b c d e
  by_cases h0 : eqP (a, b, c, d, e) p0 = true
  · have hm : decide (MayP (a, b, c, d, e)) = true := decide_eq_true (.inl ((eqP_iff _ _).1 h0))
    rw [hm]
    rw [h0] at heq
    go_enter Tryz.func77, Tryz.ntmps77
    go_wp2_with fail
    go_ret
    exact ⟨rfl, (Below.refl _ w).alloc (Nat.le_refl _) _⟩
  · have h0' : eqP (a, b, c, d, e) p0 = false := by simpa using h0
    rw [h0'] at heq
    have hne : (a, b, c, d, e) ≠ p0 := fun hh => h0 ((eqP_iff _ _).2 hh)
    by_cases h1 : 12 ≤ a ∧ a < 256
    · have hm : decide (MayP (a, b, c, d, e)) = decide (1 ≤ b ∧ b ≤ 16777215) := by
        rw [decide_eq_decide]
        exact ⟨fun hh => (hh.resolve_left hne).2, fun hh => .inr ⟨h1, hh⟩⟩
      rw [hm]
      have ht := isTaken_any a
      rw [decide_eq_true h1] at ht
      have hs := isSync_any b
      obtain ⟨r, hr⟩ : ∃ r, decide (1 ≤ b ∧ b ≤ 16777215) = r := ⟨_, rfl⟩
      rw [hr] at hs ⊢
      clear hm hr h1 hne h0 h0'
      go_enter Tryz.func77, Tryz.ntmps77
      go_wp2_with (first | (go_at_call 107; refine (ht _).mono ?_; rintro e w' ⟨rfl, rfl⟩) | (go_at_call 108; refine (hs _).mono ?_; rintro e w' ⟨rfl, rfl⟩))
      go_ret
      exact ⟨rfl, (Below.refl _ w).alloc (Nat.le_refl _) _⟩
    · have hm : decide (MayP (a, b, c, d, e)) = false := decide_eq_false fun hh => h1 (hh.resolve_left hne).1
      rw [hm]
      have ht := isTaken_any a
      rw [decide_eq_false h1] at ht
      clear hm h1 hne h0 h0'
      go_enter Tryz.func77, Tryz.ntmps77
      go_wp2_with (go_at_call 107; refine (ht _).mono ?_; rintro e w' ⟨rfl, rfl⟩)
      go_ret
      exact ⟨rfl, (Below.refl _ w).alloc (Nat.le_refl _) _⟩
end Go.Proofs.YtbggkfomfeeikaaGreatDoor
/-
  Words for objects by value (api.Object): kind, names, size, pointers; their blocks as bytes; what is written is read as it was, and the other way round.
-/
namespace Go.Proofs.YtbggkfomfeeikaaGreatDoor
open Go.RowKit Go.Shelf
set_option maxRecDepth 100000

/-- An object: Kind, Links, Size, Data. -/
abbrev ObL := Nat × Int × Int × List Pt
/-- The object as a value. -/
@[reducible] def obV (a : Option Addr) (c : Nat) (O : ObL) : Value := .agg #[.int .u8 (O.1 : Int), .int .i64 O.2.1, .int .i64 O.2.2.1, .slice a O.2.2.2.length c]
/-- Its numbers fit. -/
def WfOb (O : ObL) : Prop := O.1 < 256 ∧ (-9223372036854775808 ≤ O.2.1 ∧ O.2.1 ≤ 9223372036854775807) ∧ (-9223372036854775808 ≤ O.2.2.1 ∧ O.2.2.1 ≤ 9223372036854775807)
/-- None. -/
abbrev ob0 : ObL := (0, 0, 0, [])
/-- All but its pointers may be. -/
def HeadOb (O : ObL) : Prop := (1 ≤ O.1 ∧ O.1 ≤ 7) ∧ (0 ≤ O.2.1 ∧ O.2.1 ≤ 255) ∧ (0 ≤ O.2.2.1 ∧ O.2.2.1 ≤ 3840) ∧ O.2.2.2.length = 15
instance (O : ObL) : Decidable (HeadOb O) := by unfold HeadOb; exact inferInstance
/-- An object may be. -/
def MayOb (O : ObL) : Prop := HeadOb O ∧ ∀ p ∈ O.2.2.2, MayP p
instance (O : ObL) : Decidable (MayOb O) := by unfold MayOb; exact inferInstance
/-- The bytes of the first k pointers. -/
def dataTo (L : List Pt) (k : Nat) : List UInt8 := (List.range k).flatMap fun i => bytesP (L.getD i p0)
theorem dataTo_length (L : List Pt) : ∀ k, (dataTo L k).length = 16 * k
  | 0 => rfl
  | k + 1 => by
    have := dataTo_length L k
    unfold dataTo at this ⊢
    rw [List.range_succ, List.flatMap_append, List.length_append, this]
    simp [bytesP_length]
    omega
theorem dataTo_step (L : List Pt) (k : Nat) : dataTo L (k + 1) = dataTo L k ++ bytesP (L.getD k p0) := by
  unfold dataTo
  rw [List.range_succ, List.flatMap_append]
  simp
theorem dataTo_win (L : List Pt) : ∀ (k i : Nat), i < k → ((dataTo L k).drop (16 * i)).take 16 = bytesP (L.getD i p0)
  | 0, i, h => absurd h (Nat.not_lt_zero _)
  | k + 1, i, h => by
    rw [dataTo_step]
    have hl := dataTo_length L k
    by_cases hk : i = k
    · subst hk
      rw [← hl, List.drop_left, List.take_of_length_le (by rw [bytesP_length]; exact Nat.le_refl _)]
    · have hi : i < k := by omega
      rw [List.drop_append_of_le_length (by omega), List.take_append_of_le_length (by rw [List.length_drop]; omega)]
      exact dataTo_win L k i hi
/-- The first four bytes. -/
def headB (O : ObL) : List UInt8 := [UInt8.ofNat O.1, UInt8.ofNat O.2.1.toNat, UInt8.ofNat (O.2.2.1.toNat % 256), UInt8.ofNat (O.2.2.1.toNat / 256)]
/-- The block of an object. -/
def blockOb (O : ObL) : List UInt8 := headB O ++ List.replicate 12 0 ++ dataTo O.2.2.2 15
theorem blockOb_length (O : ObL) : (blockOb O).length = 256 := by simp [blockOb, headB, dataTo_length]
/-- What Write answers. -/
def owriteO (O : ObL) : List UInt8 × Nat := if MayOb O then (blockOb O, 0) else ([], 8)
/-- The window of a pointer in a block. -/
def winOb (b : List UInt8) (i : Nat) : List UInt8 := (b.drop (16 + 16 * i)).take 16
/-- The pointers of a block. -/
def ptsOb (b : List UInt8) (k : Nat) : List Pt := (List.range k).map fun i => getP (winOb b i)
theorem ptsOb_length (b : List UInt8) (k : Nat) : (ptsOb b k).length = k := by simp [ptsOb]
theorem ptsOb_wf (b : List UInt8) (k : Nat) : ∀ p ∈ ptsOb b k, WfP p := by
  intro p hp
  obtain ⟨i, _, rfl⟩ := List.mem_map.1 hp
  exact wf_getP _
/-- The head that a block tells. -/
def headOb (b : List UInt8) : Nat × Int × Int := ((b.getD 0 0).toNat, ((b.getD 1 0).toNat : Int), ((b.getD 2 0).toNat : Int) + 256 * ((b.getD 3 0).toNat : Int))
/-- The object that a block tells. -/
def decOb (b : List UInt8) : ObL := ((headOb b).1, (headOb b).2.1, (headOb b).2.2, ptsOb b 15)
/-- What Read answers. -/
def oreadO (b : List UInt8) : ObL × Nat := if b.length = 256 then (if MayOb (decOb b) ∧ blockOb (decOb b) = b then (decOb b, 0) else (ob0, 8)) else (ob0, 3)
theorem decOb_wf (b : List UInt8) : WfOb (decOb b) := by
  have h0 := (b.getD 0 0).toNat_lt
  have h1 := (b.getD 1 0).toNat_lt
  have h2 := (b.getD 2 0).toNat_lt
  have h3 := (b.getD 3 0).toNat_lt
  unfold WfOb decOb headOb
  refine ⟨h0, ⟨?_, ?_⟩, ?_, ?_⟩ <;> simp only <;> omega
theorem ob8_of (n : Nat) (h : n < 256) : (UInt8.ofNat n).toNat = n := by
  rw [UInt8.toNat_ofNat']
  exact Nat.mod_eq_of_lt h
theorem dec_block {O : ObL} (h : MayOb O) (hw : ∀ p ∈ O.2.2.2, WfP p) : decOb (blockOb O) = O := by
  obtain ⟨⟨h1, h2, h3, h4⟩, h5⟩ := h
  obtain ⟨k, l, s, L⟩ := O
  simp only at h1 h2 h3 h4 h5 hw
  have e0 : (blockOb (k, l, s, L)).getD 0 0 = UInt8.ofNat k := rfl
  have e1 : (blockOb (k, l, s, L)).getD 1 0 = UInt8.ofNat l.toNat := rfl
  have e2 : (blockOb (k, l, s, L)).getD 2 0 = UInt8.ofNat (s.toNat % 256) := rfl
  have e3 : (blockOb (k, l, s, L)).getD 3 0 = UInt8.ofNat (s.toNat / 256) := rfl
  have ed : ptsOb (blockOb (k, l, s, L)) 15 = L := by
    apply List.ext_getElem (by rw [ptsOb_length, h4])
    intro i hi1 hi2
    have hi : i < 15 := by rw [ptsOb_length] at hi1; exact hi1
    have ew : winOb (blockOb (k, l, s, L)) i = bytesP L[i] := by
      have hd : (blockOb (k, l, s, L)).drop (16 + 16 * i) = (dataTo L 15).drop (16 * i) := by
        unfold blockOb
        rw [List.drop_append, List.drop_of_length_le (by simp [headB])]
        simp [headB]
      unfold winOb
      rw [hd, dataTo_win L 15 i hi, List.getD_eq_getElem?_getD, List.getElem?_eq_getElem hi2]
      rfl
    have hm := h5 L[i] (List.getElem_mem hi2)
    have hwf := hw L[i] (List.getElem_mem hi2)
    simp only [ptsOb, List.getElem_map, List.getElem_range]
    rw [ew, getP_bytesP hm hwf]
  unfold decOb headOb
  rw [e0, e1, e2, e3, ed, ob8_of _ (by omega), ob8_of _ (by omega), ob8_of _ (by omega), ob8_of _ (by omega)]
  simp only [Prod.mk.injEq]
  exact ⟨trivial, by omega, by omega, trivial⟩
theorem read_block {O : ObL} (h : MayOb O) (hw : ∀ p ∈ O.2.2.2, WfP p) : oreadO (blockOb O) = (O, 0) := by
  unfold oreadO
  rw [dec_block h hw, if_pos (blockOb_length O), if_pos ⟨h, rfl⟩]
theorem oreadO_cases (b : List UInt8) : (∃ e, oreadO b = (ob0, e) ∧ e ≠ 0) ∨ (b.length = 256 ∧ MayOb (decOb b) ∧ blockOb (decOb b) = b ∧ oreadO b = (decOb b, 0)) := by
  unfold oreadO
  by_cases h : b.length = 256
  · rw [if_pos h]
    by_cases h2 : MayOb (decOb b) ∧ blockOb (decOb b) = b
    · rw [if_pos h2]
      exact .inr ⟨h, h2.1, h2.2, rfl⟩
    · rw [if_neg h2]
      exact .inl ⟨8, rfl, by decide⟩
  · rw [if_neg h]
    exact .inl ⟨3, rfl, by decide⟩
end Go.Proofs.YtbggkfomfeeikaaGreatDoor
/-
  ptr.put: the bytes of a pointer whose numbers have room, in a row of the call's own.
-/
namespace Go.Proofs.YtbggkfomfeeikaaGreatDoor
open Go.RowKit Go.Shelf
set_option maxRecDepth 100000

/-- make([]byte, 0, 16). -/
theorem make_room (n : Nat) (hn : n ≤ 1000000) (W : World) : (Instr.makeSlice 27 (.int .i64 0) (.int .i64 (n : Int))).run Tryz.prog W = .ok (.slice (some ⟨W.heap.size, 0, none⟩) 0 n) (W.alloc (.cells (Array.replicate n (.int .u8 0)) 5)) := by
  obtain ⟨i0, hi, hz0, hz1, hz2⟩ := info_parts infoU8
  have hr := run_make (P := Tryz.prog) W 27 5 i0 (.int .u8 0) Tryz.underlying27 hi hz0 .i64 .i64 0 n (by omega) (by omega) (by rw [hz2]; omega) (by omega)
  rw [hz1] at hr
  simp only [Int.toNat_natCast] at hr
  have e : madeCells (Value.int .u8 0).cells (n * 1) = Array.replicate n (Value.int .u8 0) := by
    apply Array.ext
    · simp [size_madeCells]
    · intro i h1 h2
      simp [madeCells, Value.cells, Nat.mod_one]
  rw [e] at hr
  exact hr
theorem own_room0 (w : World) (n : Nat) (hn : n ≤ 1000000) : (w.alloc (.cells (Array.replicate n (.int .u8 0)) 5)).ownsRow w.heap.size 5 1 (.slice (some ⟨w.heap.size, 0, none⟩) 0 n) 0 (vals []) :=
  ⟨rfl, .inr ⟨w.heap.size, n, _, rfl, Nat.le_refl _, heap_alloc_new w _, Nat.zero_le _, by unfold maxLen; omega, by simp, rfl⟩⟩
/-- The bytes of the first numbers. -/
def putTo (p : Pt) : Nat → List UInt8
  | 0 => []
  | 1 => leB 1 p.1.toNat
  | 2 => leB 1 p.1.toNat ++ leB 3 p.2.1
  | 3 => leB 1 p.1.toNat ++ leB 3 p.2.1 ++ leB 4 p.2.2.1
  | 4 => leB 1 p.1.toNat ++ leB 3 p.2.1 ++ leB 4 p.2.2.1 ++ leB 4 p.2.2.2.1
  | _ => bytesP p
/-- How many bytes the first numbers have. -/
def stP : Nat → Nat
  | 0 => 0
  | 1 => 1
  | 2 => 4
  | 3 => 8
  | 4 => 12
  | _ => 16
set_option maxHeartbeats 1000000 in
theorem put_any (p : Pt) (hw : WfP p) (hroom : (0 ≤ p.1 ∧ p.1 < 256) ∧ p.2.1 < 16777216) (w : World) (hz : Szs w) : Calls Tryz.prog 78 #[ptV p] w (OwnV 16 (bytesP p) w) := by
  obtain ⟨a, b, c, d, e⟩ := p
  obtain ⟨_, _, h4, h5, h6⟩ := hw
  obtain ⟨⟨h1, h2⟩, h3⟩ := hroom
  dsimp only at h1 h2 h3 h4 h5 h6
  obtain ⟨A, rfl⟩ := Int.eq_ofNat_of_zero_le h1
  have i1 : (0 : Int) ≤ (b : Int) := by omega
  have i2 : (b : Int) ≤ 4294967295 := by omega
  have i3 : (0 : Int) ≤ (c : Int) := by omega
  have i4 : (c : Int) ≤ 4294967295 := by omega
  have i5 : (0 : Int) ≤ (d : Int) := by omega
  have i6 : (d : Int) ≤ 4294967295 := by omega
  have i7 : (0 : Int) ≤ (e : Int) := by omega
  have i8 : (e : Int) ≤ 4294967295 := by omega
  have hmk : ∀ W : World, (Instr.makeSlice 27 (.int .i64 0) (.int .i64 16)).run Tryz.prog W = _ := make_room 16 (by omega)
  have HZ := Lib.hid hz; clear hz
  obtain ⟨g, hg⟩ : ∃ g, w.heap.size = g := ⟨_, rfl⟩
  have HG := Lib.hid hg
  have hz3 := HZ.out.2
  obtain ⟨z0, z1, z2, z3, z4⟩ := hz3
  have y0 : ∀ o1 o2 o3 : Obj, (((w.alloc o1).alloc o2).alloc o3).cell? ⟨0, 0, none⟩ = some (.int .i64 1) := fun o1 o2 o3 => (HZ.out.step (below_alloc3' w o1 o2 o3)).2.1
  have y1 : ∀ o1 o2 o3 : Obj, (((w.alloc o1).alloc o2).alloc o3).cell? ⟨0, 1, none⟩ = some (.int .i64 3) := fun o1 o2 o3 => (HZ.out.step (below_alloc3' w o1 o2 o3)).2.2.1
  have y2 : ∀ o1 o2 o3 : Obj, (((w.alloc o1).alloc o2).alloc o3).cell? ⟨0, 2, none⟩ = some (.int .i64 4) := fun o1 o2 o3 => (HZ.out.step (below_alloc3' w o1 o2 o3)).2.2.2.1
  have y3 : ∀ o1 o2 o3 : Obj, (((w.alloc o1).alloc o2).alloc o3).cell? ⟨0, 3, none⟩ = some (.int .i64 4) := fun o1 o2 o3 => (HZ.out.step (below_alloc3' w o1 o2 o3)).2.2.2.2.1
  have y4 : ∀ o1 o2 o3 : Obj, (((w.alloc o1).alloc o2).alloc o3).cell? ⟨0, 4, none⟩ = some (.int .i64 4) := fun o1 o2 o3 => (HZ.out.step (below_alloc3' w o1 o2 o3)).2.2.2.2.2
  clear z0 z1 z2 z3 z4
  go_enter Tryz.func78, Tryz.ntmps78
  go_wp2_with fail
  clear y0 y1 y2 y3 y4
  go_loopw [4, 26] (fun v i wr => ∃ j : Nat, j ≤ 5 ∧ i = .int .i64 j ∧ wr.ownsRow (g + 2) 5 1 v (stP j) (vals (putTo (A, b, c, d, e) j)) ∧ Below g w wr ∧ Blk wr (g + 1) 148 #[.int .i64 (A : Int), .int .i64 (b : Int), .int .i64 (c : Int), .int .i64 (d : Int), .int .i64 (e : Int)] ∧ g + 3 ≤ wr.heap.size)
    (fun _ i _ => 5 - (intOf i).toNat)
  case atStart =>
    have hz2 : ((w.alloc (Obj.cells #[Value.int IntKind.i64 (A : Int), Value.int IntKind.u32 (b : Int), Value.int IntKind.u32 (c : Int), Value.int IntKind.u32 (d : Int), Value.int IntKind.u32 (e : Int)] 32)).alloc (Obj.cells #[Value.int IntKind.i64 (A : Int), Value.int IntKind.i64 (b : Int), Value.int IntKind.i64 (c : Int), Value.int IntKind.i64 (d : Int), Value.int IntKind.i64 (e : Int)] 148)).heap.size = g + 2 := by simp [hg]
    have hz1 : (w.alloc (Obj.cells #[Value.int IntKind.i64 (A : Int), Value.int IntKind.u32 (b : Int), Value.int IntKind.u32 (c : Int), Value.int IntKind.u32 (d : Int), Value.int IntKind.u32 (e : Int)] 32)).heap.size = g + 1 := by simp [hg]
    refine ⟨0, by omega, rfl, ?_, ?_, ?_, ?_⟩
    · have := own_room0 ((w.alloc (Obj.cells #[Value.int IntKind.i64 (A : Int), Value.int IntKind.u32 (b : Int), Value.int IntKind.u32 (c : Int), Value.int IntKind.u32 (d : Int), Value.int IntKind.u32 (e : Int)] 32)).alloc (Obj.cells #[Value.int IntKind.i64 (A : Int), Value.int IntKind.i64 (b : Int), Value.int IntKind.i64 (c : Int), Value.int IntKind.i64 (d : Int), Value.int IntKind.i64 (e : Int)] 148)) 16 (by omega)
      rw [hz2] at this
      exact this
    · have := below_alloc3' w (Obj.cells #[Value.int IntKind.i64 (A : Int), Value.int IntKind.u32 (b : Int), Value.int IntKind.u32 (c : Int), Value.int IntKind.u32 (d : Int), Value.int IntKind.u32 (e : Int)] 32) (Obj.cells #[Value.int IntKind.i64 (A : Int), Value.int IntKind.i64 (b : Int), Value.int IntKind.i64 (c : Int), Value.int IntKind.i64 (d : Int), Value.int IntKind.i64 (e : Int)] 148) (Obj.cells (Array.replicate 16 (Value.int IntKind.u8 0)) 5)
      rw [hg] at this
      exact this
    · have := (Blk.new (w.alloc (Obj.cells #[Value.int IntKind.i64 (A : Int), Value.int IntKind.u32 (b : Int), Value.int IntKind.u32 (c : Int), Value.int IntKind.u32 (d : Int), Value.int IntKind.u32 (e : Int)] 32)) 148 #[Value.int IntKind.i64 (A : Int), Value.int IntKind.i64 (b : Int), Value.int IntKind.i64 (c : Int), Value.int IntKind.i64 (d : Int), Value.int IntKind.i64 (e : Int)]).alloc (Obj.cells (Array.replicate 16 (Value.int IntKind.u8 0)) 5)
      rw [hz1] at this
      exact this
    · simp [hg]
  case round =>
    obtain ⟨j, hj, rfl, ho, hb, hn, hs⟩ := hrel
    have HO := Lib.hid ho; clear ho
    have HL := Lib.hid hb; clear hb
    have HN := Lib.hid hn; clear hn
    have HS := Lib.hid hs; clear hs
    obtain ⟨v, hv⟩ : ∃ v : Value, u4 = v := ⟨_, rfl⟩
    rw [hv] at HO ⊢
    clear hv
    have hcs : j = 0 ∨ j = 1 ∨ j = 2 ∨ j = 3 ∨ j = 4 ∨ j = 5 := by omega
    rcases hcs with rfl | rfl | rfl | rfl | rfl | rfl
    · have hn : wr.cell? ⟨g + 1, 0, none⟩ = some (.int .i64 ((A : Nat) : Int)) := HN.out.cell 0
      have hidx := szIdx0 wr
      have hput : ∀ (W : World), Calls Tryz.prog 76 #[.int .i64 (A : Nat), .int .i64 1] W _ := fun W => put_ok A 1 (by omega) (by omega) (by omega) W
      have HP := Lib.hid (hput wr); clear hput
      go_wp2_with fail
      refine HP.out.mono ?_
      rintro ev w1 ⟨rfl, hh, b1, s1⟩
      have HB1 := Lib.hid (bsl_of_holds (cap := 1) (leB_length 1 A) (Nat.le_refl _) (by unfold maxLen; omega) s1 hh)
      have HO1 := Lib.hid (own_below HO.out b1)
      have hsz1 : wr.heap.size ≤ w1.heap.size := b1.size
      have HS1 := Lib.hid hsz1; clear hsz1
      have HL1 := Lib.hid (HL.out.trans (b1.mono (by have := HS.out; omega)))
      have HN1 := Lib.hid (HN.out.below b1 HN.out.lt)
      clear hh s1 b1
      go_wp2_with (at_builtin
                   refine wpList_append_bsl rfl (.tmp 38) (.tmp 39) rfl (g + 2) v 0 _ rfl HO1.out w1.heap.size (some ⟨wr.heap.size + 1, 0, none⟩) 1 1 (leB 1 A) rfl HB1.out (by omega) (by have := HS.out; have := HS1.out; omega) ?_
                   intro v2 w2 h2 hgr2
                   have HO2 := Lib.hid h2; clear h2
                   have HGR := Lib.hid hgr2; clear hgr2)
      go_roundw
      case rel =>
        have hne : ∀ r, v.ownBlock = some r → g + 2 ≤ r := fun r hr => (HO1.out.lt r hr).1
        refine ⟨1, by omega, by first | rfl | go_num, ?_, ?_, ?_, ?_⟩
        · have := HO2.out; simpa [putTo, stP, bytesP] using this
        · exact HL1.out.grown HGR.out (by have := HS.out; have := HS1.out; omega) (fun r hr => by have := hne r hr; omega)
        · exact HN1.out.grown HGR.out (fun er => by have := hne (g + 1) er.symm; omega)
        · have := HGR.out.size; have := HS1.out; have := HS.out; omega
      case measure => simp [intOf]
    · have hn : wr.cell? ⟨g + 1, 1, none⟩ = some (.int .i64 ((b : Nat) : Int)) := HN.out.cell 1
      have hidx := szIdx1 wr
      have hput : ∀ (W : World), Calls Tryz.prog 76 #[.int .i64 (b : Nat), .int .i64 3] W _ := fun W => put_ok b 3 (by omega) (by omega) (by omega) W
      have HP := Lib.hid (hput wr); clear hput
      go_wp2_with fail
      refine HP.out.mono ?_
      rintro ev w1 ⟨rfl, hh, b1, s1⟩
      have HB1 := Lib.hid (bsl_of_holds (cap := 3) (leB_length 3 b) (Nat.le_refl _) (by unfold maxLen; omega) s1 hh)
      have HO1 := Lib.hid (own_below HO.out b1)
      have hsz1 : wr.heap.size ≤ w1.heap.size := b1.size
      have HS1 := Lib.hid hsz1; clear hsz1
      have HL1 := Lib.hid (HL.out.trans (b1.mono (by have := HS.out; omega)))
      have HN1 := Lib.hid (HN.out.below b1 HN.out.lt)
      clear hh s1 b1
      go_wp2_with (at_builtin
                   refine wpList_append_bsl rfl (.tmp 38) (.tmp 39) rfl (g + 2) v 1 _ rfl HO1.out w1.heap.size (some ⟨wr.heap.size + 1, 0, none⟩) 3 3 (leB 3 b) rfl HB1.out (by omega) (by have := HS.out; have := HS1.out; omega) ?_
                   intro v2 w2 h2 hgr2
                   have HO2 := Lib.hid h2; clear h2
                   have HGR := Lib.hid hgr2; clear hgr2)
      go_roundw
      case rel =>
        have hne : ∀ r, v.ownBlock = some r → g + 2 ≤ r := fun r hr => (HO1.out.lt r hr).1
        refine ⟨2, by omega, by first | rfl | go_num, ?_, ?_, ?_, ?_⟩
        · have := HO2.out; simpa [putTo, stP, bytesP] using this
        · exact HL1.out.grown HGR.out (by have := HS.out; have := HS1.out; omega) (fun r hr => by have := hne r hr; omega)
        · exact HN1.out.grown HGR.out (fun er => by have := hne (g + 1) er.symm; omega)
        · have := HGR.out.size; have := HS1.out; have := HS.out; omega
      case measure => simp [intOf]
    · have hn : wr.cell? ⟨g + 1, 2, none⟩ = some (.int .i64 ((c : Nat) : Int)) := HN.out.cell 2
      have hidx := szIdx2 wr
      have hput : ∀ (W : World), Calls Tryz.prog 76 #[.int .i64 (c : Nat), .int .i64 4] W _ := fun W => put_ok c 4 (by omega) (by omega) (by omega) W
      have HP := Lib.hid (hput wr); clear hput
      go_wp2_with fail
      refine HP.out.mono ?_
      rintro ev w1 ⟨rfl, hh, b1, s1⟩
      have HB1 := Lib.hid (bsl_of_holds (cap := 4) (leB_length 4 c) (Nat.le_refl _) (by unfold maxLen; omega) s1 hh)
      have HO1 := Lib.hid (own_below HO.out b1)
      have hsz1 : wr.heap.size ≤ w1.heap.size := b1.size
      have HS1 := Lib.hid hsz1; clear hsz1
      have HL1 := Lib.hid (HL.out.trans (b1.mono (by have := HS.out; omega)))
      have HN1 := Lib.hid (HN.out.below b1 HN.out.lt)
      clear hh s1 b1
      go_wp2_with (at_builtin
                   refine wpList_append_bsl rfl (.tmp 38) (.tmp 39) rfl (g + 2) v 4 _ rfl HO1.out w1.heap.size (some ⟨wr.heap.size + 1, 0, none⟩) 4 4 (leB 4 c) rfl HB1.out (by omega) (by have := HS.out; have := HS1.out; omega) ?_
                   intro v2 w2 h2 hgr2
                   have HO2 := Lib.hid h2; clear h2
                   have HGR := Lib.hid hgr2; clear hgr2)
      go_roundw
      case rel =>
        have hne : ∀ r, v.ownBlock = some r → g + 2 ≤ r := fun r hr => (HO1.out.lt r hr).1
        refine ⟨3, by omega, by first | rfl | go_num, ?_, ?_, ?_, ?_⟩
        · have := HO2.out; simpa [putTo, stP, bytesP] using this
        · exact HL1.out.grown HGR.out (by have := HS.out; have := HS1.out; omega) (fun r hr => by have := hne r hr; omega)
        · exact HN1.out.grown HGR.out (fun er => by have := hne (g + 1) er.symm; omega)
        · have := HGR.out.size; have := HS1.out; have := HS.out; omega
      case measure => simp [intOf]
    · have hn : wr.cell? ⟨g + 1, 3, none⟩ = some (.int .i64 ((d : Nat) : Int)) := HN.out.cell 3
      have hidx := szIdx3 wr
      have hput : ∀ (W : World), Calls Tryz.prog 76 #[.int .i64 (d : Nat), .int .i64 4] W _ := fun W => put_ok d 4 (by omega) (by omega) (by omega) W
      have HP := Lib.hid (hput wr); clear hput
      go_wp2_with fail
      refine HP.out.mono ?_
      rintro ev w1 ⟨rfl, hh, b1, s1⟩
      have HB1 := Lib.hid (bsl_of_holds (cap := 4) (leB_length 4 d) (Nat.le_refl _) (by unfold maxLen; omega) s1 hh)
      have HO1 := Lib.hid (own_below HO.out b1)
      have hsz1 : wr.heap.size ≤ w1.heap.size := b1.size
      have HS1 := Lib.hid hsz1; clear hsz1
      have HL1 := Lib.hid (HL.out.trans (b1.mono (by have := HS.out; omega)))
      have HN1 := Lib.hid (HN.out.below b1 HN.out.lt)
      clear hh s1 b1
      go_wp2_with (at_builtin
                   refine wpList_append_bsl rfl (.tmp 38) (.tmp 39) rfl (g + 2) v 8 _ rfl HO1.out w1.heap.size (some ⟨wr.heap.size + 1, 0, none⟩) 4 4 (leB 4 d) rfl HB1.out (by omega) (by have := HS.out; have := HS1.out; omega) ?_
                   intro v2 w2 h2 hgr2
                   have HO2 := Lib.hid h2; clear h2
                   have HGR := Lib.hid hgr2; clear hgr2)
      go_roundw
      case rel =>
        have hne : ∀ r, v.ownBlock = some r → g + 2 ≤ r := fun r hr => (HO1.out.lt r hr).1
        refine ⟨4, by omega, by first | rfl | go_num, ?_, ?_, ?_, ?_⟩
        · have := HO2.out; simpa [putTo, stP, bytesP] using this
        · exact HL1.out.grown HGR.out (by have := HS.out; have := HS1.out; omega) (fun r hr => by have := hne r hr; omega)
        · exact HN1.out.grown HGR.out (fun er => by have := hne (g + 1) er.symm; omega)
        · have := HGR.out.size; have := HS1.out; have := HS.out; omega
      case measure => simp [intOf]
    · have hn : wr.cell? ⟨g + 1, 4, none⟩ = some (.int .i64 ((e : Nat) : Int)) := HN.out.cell 4
      have hidx := szIdx4 wr
      have hput : ∀ (W : World), Calls Tryz.prog 76 #[.int .i64 (e : Nat), .int .i64 4] W _ := fun W => put_ok e 4 (by omega) (by omega) (by omega) W
      have HP := Lib.hid (hput wr); clear hput
      go_wp2_with fail
      refine HP.out.mono ?_
      rintro ev w1 ⟨rfl, hh, b1, s1⟩
      have HB1 := Lib.hid (bsl_of_holds (cap := 4) (leB_length 4 e) (Nat.le_refl _) (by unfold maxLen; omega) s1 hh)
      have HO1 := Lib.hid (own_below HO.out b1)
      have hsz1 : wr.heap.size ≤ w1.heap.size := b1.size
      have HS1 := Lib.hid hsz1; clear hsz1
      have HL1 := Lib.hid (HL.out.trans (b1.mono (by have := HS.out; omega)))
      have HN1 := Lib.hid (HN.out.below b1 HN.out.lt)
      clear hh s1 b1
      go_wp2_with (at_builtin
                   refine wpList_append_bsl rfl (.tmp 38) (.tmp 39) rfl (g + 2) v 12 _ rfl HO1.out w1.heap.size (some ⟨wr.heap.size + 1, 0, none⟩) 4 4 (leB 4 e) rfl HB1.out (by omega) (by have := HS.out; have := HS1.out; omega) ?_
                   intro v2 w2 h2 hgr2
                   have HO2 := Lib.hid h2; clear h2
                   have HGR := Lib.hid hgr2; clear hgr2)
      go_roundw
      case rel =>
        have hne : ∀ r, v.ownBlock = some r → g + 2 ≤ r := fun r hr => (HO1.out.lt r hr).1
        refine ⟨5, by omega, by first | rfl | go_num, ?_, ?_, ?_, ?_⟩
        · have := HO2.out; simpa [putTo, stP, bytesP] using this
        · exact HL1.out.grown HGR.out (by have := HS.out; have := HS1.out; omega) (fun r hr => by have := hne r hr; omega)
        · exact HN1.out.grown HGR.out (fun er => by have := hne (g + 1) er.symm; omega)
        · have := HGR.out.size; have := HS1.out; have := HS.out; omega
      case measure => simp [intOf]
    · go_wp2_with fail
      go_ret
      have := HO.out
      refine ⟨_, rfl, own_mono this (by have := HG.out; omega), ?_⟩
      rw [HG.out]
      exact HL.out
end Go.Proofs.YtbggkfomfeeikaaGreatDoor
/-
  ptr.get: the pointer whose sixteen bytes these are.
-/
namespace Go.Proofs.YtbggkfomfeeikaaGreatDoor
open Go.RowKit Go.Shelf
set_option maxRecDepth 100000

/-- The numbers that are there yet. -/
def numTo (n0 n1 n2 n3 n4 : Nat) : Nat → Array Value
  | 0 => #[.int .i64 0, .int .i64 0, .int .i64 0, .int .i64 0, .int .i64 0]
  | 1 => #[.int .i64 (n0 : Int), .int .i64 0, .int .i64 0, .int .i64 0, .int .i64 0]
  | 2 => #[.int .i64 (n0 : Int), .int .i64 (n1 : Int), .int .i64 0, .int .i64 0, .int .i64 0]
  | 3 => #[.int .i64 (n0 : Int), .int .i64 (n1 : Int), .int .i64 (n2 : Int), .int .i64 0, .int .i64 0]
  | 4 => #[.int .i64 (n0 : Int), .int .i64 (n1 : Int), .int .i64 (n2 : Int), .int .i64 (n3 : Int), .int .i64 0]
  | _ => #[.int .i64 (n0 : Int), .int .i64 (n1 : Int), .int .i64 (n2 : Int), .int .i64 (n3 : Int), .int .i64 (n4 : Int)]
/-- Where the next one stands. -/
def atP : Nat → Nat
  | 0 => 0
  | 1 => 1
  | 2 => 4
  | 3 => 8
  | 4 => 12
  | _ => 16
set_option maxHeartbeats 1000000 in
theorem get_any (a : Option Addr) (cap : Nat) (s : List UInt8) (w : World) (hB : Bsl w w.heap.size a 16 cap s) (hz : Szs w) : Calls Tryz.prog 114 #[.slice a 16 cap] w fun e w' => e = .returned (ptV (getP s)) ∧ Below w.heap.size w w' := by
  have l0 := leN_le s 0 1
  have l1 := leN_le s 1 3
  have l2 := leN_le s 4 4
  have l3 := leN_le s 8 4
  have l4 := leN_le s 12 4
  obtain ⟨P, hP⟩ : ∃ P, getP s = P := ⟨_, rfl⟩
  rw [hP]
  rw [getP] at hP
  obtain ⟨n0, h0⟩ : ∃ n, leN ((s.drop 0).take 1) = n := ⟨_, rfl⟩
  obtain ⟨n1, h1⟩ : ∃ n, leN ((s.drop 1).take 3) = n := ⟨_, rfl⟩
  obtain ⟨n2, h2⟩ : ∃ n, leN ((s.drop 4).take 4) = n := ⟨_, rfl⟩
  obtain ⟨n3, h3⟩ : ∃ n, leN ((s.drop 8).take 4) = n := ⟨_, rfl⟩
  obtain ⟨n4, h4⟩ : ∃ n, leN ((s.drop 12).take 4) = n := ⟨_, rfl⟩
  rw [h0, h1, h2, h3, h4] at hP
  rw [h0] at l0
  rw [h1] at l1
  rw [h2] at l2
  rw [h3] at l3
  rw [h4] at l4
  subst hP
  have i0 : (0 : Int) ≤ (n0 : Int) := by omega
  have j0 : (n0 : Int) ≤ 4294967295 := by omega
  have i1 : (0 : Int) ≤ (n1 : Int) := by omega
  have j1 : (n1 : Int) ≤ 4294967295 := by omega
  have i2 : (0 : Int) ≤ (n2 : Int) := by omega
  have j2 : (n2 : Int) ≤ 4294967295 := by omega
  have i3 : (0 : Int) ≤ (n3 : Int) := by omega
  have j3 : (n3 : Int) ≤ 4294967295 := by omega
  have i4 : (0 : Int) ≤ (n4 : Int) := by omega
  have j4 : (n4 : Int) ≤ 4294967295 := by omega
  obtain ⟨g, hg⟩ : ∃ g, w.heap.size = g := ⟨_, rfl⟩
  have HG := Lib.hid hg
  have HZ := Lib.hid hz; clear hz
  have HB := Lib.hid hB; clear hB
  have al2 : ∀ o1 o2 : Obj, Below w.heap.size w ((w.alloc o1).alloc o2) := fun o1 o2 => ((Below.refl _ w).alloc (Nat.le_refl _) _).alloc (by simp) _
  have y0 : ∀ o1 o2 : Obj, ((w.alloc o1).alloc o2).cell? ⟨0, 0, none⟩ = some (.int .i64 1) := fun o1 o2 => (HZ.out.step (al2 o1 o2)).2.1
  have y1 : ∀ o1 o2 : Obj, ((w.alloc o1).alloc o2).cell? ⟨0, 1, none⟩ = some (.int .i64 3) := fun o1 o2 => (HZ.out.step (al2 o1 o2)).2.2.1
  have y2 : ∀ o1 o2 : Obj, ((w.alloc o1).alloc o2).cell? ⟨0, 2, none⟩ = some (.int .i64 4) := fun o1 o2 => (HZ.out.step (al2 o1 o2)).2.2.2.1
  have y3 : ∀ o1 o2 : Obj, ((w.alloc o1).alloc o2).cell? ⟨0, 3, none⟩ = some (.int .i64 4) := fun o1 o2 => (HZ.out.step (al2 o1 o2)).2.2.2.2.1
  have y4 : ∀ o1 o2 : Obj, ((w.alloc o1).alloc o2).cell? ⟨0, 4, none⟩ = some (.int .i64 4) := fun o1 o2 => (HZ.out.step (al2 o1 o2)).2.2.2.2.2
  have H0 := Lib.hid h0; clear h0
  have H1 := Lib.hid h1; clear h1
  have H2 := Lib.hid h2; clear h2
  have H3 := Lib.hid h3; clear h3
  have H4 := Lib.hid h4; clear h4
  have AL := Lib.hid al2; clear al2
  go_enter Tryz.func114, Tryz.ntmps114
  go_wp2_with fail
  clear y0 y1 y2 y3 y4
  go_loopw [4, 8] (fun t i wr => ∃ j : Nat, j ≤ 5 ∧ i = .int .i64 j ∧ t = .int .i64 (atP j : Nat) ∧ Below g w wr ∧ Blk wr (g + 1) 148 (numTo n0 n1 n2 n3 n4 j) ∧ Blk wr g 32 #[.int .i64 0, .int .u32 0, .int .u32 0, .int .u32 0, .int .u32 0])
    (fun _ i _ => 5 - (intOf i).toNat)
  case atStart =>
    refine ⟨0, by omega, rfl, rfl, ?_, ?_, ?_⟩
    · have := AL.out (Obj.cells #[.int .i64 0, .int .u32 0, .int .u32 0, .int .u32 0, .int .u32 0] 32) (Obj.cells #[.int .i64 0, .int .i64 0, .int .i64 0, .int .i64 0, .int .i64 0] 148)
      rw [HG.out] at this
      exact this
    · have := Blk.new (w.alloc (Obj.cells #[.int .i64 0, .int .u32 0, .int .u32 0, .int .u32 0, .int .u32 0] 32)) 148 #[.int .i64 0, .int .i64 0, .int .i64 0, .int .i64 0, .int .i64 0]
      rw [World.size_alloc, HG.out] at this
      exact this
    · have := (Blk.new w 32 #[.int .i64 0, .int .u32 0, .int .u32 0, .int .u32 0, .int .u32 0]).alloc (Obj.cells #[.int .i64 0, .int .i64 0, .int .i64 0, .int .i64 0, .int .i64 0] 148)
      rw [HG.out] at this
      exact this
  case round =>
    obtain ⟨j, hj, rfl, rfl, hb, hn, hp⟩ := hrel
    have HL := Lib.hid hb; clear hb
    have HN := Lib.hid hn; clear hn
    have HP := Lib.hid hp; clear hp
    have hcs : j = 0 ∨ j = 1 ∨ j = 2 ∨ j = 3 ∨ j = 4 ∨ j = 5 := by omega
    rcases hcs with rfl | rfl | rfl | rfl | rfl | rfl
    · have hidx := szIdx0 wr
      have hB1 : Bsl wr wr.heap.size a 16 cap s := (HB.out.below (by rw [HG.out]; exact HL.out)).more HL.out.size
      have hget : Calls Tryz.prog 116 #[.slice a 16 cap, .int .i64 0, .int .i64 1] wr _ := get_bsl hB1 0 1 (by omega) (by omega) (by omega)
      rw [H0.out] at hget
      have HGT := Lib.hid hget; clear hget hB1
      have e0 : ((atP 0 : Nat) : Int) = 0 := rfl
      rw [e0]
      go_wp2_with fail
      refine HGT.out.mono ?_
      rintro ev w1 ⟨rfl, b1⟩
      have HN1 := Lib.hid (HN.out.below b1 HN.out.lt)
      have HP1 := Lib.hid (HP.out.below b1 HP.out.lt)
      have HL1 := Lib.hid (HL.out.trans (b1.mono (by have := HN.out.lt; omega)))
      have hcj : w1.cell? ⟨g + 1, 0, none⟩ = some (.int .i64 0) := HN1.out.cell 0
      have hfj : w1.frozen? ⟨g + 1, 0, none⟩ = false := HN1.out.frozen 0
      clear b1
      go_wp2_with fail
      go_roundw
      case rel =>
        refine ⟨1, by omega, by first | rfl | go_num, by first | rfl | go_num, ?_, ?_, ?_⟩
        · exact HL1.out.setCell (p := ⟨g + 1, 0, none⟩) (by show g ≤ g + 1; omega) _
        · exact HN1.out.set_ 0 (.int .i64 (n0 : Int))
        · exact HP1.out.far (by show g ≠ g + 1; omega) _
      case measure => simp [intOf]
    · have hidx := szIdx1 wr
      have hB1 : Bsl wr wr.heap.size a 16 cap s := (HB.out.below (by rw [HG.out]; exact HL.out)).more HL.out.size
      have hget : Calls Tryz.prog 116 #[.slice a 16 cap, .int .i64 1, .int .i64 3] wr _ := get_bsl hB1 1 3 (by omega) (by omega) (by omega)
      rw [H1.out] at hget
      have HGT := Lib.hid hget; clear hget hB1
      have e0 : ((atP 1 : Nat) : Int) = 1 := rfl
      rw [e0]
      go_wp2_with fail
      refine HGT.out.mono ?_
      rintro ev w1 ⟨rfl, b1⟩
      have HN1 := Lib.hid (HN.out.below b1 HN.out.lt)
      have HP1 := Lib.hid (HP.out.below b1 HP.out.lt)
      have HL1 := Lib.hid (HL.out.trans (b1.mono (by have := HN.out.lt; omega)))
      have hcj : w1.cell? ⟨g + 1, 1, none⟩ = some (.int .i64 0) := HN1.out.cell 1
      have hfj : w1.frozen? ⟨g + 1, 1, none⟩ = false := HN1.out.frozen 1
      clear b1
      go_wp2_with fail
      go_roundw
      case rel =>
        refine ⟨2, by omega, by first | rfl | go_num, by first | rfl | go_num, ?_, ?_, ?_⟩
        · exact HL1.out.setCell (p := ⟨g + 1, 1, none⟩) (by show g ≤ g + 1; omega) _
        · exact HN1.out.set_ 1 (.int .i64 (n1 : Int))
        · exact HP1.out.far (by show g ≠ g + 1; omega) _
      case measure => simp [intOf]
    · have hidx := szIdx2 wr
      have hB1 : Bsl wr wr.heap.size a 16 cap s := (HB.out.below (by rw [HG.out]; exact HL.out)).more HL.out.size
      have hget : Calls Tryz.prog 116 #[.slice a 16 cap, .int .i64 4, .int .i64 4] wr _ := get_bsl hB1 4 4 (by omega) (by omega) (by omega)
      rw [H2.out] at hget
      have HGT := Lib.hid hget; clear hget hB1
      have e0 : ((atP 2 : Nat) : Int) = 4 := rfl
      rw [e0]
      go_wp2_with fail
      refine HGT.out.mono ?_
      rintro ev w1 ⟨rfl, b1⟩
      have HN1 := Lib.hid (HN.out.below b1 HN.out.lt)
      have HP1 := Lib.hid (HP.out.below b1 HP.out.lt)
      have HL1 := Lib.hid (HL.out.trans (b1.mono (by have := HN.out.lt; omega)))
      have hcj : w1.cell? ⟨g + 1, 2, none⟩ = some (.int .i64 0) := HN1.out.cell 2
      have hfj : w1.frozen? ⟨g + 1, 2, none⟩ = false := HN1.out.frozen 2
      clear b1
      go_wp2_with fail
      go_roundw
      case rel =>
        refine ⟨3, by omega, by first | rfl | go_num, by first | rfl | go_num, ?_, ?_, ?_⟩
        · exact HL1.out.setCell (p := ⟨g + 1, 2, none⟩) (by show g ≤ g + 1; omega) _
        · exact HN1.out.set_ 2 (.int .i64 (n2 : Int))
        · exact HP1.out.far (by show g ≠ g + 1; omega) _
      case measure => simp [intOf]
    · have hidx := szIdx3 wr
      have hB1 : Bsl wr wr.heap.size a 16 cap s := (HB.out.below (by rw [HG.out]; exact HL.out)).more HL.out.size
      have hget : Calls Tryz.prog 116 #[.slice a 16 cap, .int .i64 8, .int .i64 4] wr _ := get_bsl hB1 8 4 (by omega) (by omega) (by omega)
      rw [H3.out] at hget
      have HGT := Lib.hid hget; clear hget hB1
      have e0 : ((atP 3 : Nat) : Int) = 8 := rfl
      rw [e0]
      go_wp2_with fail
      refine HGT.out.mono ?_
      rintro ev w1 ⟨rfl, b1⟩
      have HN1 := Lib.hid (HN.out.below b1 HN.out.lt)
      have HP1 := Lib.hid (HP.out.below b1 HP.out.lt)
      have HL1 := Lib.hid (HL.out.trans (b1.mono (by have := HN.out.lt; omega)))
      have hcj : w1.cell? ⟨g + 1, 3, none⟩ = some (.int .i64 0) := HN1.out.cell 3
      have hfj : w1.frozen? ⟨g + 1, 3, none⟩ = false := HN1.out.frozen 3
      clear b1
      go_wp2_with fail
      go_roundw
      case rel =>
        refine ⟨4, by omega, by first | rfl | go_num, by first | rfl | go_num, ?_, ?_, ?_⟩
        · exact HL1.out.setCell (p := ⟨g + 1, 3, none⟩) (by show g ≤ g + 1; omega) _
        · exact HN1.out.set_ 3 (.int .i64 (n3 : Int))
        · exact HP1.out.far (by show g ≠ g + 1; omega) _
      case measure => simp [intOf]
    · have hidx := szIdx4 wr
      have hB1 : Bsl wr wr.heap.size a 16 cap s := (HB.out.below (by rw [HG.out]; exact HL.out)).more HL.out.size
      have hget : Calls Tryz.prog 116 #[.slice a 16 cap, .int .i64 12, .int .i64 4] wr _ := get_bsl hB1 12 4 (by omega) (by omega) (by omega)
      rw [H4.out] at hget
      have HGT := Lib.hid hget; clear hget hB1
      have e0 : ((atP 4 : Nat) : Int) = 12 := rfl
      rw [e0]
      go_wp2_with fail
      refine HGT.out.mono ?_
      rintro ev w1 ⟨rfl, b1⟩
      have HN1 := Lib.hid (HN.out.below b1 HN.out.lt)
      have HP1 := Lib.hid (HP.out.below b1 HP.out.lt)
      have HL1 := Lib.hid (HL.out.trans (b1.mono (by have := HN.out.lt; omega)))
      have hcj : w1.cell? ⟨g + 1, 4, none⟩ = some (.int .i64 0) := HN1.out.cell 4
      have hfj : w1.frozen? ⟨g + 1, 4, none⟩ = false := HN1.out.frozen 4
      clear b1
      go_wp2_with fail
      go_roundw
      case rel =>
        refine ⟨5, by omega, by first | rfl | go_num, by first | rfl | go_num, ?_, ?_, ?_⟩
        · exact HL1.out.setCell (p := ⟨g + 1, 4, none⟩) (by show g ≤ g + 1; omega) _
        · exact HN1.out.set_ 4 (.int .i64 (n4 : Int))
        · exact HP1.out.far (by show g ≠ g + 1; omega) _
      case measure => simp [intOf]
    · have q0 : wr.cell? ⟨g + 1, 0, none⟩ = some (.int .i64 (n0 : Int)) := HN.out.cell 0
      have q1 : wr.cell? ⟨g + 1, 1, none⟩ = some (.int .i64 (n1 : Int)) := HN.out.cell 1
      have q2 : wr.cell? ⟨g + 1, 2, none⟩ = some (.int .i64 (n2 : Int)) := HN.out.cell 2
      have q3 : wr.cell? ⟨g + 1, 3, none⟩ = some (.int .i64 (n3 : Int)) := HN.out.cell 3
      have q4 : wr.cell? ⟨g + 1, 4, none⟩ = some (.int .i64 (n4 : Int)) := HN.out.cell 4
      have d0 : wr.cell? ⟨g, 0, none⟩ = some (.int .i64 0) := HP.out.cell 0
      have d1 : wr.cell? ⟨g, 1, none⟩ = some (.int .u32 0) := HP.out.cell 1
      have d2 : wr.cell? ⟨g, 2, none⟩ = some (.int .u32 0) := HP.out.cell 2
      have d3 : wr.cell? ⟨g, 3, none⟩ = some (.int .u32 0) := HP.out.cell 3
      have d4 : wr.cell? ⟨g, 4, none⟩ = some (.int .u32 0) := HP.out.cell 4
      have fr : ∀ i, wr.frozen? ⟨g, i, none⟩ = false := fun i => HP.out.frozen i
      go_wp2_with fail
      obtain ⟨wf, hwf⟩ : ∃ wf, set5 wr g (.int .i64 (n0 : Int)) (.int .u32 (n1 : Int)) (.int .u32 (n2 : Int)) (.int .u32 (n3 : Int)) (.int .u32 (n4 : Int)) = wf := ⟨_, rfl⟩
      have HX := Lib.hid (HP.out.set5 (.int .i64 (n0 : Int)) (.int .u32 (n1 : Int)) (.int .u32 (n2 : Int)) (.int .u32 (n3 : Int)) (.int .u32 (n4 : Int)))
      have HBF := Lib.hid (below_set5 HL.out (Nat.le_refl g) (.int .i64 (n0 : Int)) (.int .u32 (n1 : Int)) (.int .u32 (n2 : Int)) (.int .u32 (n3 : Int)) (.int .u32 (n4 : Int)))
      rw [hwf] at HX HBF
      simp only [set5] at hwf
      rw [hwf]
      clear hwf q0 q1 q2 q3 q4 d0 d1 d2 d3 d4 fr
      have e0 := HX.out.cell 0
      have e1 := HX.out.cell 1
      have e2 := HX.out.cell 2
      have e3 := HX.out.cell 3
      have e4 := HX.out.cell 4
      refine bodyPost_ret (v := ptV (n0, n1, n2, n3, n4)) (by simp [results, Tryz.f114, go_sem, e0, e1, e2, e3, e4]) rfl ⟨rfl, ?_⟩
      rw [HG.out]
      exact HBF.out
end Go.Proofs.YtbggkfomfeeikaaGreatDoor
/-
  ptr.Check, whatever it is handed; nothing that was there is written.
-/
namespace Go.Proofs.YtbggkfomfeeikaaGreatDoor
open Go.RowKit Go.Shelf
set_option maxRecDepth 100000

/-- What Check answers. -/
def pcheckO (p : Pt) : Int := if MayP p then 0 else 8
theorem Check_any (p : Pt) (w : World) : Calls Tryz.prog 50 #[ptV p] w fun e w' => e = .returned (.int .i64 (pcheckO p)) ∧ Below w.heap.size w w' := by
  have hm := mayBe_any p (w.alloc (.cells (ptC p).toArray 32))
  have hb1 : Below w.heap.size w (w.alloc (.cells (ptC p).toArray 32)) := (Below.refl _ w).alloc (Nat.le_refl _) _
  have HB := Lib.hid hb1; clear hb1
  rw [pcheckO]
  by_cases h : MayP p
  · rw [if_pos h]
    rw [decide_eq_true h] at hm
    obtain ⟨a, b, c, d, e⟩ := p
    have HM := Lib.hid hm; clear hm
    go_enter Tryz.func50, Tryz.ntmps50
    go_wp2_with (go_at_call 77; refine HM.out.mono ?_; rintro ev w1 ⟨rfl, b1⟩; have HB1 := Lib.hid (HB.out.trans (b1.mono (by simp [ptC]))); clear b1)
    go_ret
    exact ⟨rfl, HB1.out⟩
  · rw [if_neg h]
    rw [decide_eq_false h] at hm
    obtain ⟨a, b, c, d, e⟩ := p
    have HM := Lib.hid hm; clear hm
    go_enter Tryz.func50, Tryz.ntmps50
    go_wp2_with (go_at_call 77; refine HM.out.mono ?_; rintro ev w1 ⟨rfl, b1⟩; have HB1 := Lib.hid (HB.out.trans (b1.mono (by simp [ptC]))); clear b1)
    go_ret
    exact ⟨rfl, HB1.out⟩
end Go.Proofs.YtbggkfomfeeikaaGreatDoor
/-
  ptr.Check, ptr.Write and ptr.Read, whatever they are handed; nothing that was there is written.
-/
namespace Go.Proofs.YtbggkfomfeeikaaGreatDoor
open Go.RowKit Go.Shelf
set_option maxRecDepth 100000

/-- A list of the call's own, and an error's number. -/
def OutB (S : List UInt8) (c : Int) (w : World) (e : Ending) (w' : World) : Prop := ∃ v, e = .returned (.tuple #[v, .int .i64 c]) ∧ w'.ownsRow w.heap.size 5 1 v S.length (vals S) ∧ Below w.heap.size w w'
theorem outB_no {w w' : World} {c : Int} {e : Ending} (he : e = .returned (.tuple #[.slice none 0 0, .int .i64 c])) (hb : Below w.heap.size w w') : OutB [] c w e w' := ⟨_, he, own_nil _ _, hb⟩
/-- A pointer, and an error's number. -/
def OutP (p : Pt) (c : Int) (w : World) (e : Ending) (w' : World) : Prop := e = .returned (.tuple #[ptV p, .int .i64 c]) ∧ Below w.heap.size w w'
/-- What Write answers. -/
def pwriteO (p : Pt) : List UInt8 × Int := if MayP p then (bytesP p, 0) else ([], 8)
/-- What Read answers. -/
def preadO (s : List UInt8) : Pt × Int := if s.length = 16 then (if MayP (getP s) then (getP s, 0) else (p0, 8)) else (p0, 3)

theorem Write_any (p : Pt) (hw : WfP p) (w : World) (hz : Szs w) : Calls Tryz.prog 49 #[ptV p] w (OutB (pwriteO p).1 (pwriteO p).2 w) := by
  have hm := mayBe_any p (w.alloc (.cells (ptC p).toArray 32))
  have hb1 : Below w.heap.size w (w.alloc (.cells (ptC p).toArray 32)) := (Below.refl _ w).alloc (Nat.le_refl _) _
  have HB := Lib.hid hb1; clear hb1
  have HZ := Lib.hid hz; clear hz
  have HW := Lib.hid hw; clear hw
  have hk : Blk (w.alloc (.cells (ptC p).toArray 32)) w.heap.size 32 (ptC p).toArray := Blk.new w _ _
  have HK := Lib.hid hk; clear hk
  rw [pwriteO]
  by_cases h : MayP p
  · rw [if_pos h]
    rw [decide_eq_true h] at hm
    have HR := Lib.hid h.room
    clear h
    obtain ⟨a, b, c, d, e⟩ := p
    have HM := Lib.hid hm; clear hm
    go_enter Tryz.func49, Tryz.ntmps49
    go_wp2_with (first
      | (go_at_call 77
         refine HM.out.mono ?_
         rintro ev w1 ⟨rfl, b1⟩
         have HB1 := Lib.hid (HB.out.trans (b1.mono (by simp [ptC])))
         obtain ⟨c0, c1, c2, c3, c4⟩ := (HK.out.below b1 HK.out.lt).five
         have HP := Lib.hid (put_any (a, b, c, d, e) HW.out HR.out w1 (HZ.out.step HB1.out))
         clear b1)
      | (go_at_call 78
         refine HP.out.mono ?_
         rintro ev w2 ⟨v2, rfl, o2, b2⟩
         have HO2 := Lib.hid (own_mono o2 HB1.out.size)
         have HB2 := Lib.hid (HB1.out.trans (b2.mono HB1.out.size))
         clear b2 o2))
    go_ret2
    refine ⟨v2, rfl, ?_, HB2.out⟩
    rw [bytesP_length]
    exact HO2.out
  · rw [if_neg h]
    rw [decide_eq_false h] at hm
    obtain ⟨a, b, c, d, e⟩ := p
    have HM := Lib.hid hm; clear hm
    go_enter Tryz.func49, Tryz.ntmps49
    go_wp2_with (go_at_call 77; refine HM.out.mono ?_; rintro ev w1 ⟨rfl, b1⟩; have HB1 := Lib.hid (HB.out.trans (b1.mono (by simp [ptC]))); clear b1)
    refine bodyPost_ret (v := .tuple #[.slice none 0 0, .int .i64 8]) (by simp [results, Tryz.f49, go_sem]) rfl ?_
    exact outB_no rfl HB1.out

theorem Read_any (a : Option Addr) (len cap : Nat) (s : List UInt8) (w : World) (hB : Bsl w w.heap.size a len cap s) (hz : Szs w) : Calls Tryz.prog 82 #[.slice a len cap] w (OutP (preadO s).1 (preadO s).2 w) := by
  have hl := hB.1
  rw [preadO]
  have hk : Blk (w.alloc (.cells #[.int .i64 0, .int .u32 0, .int .u32 0, .int .u32 0, .int .u32 0] 32)) w.heap.size 32 #[.int .i64 0, .int .u32 0, .int .u32 0, .int .u32 0, .int .u32 0] := Blk.new w _ _
  have hb1 : Below w.heap.size w (w.alloc (.cells #[.int .i64 0, .int .u32 0, .int .u32 0, .int .u32 0, .int .u32 0] 32)) := (Below.refl _ w).alloc (Nat.le_refl _) _
  have HK := Lib.hid hk; clear hk
  have HB1 := Lib.hid hb1; clear hb1
  have i0 : (0 : Int) ≤ (len : Int) := by omega
  have i1 : (len : Int) ≤ 9223372036854775807 := by have h1 := hB.2.1; have h2 := hB.2.2.1; unfold maxLen at h2; omega
  by_cases h16 : s.length = 16
  · rw [if_pos h16]
    obtain rfl : len = 16 := by omega
    have hb2 : Bsl (w.alloc (.cells #[.int .i64 0, .int .u32 0, .int .u32 0, .int .u32 0, .int .u32 0] 32)) (w.alloc (.cells #[.int .i64 0, .int .u32 0, .int .u32 0, .int .u32 0, .int .u32 0] 32)).heap.size a 16 cap s := hB.step HB1.out
    have HG := Lib.hid (get_any a cap s _ hb2 (hz.step HB1.out)); clear hb2
    have hm := fun w => mayBe_any (getP s) w
    obtain ⟨P, hP⟩ : ∃ P, getP s = P := ⟨_, rfl⟩
    rw [hP] at HG hm ⊢
    clear hP hl hz hB h16
    by_cases h : MayP P
    · rw [if_pos h]
      rw [decide_eq_true h] at hm
      clear h
      obtain ⟨a', b', c', d', e'⟩ := P
      have HM := Lib.hid hm; clear hm
      go_enter Tryz.func82, Tryz.ntmps82
      go_wp2_with (first
        | (go_at_call 114
           refine HG.out.mono ?_
           rintro ev w1 ⟨rfl, b1⟩
           have HB2 := Lib.hid (HB1.out.trans (b1.mono (by simp)))
           have HK2 := Lib.hid (HK.out.below b1 HK.out.lt)
           have HB3 := Lib.hid (HB2.out.alloc HB2.out.size (.cells #[.int .i64 a', .int .u32 (b' : Int), .int .u32 (c' : Int), .int .u32 (d' : Int), .int .u32 (e' : Int)] 32))
           have HK3 := Lib.hid (HK2.out.alloc (.cells #[.int .i64 a', .int .u32 (b' : Int), .int .u32 (c' : Int), .int .u32 (d' : Int), .int .u32 (e' : Int)] 32))
           have HP3 := Lib.hid (Blk.new w1 32 #[.int .i64 a', .int .u32 (b' : Int), .int .u32 (c' : Int), .int .u32 (d' : Int), .int .u32 (e' : Int)])
           clear b1)
        | (go_at_call 77
           refine (HM.out _).mono ?_
           rintro ev w2 ⟨rfl, b2⟩
           have HB4 := Lib.hid (HB3.out.trans (b2.mono HB3.out.size))
           have HK4 := Lib.hid (HK3.out.below b2 HK3.out.lt)
           obtain ⟨c0, c1, c2, c3, c4⟩ := (HP3.out.below b2 HP3.out.lt).five
           have d0 : w2.cell? ⟨w.heap.size, 0, none⟩ = some (.int .i64 0) := HK4.out.cell 0
           have d1 : w2.cell? ⟨w.heap.size, 1, none⟩ = some (.int .u32 0) := HK4.out.cell 1
           have d2 : w2.cell? ⟨w.heap.size, 2, none⟩ = some (.int .u32 0) := HK4.out.cell 2
           have d3 : w2.cell? ⟨w.heap.size, 3, none⟩ = some (.int .u32 0) := HK4.out.cell 3
           have d4 : w2.cell? ⟨w.heap.size, 4, none⟩ = some (.int .u32 0) := HK4.out.cell 4
           have fr : ∀ i, w2.frozen? ⟨w.heap.size, i, none⟩ = false := fun i => HK4.out.frozen i
           clear b2))
      obtain ⟨wf, hwf⟩ : ∃ wf, set5 w2 w.heap.size (.int .i64 a') (.int .u32 (b' : Int)) (.int .u32 (c' : Int)) (.int .u32 (d' : Int)) (.int .u32 (e' : Int)) = wf := ⟨_, rfl⟩
      have HXF := Lib.hid (HK4.out.set5 (.int .i64 a') (.int .u32 (b' : Int)) (.int .u32 (c' : Int)) (.int .u32 (d' : Int)) (.int .u32 (e' : Int)))
      have HBF := Lib.hid (below_set5 HB4.out (Nat.le_refl w.heap.size) (.int .i64 a') (.int .u32 (b' : Int)) (.int .u32 (c' : Int)) (.int .u32 (d' : Int)) (.int .u32 (e' : Int)))
      rw [hwf] at HXF HBF
      simp only [set5] at hwf
      rw [hwf]
      clear hwf d0 d1 d2 d3 d4 fr
      have e0 := HXF.out.cell 0
      have e1 := HXF.out.cell 1
      have e2 := HXF.out.cell 2
      have e3 := HXF.out.cell 3
      have e4 := HXF.out.cell 4
      exact bodyPost_ret (v := .tuple #[ptV (a', b', c', d', e'), .int .i64 0]) (by simp [results, Tryz.f82, go_sem, e0, e1, e2, e3, e4]) rfl ⟨rfl, HBF.out⟩
    · rw [if_neg h]
      rw [decide_eq_false h] at hm
      clear h
      obtain ⟨a', b', c', d', e'⟩ := P
      have HM := Lib.hid hm; clear hm
      go_enter Tryz.func82, Tryz.ntmps82
      go_wp2_with (first
        | (go_at_call 114
           refine HG.out.mono ?_
           rintro ev w1 ⟨rfl, b1⟩
           have HB2 := Lib.hid (HB1.out.trans (b1.mono (by simp)))
           have HK2 := Lib.hid (HK.out.below b1 HK.out.lt)
           have HB3 := Lib.hid (HB2.out.alloc HB2.out.size (.cells #[.int .i64 a', .int .u32 (b' : Int), .int .u32 (c' : Int), .int .u32 (d' : Int), .int .u32 (e' : Int)] 32))
           have HK3 := Lib.hid (HK2.out.alloc (.cells #[.int .i64 a', .int .u32 (b' : Int), .int .u32 (c' : Int), .int .u32 (d' : Int), .int .u32 (e' : Int)] 32))
           have HP3 := Lib.hid (Blk.new w1 32 #[.int .i64 a', .int .u32 (b' : Int), .int .u32 (c' : Int), .int .u32 (d' : Int), .int .u32 (e' : Int)])
           clear b1)
        | (go_at_call 77
           refine (HM.out _).mono ?_
           rintro ev w2 ⟨rfl, b2⟩
           have HB4 := Lib.hid (HB3.out.trans (b2.mono HB3.out.size))
           have HK4 := Lib.hid (HK3.out.below b2 HK3.out.lt)
           obtain ⟨c0, c1, c2, c3, c4⟩ := (HP3.out.below b2 HP3.out.lt).five
           have d0 : w2.cell? ⟨w.heap.size, 0, none⟩ = some (.int .i64 0) := HK4.out.cell 0
           have d1 : w2.cell? ⟨w.heap.size, 1, none⟩ = some (.int .u32 0) := HK4.out.cell 1
           have d2 : w2.cell? ⟨w.heap.size, 2, none⟩ = some (.int .u32 0) := HK4.out.cell 2
           have d3 : w2.cell? ⟨w.heap.size, 3, none⟩ = some (.int .u32 0) := HK4.out.cell 3
           have d4 : w2.cell? ⟨w.heap.size, 4, none⟩ = some (.int .u32 0) := HK4.out.cell 4
           have fr : ∀ i, w2.frozen? ⟨w.heap.size, i, none⟩ = false := fun i => HK4.out.frozen i
           clear b2))
      obtain ⟨wf, hwf⟩ : ∃ wf, set5 w2 w.heap.size (.int .i64 0) (.int .u32 0) (.int .u32 0) (.int .u32 0) (.int .u32 0) = wf := ⟨_, rfl⟩
      have HXF := Lib.hid (HK4.out.set5 (.int .i64 0) (.int .u32 0) (.int .u32 0) (.int .u32 0) (.int .u32 0))
      have HBF := Lib.hid (below_set5 HB4.out (Nat.le_refl w.heap.size) (.int .i64 0) (.int .u32 0) (.int .u32 0) (.int .u32 0) (.int .u32 0))
      rw [hwf] at HXF HBF
      simp only [set5] at hwf
      rw [hwf]
      clear hwf d0 d1 d2 d3 d4 fr
      have e0 := HXF.out.cell 0
      have e1 := HXF.out.cell 1
      have e2 := HXF.out.cell 2
      have e3 := HXF.out.cell 3
      have e4 := HXF.out.cell 4
      exact bodyPost_ret (v := .tuple #[ptV p0, .int .i64 8]) (by simp [results, Tryz.f82, go_sem, e0, e1, e2, e3, e4]) rfl ⟨rfl, HBF.out⟩
  · rw [if_neg h16]
    have hne : ¬ (len : Int) = 16 := by omega
    have d0 : (w.alloc (.cells #[.int .i64 0, .int .u32 0, .int .u32 0, .int .u32 0, .int .u32 0] 32)).cell? ⟨w.heap.size, 0, none⟩ = some (.int .i64 0) := HK.out.cell 0
    have d1 : (w.alloc (.cells #[.int .i64 0, .int .u32 0, .int .u32 0, .int .u32 0, .int .u32 0] 32)).cell? ⟨w.heap.size, 1, none⟩ = some (.int .u32 0) := HK.out.cell 1
    have d2 : (w.alloc (.cells #[.int .i64 0, .int .u32 0, .int .u32 0, .int .u32 0, .int .u32 0] 32)).cell? ⟨w.heap.size, 2, none⟩ = some (.int .u32 0) := HK.out.cell 2
    have d3 : (w.alloc (.cells #[.int .i64 0, .int .u32 0, .int .u32 0, .int .u32 0, .int .u32 0] 32)).cell? ⟨w.heap.size, 3, none⟩ = some (.int .u32 0) := HK.out.cell 3
    have d4 : (w.alloc (.cells #[.int .i64 0, .int .u32 0, .int .u32 0, .int .u32 0, .int .u32 0] 32)).cell? ⟨w.heap.size, 4, none⟩ = some (.int .u32 0) := HK.out.cell 4
    have fr : ∀ i, (w.alloc (.cells #[.int .i64 0, .int .u32 0, .int .u32 0, .int .u32 0, .int .u32 0] 32)).frozen? ⟨w.heap.size, i, none⟩ = false := fun i => HK.out.frozen i
    go_enter Tryz.func82, Tryz.ntmps82
    go_wp2_with fail
    exact bodyPost_ret (v := .tuple #[ptV p0, .int .i64 3]) (by simp [results, Tryz.f82, go_sem, d0, d1, d2, d3, d4]) rfl ⟨rfl, HB1.out⟩
end Go.Proofs.YtbggkfomfeeikaaGreatDoor
/-
  append of bytes to a row of one's own, at any place of a walk; in a region that draws its order.
-/
namespace Go.Proofs.YtbggkfomfeeikaaGreatDoor
open Go.RowKit Go.Shelf
set_option maxRecDepth 100000

/-- append(v, nil...), whatever capacity nil is written with. -/
theorem run_app_none {P : Program} {w : World} (base : Nat) (t ty e : TypeId) (i : TypeInfo) (size c : Nat) (ht : P.underlying t = some (.slice e)) (hi : P.info? e = some i)
    (v : Value) (n : Nat) (xs : List Value) (hown : w.ownsRow base e size v n xs) : (Builtin.append_ #[t, t] ty #[v, .slice none 0 c]).run P w = .ok v w := by
  rcases hown.2 with ⟨rfl, rfl⟩ | ⟨g, cap, cur, rfl, _, _, hnc, _⟩
  · simp [Builtin.append_, run_underlying ht, sizeOf, typeInfo, hi, Builtin.lenOf, Builtin.firstCells]
  · simp [Builtin.append_, run_underlying ht, sizeOf, typeInfo, hi, Builtin.lenOf, Builtin.firstCells, hnc, storeCells]
section
variable {w : World} {o : Oper} {a : Act} {K : Act → World → Prop} {Q : Exit → Act → World → Prop}
end
section
variable {l : List Oper} {Q : Exit → Act → World → Prop} {md : Region.Mode} {S : World → Prop} {i : Nat} {σ : List Nat} {o : Oper} {listed : Array Bool} {a : Act} {w : World}
end
end Go.Proofs.YtbggkfomfeeikaaGreatDoor
/-
  copy of bytes over a part of a row that is known whole, into a slice that may be longer than what is copied; parts of slices.
-/
namespace Go.Proofs.YtbggkfomfeeikaaGreatDoor
open Go.RowKit Go.Shelf
set_option maxRecDepth 100000

theorem copyAt {P : Program} {ops : Array Oper} {Q : Exit → Act → World → Prop} {a : Act} {w : World} {rest : List Oper} {d : Option Tmp} {ty : TypeId} {x : Array Operand} {y : Array TypeId} {pos : String} {af : Array Edge} (h : wpList P ops Q (⟨d, .call { callee := .builtin .copy, args := x, argTypes := y }, ty, pos, af, none⟩ :: rest) a w) : wpList P ops Q (⟨d, .call { callee := .builtin .copy, args := x, argTypes := y }, ty, pos, af, none⟩ :: rest) a w := h
theorem infoB1 : (Tryz.prog.info? 5).map (·.size) = some 1 := by kernel_rfl
/-- s laid over t from o on. -/
def ovrL (t : List UInt8) (o : Nat) (s : List UInt8) : List UInt8 := t.take o ++ (s ++ t.drop (o + s.length))
theorem ovrL_length {t : List UInt8} {o : Nat} {s : List UInt8} (h : o + s.length ≤ t.length) : (ovrL t o s).length = t.length := by simp [ovrL]; omega
/-- copy(dst, src), where what is copied fits. -/
theorem wpList_copy_part {w : World} {ops : Array Oper} {rest : List Oper} {o : Oper} {a : Act} {Q : Exit → Act → World → Prop} (hgd : o.guard = none) (d s : Operand)
    (ho : o.op = .call { callee := .builtin .copy, args := #[d, s], argTypes := #[27, 27] })
    (g off m n cap : Nat) (hd : a.eval d = .slice (some ⟨g, off, none⟩) m cap) (t : List UInt8) (hg : Blk w g 5 (ar t))
    (B : Nat) (A : Option Addr) (c : Nat) (news : List UInt8) (hs : a.eval s = .slice A n c) (hb : Bsl w B A n c news) (hn : 0 < n) (hnm : n ≤ m) (hfit : off + n ≤ t.length)
    (h : ∀ w', Blk w' g 5 (ar (ovrL t off news)) → w.grownBy w' (some g) → w'.heap.size = w.heap.size → wpList Tryz.prog ops Q rest (a.put o.dst (.int .i64 n)) w') : wpList Tryz.prog ops Q (o :: rest) a w := by
  obtain ⟨h1, h2, h3, h4, h5⟩ := hb
  obtain ⟨b, of, rfl, _, hc⟩ := h5 hn
  have hl : (vals news).length = n := by simp [vals, h1]
  refine wpList_copy_own hgd d s 27 27 ho 5 Tryz.underlying27 infoB1 g off m cap ⟨b, of, none⟩ n c hd hs (ar t) 5 hg (vals news) (by rw [hl]; exact (Nat.min_eq_left hnm).symm) (fun j v hv => ?_) (by rw [hl, ar_size]; exact hfit) (fun v hv => ?_) ?_
  · obtain ⟨hj, rfl⟩ := vals_get hv
    have : (⟨b, of, none⟩ : Addr).add j = ⟨b, of + j, none⟩ := by unfold Addr.add; split <;> simp_all
    rw [this]
    exact hc j hj
  · obtain ⟨y, _, rfl⟩ := List.mem_map.1 hv
    rfl
  · have e : ((ar t).toList.take off ++ (vals news ++ (ar t).toList.drop (off + (vals news).length))).toArray = ar (ovrL t off news) := by
      rw [hl]
      simp [ar, ovrL, vals, h1]
    rw [e]
    have hx : (goInt (vals news).length) = .int .i64 n := by rw [hl]; rfl
    rw [hx]
    exact h _ (Blk.setRow hg) ⟨rfl, rfl, rfl, by simp [World.setRow], fun i hi hne => setRow_other w g i _ (fun e => hne (by rw [e]))⟩ (by simp [World.setRow])
/-- s[l:], where it is not empty. -/
theorem slice_from_l (W : World) (g off len cap l : Nat) (hl : l < len) (hc : len ≤ cap) : (Instr.slice 27 (.slice (some ⟨g, off, none⟩) len cap) (some (.int .i64 (l : Int))) none none).run Tryz.prog W = .ok (.slice (some ⟨g, off + l, none⟩) (len - l) (cap - l)) W := by
  rw [run_slice_l W 27 _ _ _ (by kernel_rfl) .i64 _ (by omega) (by omega)]
  have hz : (Go.sizeOf (Tryz.prog.elem 27)).run Tryz.prog W = .ok 1 W := by kernel_rfl
  rw [hz]
  simp [Result.andThen, sliced, Addr.add]
  rw [if_neg (by omega)]
  by_cases h0 : l = 0
  · subst h0; simp
  · rw [if_neg h0]
/-- make([]byte, n). -/
theorem mkBytes (n : Nat) (hn : n ≤ 1000000000000) (W : World) : (Instr.makeSlice 27 (.int .i64 n) (.int .i64 n)).run Tryz.prog W = .ok (.slice (some ⟨W.heap.size, 0, none⟩) n n) (W.alloc (.cells (ar (List.replicate n 0)) 5)) := by
  obtain ⟨i0, hi, hz0, hz1, hz2⟩ := info_parts infoU8
  have hr := run_make (P := Tryz.prog) W 27 5 i0 (.int .u8 0) Tryz.underlying27 hi hz0 .i64 .i64 n n (by omega) (Int.le_refl _) (by rw [hz2]; omega) (by omega)
  rw [hz1] at hr
  simp only [Int.toNat_natCast] at hr
  have e : madeCells (Value.int .u8 0).cells (n * 1) = ar (List.replicate n 0) := by
    apply Array.ext
    · simp [size_madeCells, ar, vals]
    · intro i h1 h2
      simp [madeCells, Value.cells, Nat.mod_one, ar, vals]
  rw [e] at hr
  exact hr
end Go.Proofs.YtbggkfomfeeikaaGreatDoor
/-
  ptr.Row, whatever pointers it is handed; nothing that was there is written.
-/
namespace Go.Proofs.YtbggkfomfeeikaaGreatDoor
open Go.RowKit Go.Shelf
set_option maxRecDepth 100000

/-- A row's first k pointers, and noughts. -/
def rowTo (L : List Pt) (k : Nat) : List UInt8 := (L.take k).flatMap bytesP ++ List.replicate (256 - 16 * k) 0
theorem flat_length : ∀ L : List Pt, (L.flatMap bytesP).length = 16 * L.length
  | [] => rfl
  | p :: L => by rw [List.flatMap_cons, List.length_append, bytesP_length, flat_length L, List.length_cons]; omega
theorem rowTo_length (L : List Pt) (k : Nat) (hk : k ≤ L.length) (h16 : k ≤ 16) : (rowTo L k).length = 256 := by
  rw [rowTo, List.length_append, flat_length, List.length_take, List.length_replicate]
  omega
theorem rowTo_step (L : List Pt) (k : Nat) (hk : k < L.length) (h16 : k < 16) : ovrL (rowTo L k) (16 * k) (bytesP (L.getD k p0)) = rowTo L (k + 1) := by
  have hf : ((L.take k).flatMap bytesP).length = 16 * k := by rw [flat_length, List.length_take]; omega
  have hg : L.getD k p0 = L[k] := by rw [List.getD_eq_getElem?_getD, List.getElem?_eq_getElem hk]; rfl
  have e1 : (rowTo L k).take (16 * k) = (L.take k).flatMap bytesP := by rw [rowTo, ← hf, List.take_left]
  have e2 : (rowTo L k).drop (16 * k + 16) = List.replicate (256 - 16 * (k + 1)) 0 := by
    rw [rowTo, List.drop_append, hf, List.drop_eq_nil_of_le (by omega), List.nil_append, List.drop_replicate]
    congr 1
    omega
  rw [ovrL, bytesP_length, e1, e2, hg, rowTo, List.take_succ_eq_append_getElem hk, List.flatMap_append, List.append_assoc]
  simp
/-- What Row answers. -/
def rowO (L : List Pt) : List UInt8 × Int := if 16 < L.length then ([], 4) else if ∀ p ∈ L, MayP p then (rowTo L L.length, 0) else ([], 8)

theorem make_256 : ∀ W : World, (Instr.makeSlice 27 (.int .i64 256) (.int .i64 256)).run Tryz.prog W = .ok (.slice (some ⟨W.heap.size, 0, none⟩) 256 256) (W.alloc (.cells (ar (List.replicate 256 0)) 5)) := mkBytes 256 (by omega)
set_option maxHeartbeats 1000000 in
theorem Row_any (a : Option Addr) (len cap : Nat) (L : List Pt) (w : World) (hL : Pts w w.heap.size a len cap L) (hz : Szs w) : Calls Tryz.prog 28 #[.slice a len cap] w (OutB (rowO L).1 (rowO L).2 w) := by
  have hl := hL.1
  have i0 : (0 : Int) ≤ (len : Int) := by omega
  have i1 : (len : Int) ≤ 9223372036854775807 := by have h1 := hL.2.1; have h2 := hL.2.2.1; unfold maxLen at h2; omega
  rw [rowO]
  by_cases h16 : 16 < L.length
  · rw [if_pos h16]
    have i2 : (16 : Int) < (len : Int) := by omega
    clear hz
    have HLL := Lib.hid hL; clear hL
    have HH := Lib.hid h16; clear h16
    clear hl
    go_enter Tryz.func28, Tryz.ntmps28
    go_wp2_with fail
    go_ret2
    exact outB_no rfl (Below.refl _ _)
  · rw [if_neg h16]
    have i2 : ¬ (16 : Int) < (len : Int) := by omega
    obtain ⟨R, hR⟩ : ∃ R, (if ∀ p ∈ L, MayP p then (rowTo L L.length, (0 : Int)) else ([], 8)) = R := ⟨_, rfl⟩
    rw [hR]
    have HRR := Lib.hid hR; clear hR
    have hmk := make_256
    have HLL := Lib.hid hL; clear hL
    have HH := Lib.hid h16; clear h16
    have HZ := Lib.hid hz; clear hz
    have HLN := Lib.hid hl; clear hl
    go_enter Tryz.func28, Tryz.ntmps28
    go_wp2_with fail
    go_loopw [15] (fun i wr => ∃ k : Nat, k ≤ len ∧ i = .int .i64 k ∧ (∀ j, j < k → MayP (L.getD j p0)) ∧ Blk wr w.heap.size 5 (ar (rowTo L k)) ∧ Below w.heap.size w wr) (fun i _ => len - (intOf i).toNat)
    case atStart =>
      refine ⟨0, Nat.zero_le _, rfl, fun j hj => absurd hj (Nat.not_lt_zero _), ?_, (Below.refl _ w).alloc (Nat.le_refl _) _⟩
      have : rowTo L 0 = List.replicate 256 0 := by simp [rowTo]
      rw [this]
      exact Blk.new w _ _
    case round =>
      obtain ⟨k, hk, rfl, hmay, hx, hb⟩ := hrel
      have k0 : (0 : Int) ≤ k := by omega
      have HX := Lib.hid hx; clear hx
      have HB := Lib.hid hb; clear hb
      have HM := Lib.hid hmay; clear hmay
      by_cases hlt : k < len
      · have k1 : (k : Int) < len := by omega
        have k16 : k < 16 := by have := HH.out; have := HLN.out; omega
        have k2 : (k : Int) ≤ 15 := by omega
        obtain ⟨b, off, ea, hblt, hwf, c0, c1, c2, c3, c4⟩ := (HLL.out.below HB.out).cells k hlt
        have hstep := rowTo_step L k (by rw [HLN.out]; exact hlt) k16
        have hlen := rowTo_length L k (by rw [HLN.out]; exact hk) (by omega)
        have HC := HM.out
        obtain ⟨P, hP⟩ : ∃ P, L.getD k p0 = P := ⟨_, rfl⟩
        rw [hP] at hwf c0 c1 c2 c3 c4 hstep
        have hwrite := Write_any P hwf (wr.alloc (.cells (ptC P).toArray 32)) (HZ.out.step (HB.out.alloc HB.out.size _))
        have HBA := Lib.hid (HB.out.alloc HB.out.size (.cells (ptC P).toArray 32))
        have HXA := Lib.hid (HX.out.alloc (.cells (ptC P).toArray 32))
        have HST := Lib.hid hstep; clear hstep
        have HLE := Lib.hid hlen; clear hlen
        have HP := Lib.hid hP; clear hP
        subst ea
        rw [pwriteO] at hwrite
        by_cases h : MayP P
        · rw [if_pos h] at hwrite
          have HH1 := Lib.hid h; clear h HC
          obtain ⟨a', b', c', d', e'⟩ := P
          have HW := Lib.hid hwrite; clear hwrite
          have hsl := fun W => slice_from_l W w.heap.size 0 256 256 (16 * k) (by omega) (Nat.le_refl _)
          have ek : ((16 * k : Nat) : Int) = (k : Int) * 16 := by omega
          simp only [ek, Nat.zero_add] at hsl
          clear ek
          go_wp2_with (first
            | (go_at_call 49
               refine HW.out.mono ?_
               rintro ev w1 ⟨v1, rfl, o1, b1⟩
               rw [bytesP_length] at o1
               obtain ⟨A1, C1, rfl, s1⟩ := own_to o1
               have HS1 := Lib.hid s1
               have HB1 := Lib.hid (HBA.out.trans (b1.mono HBA.out.size))
               have HX1 := Lib.hid (HXA.out.below b1 HXA.out.lt)
               clear o1 s1 b1)
            | (with_reducible refine copyAt ?_
               refine wpList_copy_part rfl (.tmp 31) (.tmp 32) rfl w.heap.size (16 * k) (256 - 16 * k) 16 (256 - 16 * k) rfl (rowTo L k) HX1.out w1.heap.size A1 C1 (bytesP (a', b', c', d', e')) rfl HS1.out (by omega) (by omega) (by rw [HLE.out]; omega) ?_
               intro w2 x2 g2 z2
               rw [HST.out] at x2
               have HX2 := Lib.hid x2
               have HB2 := Lib.hid (below_only HB1.out (Nat.le_refl _) g2 HB1.out.size)
               clear x2 g2 z2))
          go_roundw
          case rel =>
            refine ⟨k + 1, by omega, by go_num, fun j hj => ?_, HX2.out, HB2.out⟩
            by_cases e : j = k
            · subst e
              rw [HP.out]
              exact HH1.out
            · exact HM.out j (by omega)
          case measure => simp [intOf]; omega
        · rw [if_neg h] at hwrite
          have hno : ¬ ∀ p ∈ L, MayP p := fun hall => h (by
            rw [← HP.out, List.getD_eq_getElem?_getD, List.getElem?_eq_getElem (by rw [HLN.out]; exact hlt)]
            exact hall _ (List.getElem_mem _))
          have hR := HRR.out
          rw [if_neg hno] at hR
          subst hR
          clear h HC hno
          obtain ⟨a', b', c', d', e'⟩ := P
          have HW := Lib.hid hwrite; clear hwrite
          go_wp2_with (go_at_call 49
                       refine HW.out.mono ?_
                       rintro ev w1 ⟨v1, rfl, o1, b1⟩
                       have HB1 := Lib.hid (HBA.out.trans (b1.mono HBA.out.size))
                       clear o1 b1)
          go_ret2
          exact outB_no rfl HB1.out
      · obtain rfl : k = len := by omega
        have hall : ∀ p ∈ L, MayP p := fun p hp => by
          obtain ⟨i, hi, rfl⟩ := List.getElem_of_mem hp
          have := HM.out i (by rw [← HLN.out]; exact hi)
          rwa [List.getD_eq_getElem?_getD, List.getElem?_eq_getElem hi] at this
        have hR := HRR.out
        rw [if_pos hall] at hR
        subst hR
        clear hall
        have hlen := rowTo_length L L.length (Nat.le_refl _) (by have := HH.out; omega)
        have HLE := Lib.hid hlen; clear hlen
        go_wp2_with fail
        go_ret2
        refine ⟨_, rfl, ?_, HB.out⟩
        have hx := HX.out
        rw [← HLN.out] at hx
        show wr.ownsRow _ _ _ _ (rowTo L L.length).length _
        rw [HLE.out]
        refine ⟨by simp [vals, HLE.out], .inr ⟨w.heap.size, 256, _, rfl, Nat.le_refl _, hx, Nat.le_refl _, by unfold maxLen; omega, by rw [ar_size, HLE.out], ?_⟩⟩
        show (ar (rowTo L L.length)).toList.take _ = vals (rowTo L L.length)
        rw [List.take_of_length_le (by simp [ar, vals, HLE.out])]
        simp [ar]
end Go.Proofs.YtbggkfomfeeikaaGreatDoor
/-
  The document's own Packed and Row of pointers.
-/
namespace Go.Proofs.YtbggkfomfeeikaaGreatDoor
open Go.RowKit Go.Shelf
set_option maxRecDepth 100000

/-- The bytes of the first k places of a row. -/
def packTo (L : List Pt) (k : Nat) : List UInt8 := (List.range k).flatMap fun i => bytesP (L.getD i p0)
theorem packTo_length (L : List Pt) : ∀ k, (packTo L k).length = 16 * k
  | 0 => rfl
  | k + 1 => by
    rw [packTo, List.range_succ, List.flatMap_append, List.length_append]
    have := packTo_length L k
    rw [packTo] at this
    rw [this, List.flatMap_cons, List.flatMap_nil, List.append_nil, bytesP_length]
    omega
theorem packTo_step (L : List Pt) (k : Nat) : packTo L (k + 1) = packTo L k ++ bytesP (L.getD k p0) := by
  rw [packTo, List.range_succ, List.flatMap_append, List.flatMap_cons, List.flatMap_nil, List.append_nil]
  rfl
theorem bytesP_none : bytesP p0 = List.replicate 16 0 := by decide +kernel
theorem packTo_nil : ∀ m, packTo [] m = List.replicate (16 * m) 0
  | 0 => rfl
  | m + 1 => by
    rw [packTo_step, packTo_nil m]
    show _ ++ bytesP p0 = _
    rw [bytesP_none, List.replicate_append_replicate]
    congr 1
theorem packTo_all : ∀ (L : List Pt) (m : Nat), L.length ≤ m → packTo L m = L.flatMap bytesP ++ List.replicate (16 * (m - L.length)) 0
  | [], m, _ => by rw [packTo_nil]; rfl
  | p :: L, m + 1, h => by
    have ih := packTo_all L m (by simpa using h)
    rw [packTo] at ih ⊢
    rw [List.range_succ_eq_map, List.flatMap_cons, List.flatMap_map]
    show bytesP p ++ (List.range m).flatMap (fun i => bytesP (L.getD i p0)) = _
    rw [ih, List.flatMap_cons, List.append_assoc, List.length_cons, Nat.add_sub_add_right]
theorem packTo_row (L : List Pt) (h : L.length ≤ 16) : packTo L 16 = rowTo L L.length := by
  rw [packTo_all L 16 h, rowTo, List.take_length]
  congr 2
  omega
theorem getD_may {L : List Pt} (h : ∀ p ∈ L, MayP p) (i : Nat) : MayP (L.getD i p0) := by
  rcases Nat.lt_or_ge i L.length with hi | hi
  · rw [List.getD_eq_getElem?_getD, List.getElem?_eq_getElem hi]
    exact h _ (List.getElem_mem hi)
  · rw [List.getD_eq_getElem?_getD, List.getElem?_eq_none hi]
    exact may_p0
theorem getD_wf {L : List Pt} (h : ∀ p ∈ L, WfP p) (i : Nat) : WfP (L.getD i p0) := by
  rcases Nat.lt_or_ge i L.length with hi | hi
  · rw [List.getD_eq_getElem?_getD, List.getElem?_eq_getElem hi]
    exact h _ (List.getElem_mem hi)
  · rw [List.getD_eq_getElem?_getD, List.getElem?_eq_none hi]
    exact wf_p0
end Go.Proofs.YtbggkfomfeeikaaGreatDoor
/-
  slices.Chunk of a slice of bytes by sixteens, of a length that sixteens make up, hands the loop its windows in their order.
-/
namespace Go.Proofs.YtbggkfomfeeikaaGreatDoor
open Go.RowKit Go.Shelf
set_option maxRecDepth 100000
attribute [local go_sem] Oper.semAt_some

/-- What the walk goes on reading: the box of the slice, and that of the size. -/
def ReachD (Bs Bn : Nat) (A : Option Addr) (q cap : Nat) (W : World) : Prop :=
  W.cell? ⟨Bs, 0, none⟩ = some (.slice A (16 * q) cap) ∧ W.cell? ⟨Bn, 0, none⟩ = some (.int .i64 16)

theorem chunk16_in (F : Fence) (n : Nat) (h : F.fn 81) (hro : F.round = none) (a : Option Addr) (len cap : Nat) (w : World) :
    CallsIn F n Tryz.prog 81 #[.slice a len cap, .int .i64 16] w fun e w' => e = .returned (.func (.func 113) #[] #[.pointer (some ⟨w.heap.size, 0, none⟩), .pointer (some ⟨w.heap.size + 1, 0, none⟩)]) ∧
      w' = (w.alloc (.cells #[.slice a len cap] 27)).alloc (.cells #[.int .i64 16] 3) := by
  refine callsIn_of_wp Tryz.func81 rfl h ?_ hro
  simp only [Tryz.ntmps81, List.size_toArray, List.length_cons, List.length_nil, Nat.reduceAdd, Nat.reduceSub, Array.replicate_succ, Array.replicate_zero, List.push_toArray, List.append_toArray, List.nil_append, List.cons_append]
  gi_wp2
  go_ret
  exact ⟨rfl, rfl⟩

/-- The window of number x. -/
@[reducible] def win16 (b off : Nat) (x : Nat) : Array Value := #[.slice (some ⟨b, off + 16 * x, none⟩) 16 16]

set_option maxHeartbeats 2000000 in
theorem chunk16b_in (n : Nat) (hn : 1 ≤ n) (l Bs Bn b off q cap : Nat) (A : Option Addr) (hA : 0 < q → A = some ⟨b, off, none⟩) (hqc : 16 * q ≤ cap) (hcm : cap ≤ 9223372036854775807) (J Jx : List (Fin q) → World → Prop)
    (hY : ∀ pre x W, J pre W → pre.length < q → YieldAt Fence.wide (n - 1) Tryz.prog l (win16 b off x.val) W fun e W' =>
      (e = .returned (.bool true) ∧ J (pre ++ [x]) W' ∧ (ReachD Bs Bn A q cap W → ReachD Bs Bn A q cap W')) ∨ (e = .returned (.bool false) ∧ Jx (pre ++ [x]) W'))
    (hJd : ∀ pre W, J pre W → J pre W.drew)
    (W : World) (hR : ReachD Bs Bn A q cap W) (h0 : J [] W) :
    CallsIn Fence.wide n Tryz.prog 113 #[.func (.yield l) #[] #[], .pointer (some ⟨Bs, 0, none⟩), .pointer (some ⟨Bn, 0, none⟩)] W fun e W' => (∃ v, e = .returned v) ∧
      ((∃ ys, ys.map (·.val) = List.range q ∧ J ys W') ∨ (∃ pre, pre.map (·.val) = List.range pre.length ∧ Jx pre W')) := by
  refine callsIn_of_wp Tryz.func113 rfl trivial ?_ rfl
  simp only [Tryz.ntmps113, List.size_toArray, List.length_cons, List.length_nil, Nat.reduceAdd, Nat.reduceSub, Array.replicate_succ, Array.replicate_zero, List.push_toArray, List.append_toArray, List.nil_append, List.cons_append]
  have hmx : Tryz.prog.follows Departure.mixedOrders = true := by kernel_rfl
  have HR := Lib.hid hR
  clear hR
  gi_wp2
  gi_loopw [4] (fun i wr => ∃ pre : List (Fin q), pre.map (·.val) = List.range pre.length ∧ pre.length ≤ q ∧ i = .int .i64 ((16 * pre.length : Nat) : Int) ∧ J pre wr ∧ ReachD Bs Bn A q cap wr)
    (fun i _ => 16 * q - (intOf i).toNat)
  case atStart => exact ⟨[], rfl, Nat.zero_le _, rfl, h0, HR.out⟩
  case round =>
    obtain ⟨pre, hC, hle, rfl, hJs, hRs⟩ := hrel
    obtain ⟨k, hk⟩ : ∃ k, pre.length = k := ⟨_, rfl⟩
    have hb1 := hRs.1
    have hb2 := hRs.2
    obtain ⟨m, hm⟩ : ∃ m : Nat, 16 * k = m := ⟨_, rfl⟩
    obtain ⟨L, hL⟩ : ∃ L : Nat, 16 * q = L := ⟨_, rfl⟩
    rw [hL] at hb1
    rw [hk, hm]
    by_cases hlt : k < q
    · rw [hA (by omega)] at hb1
      have hmL : m < L := by omega
      have hm8 : m + 16 ≤ L := by omega
      have hLc : L ≤ cap := by omega
      have HRs := Lib.hid hRs; clear hRs
      have HM := Lib.hid hm; clear hm
      have HL := Lib.hid hL; clear hL
      have HK := Lib.hid hk; clear hk
      have h8 : ((m : Int) < (L : Int)) := by omega
      have h80 : (0 : Int) ≤ (m : Int) := by omega
      have h8m : (L : Int) ≤ 9223372036854775807 := by omega
      have hsl := fun W => slice_from_l W b off L cap m hmL hLc
      have hmin : min (16 : Int) ((L - m : Nat) : Int) = 16 := by omega
      gi_wp2
      refine region_wide_tail 6 hmx (by kernel_rfl) (fun h => by obtain ⟨_, _, ⟨v, hv⟩, _⟩ := h; cases hv) (by kernel_rfl) ?_
      simp only [List.take_succ_cons, List.take_zero, List.drop_succ_cons, List.drop_zero]
      repeat still_step
      refine wpStill_nil ?_
      obtain ⟨fn, tmps, assign, body, hy, hR⟩ := hY pre ⟨k, hlt⟩ wr.drew (hJd _ _ hJs) (by rw [HK.out]; exact hlt)
      have hw : win16 b off k = #[.slice (some ⟨b, off + m, none⟩) 16 16] := by rw [win16, HM.out]
      dsimp only at hy
      rw [hw] at hy
      clear hw
      have HC := Lib.hid hC; clear hC
      go_wp2
      gi_wp2
      refine hR.mono ?_
      rintro e W3 (⟨rfl, hJ3, hk3⟩ | ⟨rfl, hJx3⟩)
      · have hr3 := hk3 HRs.out
        have hb3 := hr3.2
        have HR3 := Lib.hid hr3; clear hr3 hk3
        gi_wp2
        go_roundw
        case rel => exact ⟨pre ++ [⟨k, hlt⟩], by simp [HC.out, List.range_succ, HK.out], by simp; rw [HK.out]; omega, by simp [HK.out]; have := HM.out; omega, hJ3, HR3.out⟩
        case measure => simp [intOf]; have := HM.out; have := HL.out; omega
      · gi_wp2
        refine bodyPost_ret (results_none rfl _ _ _) rfl ?_
        exact ⟨⟨_, rfl⟩, .inr ⟨_, by simp [HC.out, List.range_succ, HK.out], hJx3⟩⟩
    · have hkq : k = q := by omega
      have hmL : m = L := by omega
      rw [hmL]
      have HRs := Lib.hid hRs; clear hRs
      have HM := Lib.hid hm; clear hm
      have HL := Lib.hid hL; clear hL
      have HK := Lib.hid hk; clear hk
      have HKQ := Lib.hid hkq; clear hkq
      have HC := Lib.hid hC; clear hC
      clear hmL
      gi_wp2
      go_end0
      exact ⟨⟨_, rfl⟩, .inl ⟨pre, by rw [HC.out, HK.out, HKQ.out], hJs⟩⟩

theorem reachD_putObj {Bs Bn : Nat} {A : Option Addr} {q cap : Nat} {W : World} (l : Nat) (o o' : Obj) (h : W.heap[l]? = some o) (ho : o.isCells = false) (hR : ReachD Bs Bn A q cap W) : ReachD Bs Bn A q cap (W.putObj l o') := by
  have hk : ∀ r, some l = some r → ∃ o : Obj, W.heap[r]? = some o ∧ o.isCells = false := fun r e => by cases e; exact ⟨_, h, ho⟩
  exact ⟨cell_kept hR.1 (grownBy_putObj' W l o') hk, cell_kept hR.2 (grownBy_putObj' W l o') hk⟩

theorem stopsD (n : Nat) (hn : 1 ≤ n) (Bs Bn b off q cap : Nat) (A : Option Addr) (hA : 0 < q → A = some ⟨b, off, none⟩) (hqc : 16 * q ≤ cap) (hcm : cap ≤ 9223372036854775807) (w : World) (hBs : Bs < w.heap.size) (hBn : Bn < w.heap.size) (hR : ReachD Bs Bn A q cap w) :
    SeqStopsK Fence.wide n Tryz.prog 113 #[.pointer (some ⟨Bs, 0, none⟩), .pointer (some ⟨Bn, 0, none⟩)] (fun x : Fin q => win16 b off x.val) (fun W W' => ReachD Bs Bn A q cap W → ReachD Bs Bn A q cap W')
      (fun ys => ys.map (·.val) = List.range q) (fun pre => pre.map (·.val) = List.range pre.length) q w := fun l J Jx W hW hJ _ hY h0 =>
  chunk16b_in n hn l Bs Bn b off q cap A hA hqc hcm J Jx hY (fun s W1 h => hJ s W1 W1.drew none h (only_drew (World.grownBy.refl W1 none)) (fun r e => by cases e)) W
    ⟨(hW.cell (p := ⟨Bs, 0, none⟩) hBs).trans hR.1, (hW.cell (p := ⟨Bn, 0, none⟩) hBn).trans hR.2⟩ h0
end Go.Proofs.YtbggkfomfeeikaaGreatDoor
/-
  ptr.Rows, whatever bytes it is handed; nothing that was there is written.
-/
namespace Go.Proofs.YtbggkfomfeeikaaGreatDoor
open Go.RowKit Go.Shelf
set_option maxRecDepth 100000
attribute [local go_sem] Oper.semAt_some

/-- The window of number i. -/
def winP (s : List UInt8) (i : Nat) : List UInt8 := (s.drop (16 * i)).take 16
/-- The pointers of a row. -/
def rowsL (s : List UInt8) : List Pt := (List.range 16).map fun i => getP (winP s i)
/-- What Rows answers. -/
def rowsO (s : List UInt8) : List Pt × Int := if s.length = 256 then (if ∀ p ∈ rowsL s, MayP p then (rowsL s, 0) else ([], 8)) else ([], 3)
/-- A list of pointers of the call's own, and an error's number. -/
def OutL (L : List Pt) (c : Int) (w : World) (e : Ending) (w' : World) : Prop := ∃ v, e = .returned (.tuple #[v, .int .i64 c]) ∧ PRow w' w.heap.size v L ∧ Below w.heap.size w w'

/-- What the loop keeps. -/
def RwI (s : List UInt8) (g q : Nat) (pre : List (Fin q)) (W : World) : Prop :=
  Blk W g 35 #[.slice none 0 0] ∧ Blk W (g + 1) 36 #[.int .i64 0] ∧ Blk W (g + 3) 35 #[.slice (some ⟨g + 2, 0, none⟩) pre.length 16] ∧
    W.ownsRow g 32 5 (.slice (some ⟨g + 2, 0, none⟩) pre.length 16) pre.length (ptCs (pre.map fun x => getP (winP s x.val))) ∧ ∀ x ∈ pre, MayP (getP (winP s x.val))
/-- What stands where it was left. -/
def RwX (s : List UInt8) (g : Nat) (W : World) : Prop := Blk W g 35 #[.slice none 0 0] ∧ Blk W (g + 1) 36 #[.int .i64 8] ∧ ∃ i, i < 16 ∧ ¬ MayP (getP (winP s i))
theorem own_kept5 {w w' : World} {B g n cap : Nat} {e : TypeId} {size : Nat} {xs : List Value} {row : Option Nat} (h : w.ownsRow B e size (.slice (some ⟨g, 0, none⟩) n cap) n xs) (hg : w.grownBy w' row) (hk : ∀ r, row = some r → ∃ o : Obj, w.heap[r]? = some o ∧ o.isCells = false) : w'.ownsRow B e size (.slice (some ⟨g, 0, none⟩) n cap) n xs := by
  refine h.kept hg (.inr fun er => ?_)
  obtain ⟨o, ho, hc⟩ := hk g (by simpa [Value.ownBlock] using er.symm)
  obtain ⟨h1, ⟨h2, h3⟩ | ⟨g', cap', cur, h2, hb, hh, _⟩⟩ := h
  · cases h2
  · cases h2
    rw [hh] at ho; cases ho; cases hc
theorem own5_blk {w : World} {B g n cap : Nat} {e : TypeId} {size : Nat} {xs : List Value} (h : w.ownsRow B e size (.slice (some ⟨g, 0, none⟩) n cap) n xs) : ∃ cs, Blk w g e cs := by
  obtain ⟨h1, ⟨h2, h3⟩ | ⟨g', cap', cur, h2, hb, hh, _⟩⟩ := h
  · cases h2
  · cases h2
    exact ⟨_, hh⟩
theorem rwI_own (s : List UInt8) (g q : Nat) : Own (RwI s g q) := fun pre A B row hs hg hr => by
  obtain ⟨h1, h2, h3, h4, h5⟩ := hs
  exact ⟨blk_kept h1 hg hr, blk_kept h2 hg hr, blk_kept h3 hg hr, own_kept5 h4 hg hr, h5⟩
theorem rwX_own {β : Type} (s : List UInt8) (g : Nat) : Own (fun (_ : β) W => RwX s g W) := fun pre A B row hs hg hr => by
  obtain ⟨h1, h2, h3⟩ := hs
  exact ⟨blk_kept h1 hg hr, blk_kept h2 hg hr, h3⟩
theorem kept_below {W W' : World} (h : Below W.heap.size W W') : KeepsOthers W W' := ⟨h.size, fun k _ hk _ => (h.block k (Array.getElem?_eq_some_iff.1 hk).1).trans hk⟩
theorem atAppendIn {F : Fence} {n : Nat} {P : Program} {ops : Array Oper} {Q : Exit → Act → World → Prop} {a : Act} {w : World} {rest : List Oper} {d : Option Tmp} {ty : TypeId} {x : Array Operand} {y : Array TypeId} {pos : String} {af : Array Edge} (h : wpListIn F n P ops Q (⟨d, .call { callee := .builtin .append, args := x, argTypes := y }, ty, pos, af, none⟩ :: rest) a w) : wpListIn F n P ops Q (⟨d, .call { callee := .builtin .append, args := x, argTypes := y }, ty, pos, af, none⟩ :: rest) a w := h
theorem below_putO {B l : Nat} (W : World) (o : Obj) (h : B ≤ l) : Below B W (W.putObj l o) := ⟨rfl, rfl, rfl, by simp, fun k hk => World.putObj_heap_other (by omega)⟩
theorem infoPt : (Tryz.prog.info? 32).map (fun i => (i.zero, i.size, i.bytes)) = some (some (.agg #[.int .i64 0, .int .u32 0, .int .u32 0, .int .u32 0, .int .u32 0]), 5, 24) := by kernel_rfl
theorem make_pts : ∃ cs : Array Value, cs.size = 80 ∧ ∀ W : World, (Instr.makeSlice 35 (.int .i64 0) (.int .i64 16)).run Tryz.prog W = .ok (.slice (some ⟨W.heap.size, 0, none⟩) 0 16) (W.alloc (.cells cs 32)) := by
  obtain ⟨i0, hi, hz0, hz1, hz2⟩ := info_parts infoPt
  refine ⟨madeCells (Value.agg #[.int .i64 0, .int .u32 0, .int .u32 0, .int .u32 0, .int .u32 0]).cells (16 * i0.size), by rw [size_madeCells, hz1], fun W => ?_⟩
  have hr := run_make (P := Tryz.prog) W 35 32 i0 (.agg #[.int .i64 0, .int .u32 0, .int .u32 0, .int .u32 0, .int .u32 0]) Tryz.underlying35 hi hz0 .i64 .i64 0 16 (Int.le_refl _) (by omega) (by rw [hz2]; omega) (by omega)
  simpa using hr
set_option maxHeartbeats 4000000 in
theorem rows_in (m : Nat) (hm : 3 ≤ m) (a : Option Addr) (cap : Nat) (s : List UInt8) (w : World) (hB : Bsl w w.heap.size a 256 cap s) (hz : Szs w) :
    CallsIn Fence.wide m Tryz.prog 55 #[.slice a 256 cap] w (OutL (rowsO s).1 (rowsO s).2 w) := by
  have hro : Fence.wide.round = none := rfl
  have hmx : Tryz.prog.follows Departure.mixedOrders = true := by kernel_rfl
  obtain ⟨cs, hcs, hmk⟩ := make_pts
  have hs := hB.1
  obtain ⟨b, off, ea, hblt, hcell⟩ := hB.2.2.2.2 (by omega)
  subst ea
  have hcap := hB.2.1
  have hcm := hB.2.2.1
  obtain ⟨R, hR⟩ : ∃ R, rowsO s = R := ⟨_, rfl⟩
  rw [hR]
  have HRR := Lib.hid hR; clear hR
  have HCS := Lib.hid hcs; clear hcs
  have HB := Lib.hid hB; clear hB
  have HZ := Lib.hid hz; clear hz
  have HS := Lib.hid hs; clear hs
  have HCE := Lib.hid hcell; clear hcell
  refine callsIn_of_wp_marks Tryz.func55 rfl trivial ?_ hro
  simp only [Tryz.ntmps55, List.size_toArray, List.length_cons, List.length_nil, Nat.reduceAdd, Nat.reduceSub, Array.replicate_succ, Array.replicate_zero, List.push_toArray, List.append_toArray, List.nil_append, List.cons_append]
  have hd : 1 ≤ m := by omega
  gi_wp2_with (refine ⟨trivial, ?_⟩; (gi_at_call 81; refine (chunk16_in Fence.wide (m - 1) trivial hro _ _ _ _).mono ?_; rintro e w' ⟨rfl, rfl⟩))
  obtain ⟨g, hg⟩ : ∃ g, w.heap.size = g := ⟨_, rfl⟩
  obtain ⟨W0, hW0⟩ : ∃ W0, ((((((w.alloc (Obj.cells #[Value.slice none 0 0] 35)).alloc (Obj.cells #[Value.int IntKind.i64 0] 36)).alloc (Obj.cells cs 32)).alloc (Obj.cells #[Value.slice (some { block := w.heap.size + 1 + 1, off := 0 }) 0 16] 35)).alloc (Obj.cells #[Value.slice (some { block := b, off := off }) 256 cap] 27)).alloc (Obj.cells #[Value.int IntKind.i64 16] 3)) = W0 := ⟨_, rfl⟩
  have hsz : W0.heap.size = g + 6 := by rw [← hW0]; simp [hg]
  have hB0 : Below g w W0 := by rw [← hW0, ← hg]; exact ((((((Below.refl _ w).alloc (Nat.le_refl _) _).alloc (by simp) _).alloc (by simp; omega) _).alloc (by simp; omega) _).alloc (by simp; omega) _).alloc (by simp; omega) _
  have b0 : Blk W0 (g) 35 #[.slice none 0 0] := by
    have := (((((Blk.new w 35 #[.slice none 0 0]).alloc (Obj.cells #[Value.int IntKind.i64 0] 36)).alloc (Obj.cells cs 32)).alloc (Obj.cells #[Value.slice (some { block := w.heap.size + 1 + 1, off := 0 }) 0 16] 35)).alloc (Obj.cells #[Value.slice (some { block := b, off := off }) 256 cap] 27)).alloc (Obj.cells #[Value.int IntKind.i64 16] 3)
    rw [hW0, hg] at this
    exact this
  have b1 : Blk W0 (g + 1) 36 #[.int .i64 0] := by
    have := ((((Blk.new (w.alloc (Obj.cells #[Value.slice none 0 0] 35)) 36 #[.int .i64 0]).alloc (Obj.cells cs 32)).alloc (Obj.cells #[Value.slice (some { block := w.heap.size + 1 + 1, off := 0 }) 0 16] 35)).alloc (Obj.cells #[Value.slice (some { block := b, off := off }) 256 cap] 27)).alloc (Obj.cells #[Value.int IntKind.i64 16] 3)
    rw [World.size_alloc, hW0, hg] at this
    exact this
  have b2 : Blk W0 (g + 2) 32 cs := by
    have := (((Blk.new ((w.alloc (Obj.cells #[Value.slice none 0 0] 35)).alloc (Obj.cells #[Value.int IntKind.i64 0] 36)) 32 cs).alloc (Obj.cells #[Value.slice (some { block := w.heap.size + 1 + 1, off := 0 }) 0 16] 35)).alloc (Obj.cells #[Value.slice (some { block := b, off := off }) 256 cap] 27)).alloc (Obj.cells #[Value.int IntKind.i64 16] 3)
    rw [World.size_alloc, World.size_alloc, hW0, hg] at this
    exact this
  have b3 : Blk W0 (g + 3) 35 #[.slice (some ⟨g + 1 + 1, 0, none⟩) 0 16] := by
    have := ((Blk.new (((w.alloc (Obj.cells #[Value.slice none 0 0] 35)).alloc (Obj.cells #[Value.int IntKind.i64 0] 36)).alloc (Obj.cells cs 32)) 35 #[.slice (some ⟨w.heap.size + 1 + 1, 0, none⟩) 0 16]).alloc (Obj.cells #[Value.slice (some { block := b, off := off }) 256 cap] 27)).alloc (Obj.cells #[Value.int IntKind.i64 16] 3)
    rw [World.size_alloc, World.size_alloc, World.size_alloc, hW0, hg] at this
    exact this
  have b4 : Blk W0 (g + 4) 27 #[.slice (some ⟨b, off, none⟩) 256 cap] := by
    have := (Blk.new ((((w.alloc (Obj.cells #[Value.slice none 0 0] 35)).alloc (Obj.cells #[Value.int IntKind.i64 0] 36)).alloc (Obj.cells cs 32)).alloc (Obj.cells #[Value.slice (some { block := w.heap.size + 1 + 1, off := 0 }) 0 16] 35)) 27 #[.slice (some ⟨b, off, none⟩) 256 cap]).alloc (Obj.cells #[Value.int IntKind.i64 16] 3)
    rw [World.size_alloc, World.size_alloc, World.size_alloc, World.size_alloc, hW0, hg] at this
    exact this
  have b5 : Blk W0 (g + 5) 3 #[.int .i64 16] := by
    have := Blk.new (((((w.alloc (Obj.cells #[Value.slice none 0 0] 35)).alloc (Obj.cells #[Value.int IntKind.i64 0] 36)).alloc (Obj.cells cs 32)).alloc (Obj.cells #[Value.slice (some { block := w.heap.size + 1 + 1, off := 0 }) 0 16] 35)).alloc (Obj.cells #[Value.slice (some { block := b, off := off }) 256 cap] 27)) 3 #[.int .i64 16]
    rw [World.size_alloc, World.size_alloc, World.size_alloc, World.size_alloc, World.size_alloc, hW0, hg] at this
    exact this
  obtain ⟨q, hq⟩ : ∃ q, q = 16 := ⟨_, rfl⟩
  have hqL : 16 * q = 256 := by omega
  have ho0 : W0.ownsRow g 32 5 (.slice (some ⟨g + 2, 0, none⟩) 0 16) 0 [] :=
    ⟨rfl, .inr ⟨g + 2, 16, cs, rfl, by omega, b2, Nat.zero_le _, by unfold maxLen; omega, by rw [HCS.out], rfl⟩⟩
  rw [hW0, hg]
  have hR : ReachD (g + 4) (g + 5) (some ⟨b, off, none⟩) q cap W0 := ⟨by rw [hqL]; exact b4.cell 0, b5.cell 0⟩
  refine wpIn_rangeFunc_ownG hro hd (gf := 113) (lb := #[.pointer (some ⟨g + 1 + 1 + 1 + 1, 0, none⟩), .pointer (some ⟨g + 1 + 1 + 1 + 1 + 1, 0, none⟩)]) rfl trivial (enters_of Tryz.func113 (by kernel_rfl) rfl)
    (stopsD (m - 1) (by omega) (g + 1 + 1 + 1 + 1) (g + 1 + 1 + 1 + 1 + 1) b off q cap (some ⟨b, off, none⟩) (fun _ => rfl) (by omega) (by unfold maxLen at hcm; omega) W0 (by omega) (by omega) hR) (fun h k r => k (h r)) (fun W l o o' _ h ho _ => reachD_putObj l o o' h ho) (Below.refl _ _) (fun _ => rfl)
    (fun pre W => RwI s g q pre W ∧ Below g w W) (fun c _ W => c = .ret ∧ RwX s g W ∧ Below g w W) ?hI ?hIx ⟨⟨b0, b1, b3, ho0, fun _ h => by cases h⟩, hB0⟩
    (fun x => { tmps := #[Value.slice (some { block := b, off := off }) 256 cap, undef, Value.pointer (some { block := g, off := 0 }), Value.pointer (some { block := g + 1, off := 0 }), Value.pointer (some { block := g + 1 + 1 + 1, off := 0 }),
          .slice (some ⟨b, off + 16 * x.val, none⟩) 16 16, undef, undef, Value.slice (some { block := b, off := off }) 256 cap, Value.int IntKind.i64 256, Value.bool false,
          Value.slice (some { block := g + 1 + 1, off := 0 }) 0 16, Value.slice (some { block := b, off := off }) 256 cap,
          Value.func (Fn.func 113) #[] #[Value.pointer (some { block := g + 1 + 1 + 1 + 1, off := 0 }), Value.pointer (some { block := g + 1 + 1 + 1 + 1 + 1, off := 0 })],
          .slice (some ⟨b, off + 16 * x.val, none⟩) 16 16, undef, undef, undef, undef, undef, undef, undef, undef, undef, undef, undef, undef, undef], defers := [] }) ?assign ?body ?done ?stop
  case hI => exact OwnFrom.and ((rwI_own s g q).from _) (ownFrom_below (by omega) (by omega))
  case hIx =>
    intro c
    exact fun pre A B row hs hg' hr => ⟨hs.1, ((rwX_own s g).from _) pre A B row hs.2.1 hg' hr, (ownFrom_below (by omega) (by omega)) pre A B row hs.2.2 hg' hr⟩
  case assign =>
    intro l x W K hK
    gi_wp2
    exact hK
  case body =>
    rintro l pre x W ⟨⟨h1, h2, h3, h4, h5⟩, hb⟩ hpl
    obtain ⟨n, hn⟩ : ∃ n, pre.length = n := ⟨_, rfl⟩
    obtain ⟨j, hj⟩ : ∃ j, x.val = j := ⟨_, rfl⟩
    have hj16 : j < 16 := by rw [← hj]; have := x.isLt; omega
    rw [hn] at h3 h4 hpl
    rw [hj]
    have hzW : g ≤ W.heap.size := by rw [← hg]; exact hb.size
    have hlen : (winP s j).length = 16 := win_length (by have := HS.out; omega)
    have hbW : Bsl W W.heap.size (some ⟨b, off + 16 * j, none⟩) 16 16 (winP s j) := by
      refine ⟨hlen, Nat.le_refl _, by unfold maxLen; omega, fun e => (by cases e), fun _ => ⟨b, off + 16 * j, rfl, by omega, fun i hi => ?_⟩⟩
      have hi' : 16 * j + i < s.length := by have := HS.out; omega
      rw [Nat.add_assoc, hb.cell (p := ⟨b, off + (16 * j + i), none⟩) (by rw [← hg]; exact hblt), HCE.out (16 * j + i) hi']
      simp [winP]
    have hread := Read_any _ 16 16 (winP s j) W hbW (HZ.out.below hb (by rw [← hg]; exact HZ.out.1))
    rw [preadO, if_pos hlen] at hread
    have hwf := wf_getP (winP s j)
    obtain ⟨P, hP⟩ : ∃ P, getP (winP s j) = P := ⟨_, rfl⟩
    rw [hP] at hread hwf
    by_cases hmay : MayP P
    · rw [if_pos hmay] at hread
      obtain ⟨a', b', c', d', e'⟩ := P
      have HRD := Lib.hid hread
      have H1 := Lib.hid h1
      have H2 := Lib.hid h2
      have H3 := Lib.hid h3
      have H4 := Lib.hid h4
      have H5 := Lib.hid h5
      have HBW := Lib.hid hb
      have HN := Lib.hid hn
      have HJ := Lib.hid hj
      have HP := Lib.hid hP
      have HMY := Lib.hid hmay
      have HWF := Lib.hid hwf
      have HG := Lib.hid hg
      clear hread h1 h2 h3 h4 h5 hb hn hj hP hmay hwf hg hbW hlen b0 b1 b2 b3 b4 b5 ho0 hR hB0 hW0
      have hd2 : 1 ≤ m - 1 - 1 := by omega
      gi_wp2
      refine ⟨trivial, ?_⟩
      refine (CallsIn.inRound l (callsIn_wide.2 HRD.out)).mono ?_
      rintro e W1 ⟨rfl, bb⟩
      have g3 := H3.out.below bb H3.out.lt
      have c3 : ∀ o : Obj, (W1.alloc o).cell? ⟨g + 1 + 1 + 1, 0, none⟩ = some (.slice (some ⟨g + 2, 0, none⟩) n 16) := fun o => (g3.alloc o).cell 0
      have HBB := Lib.hid bb
      clear bb g3
      obtain ⟨W2, hW2⟩ : ∃ W2, (W1.alloc (.cells #[.int .i64 a', .int .u32 (b' : Int), .int .u32 (c' : Int), .int .u32 (d' : Int), .int .u32 (e' : Int)] 32)).alloc (.cells #[.int .i64 a', .int .u32 (b' : Int), .int .u32 (c' : Int), .int .u32 (d' : Int), .int .u32 (e' : Int)] 32) = W2 := ⟨_, rfl⟩
      have hb12 : Below W1.heap.size W1 W2 := by rw [← hW2]; exact ((Below.refl _ W1).alloc (Nat.le_refl _) _).alloc (by simp) _
      have hxn : Blk W2 (W1.heap.size + 1) 32 #[.int .i64 a', .int .u32 (b' : Int), .int .u32 (c' : Int), .int .u32 (d' : Int), .int .u32 (e' : Int)] := by
        have := Blk.new (W1.alloc (.cells #[.int .i64 a', .int .u32 (b' : Int), .int .u32 (c' : Int), .int .u32 (d' : Int), .int .u32 (e' : Int)] 32)) 32 #[.int .i64 a', .int .u32 (b' : Int), .int .u32 (c' : Int), .int .u32 (d' : Int), .int .u32 (e' : Int)]
        rw [hW2, World.size_alloc] at this
        exact this
      have hb2 : Below W.heap.size W W2 := HBB.out.trans (hb12.mono HBB.out.size)
      have ho2 := own_below (own_below H4.out HBB.out) hb12
      have x0 := H1.out.below hb2 H1.out.lt
      have x1 := H2.out.below hb2 H2.out.lt
      have x3 := H3.out.below hb2 H3.out.lt
      have hBW2 : Below g w W2 := HBW.out.trans (hb2.mono hzW)
      obtain ⟨i0, hi, hz0, hz1, hz2⟩ := info_parts infoPt
      have HW2 := Lib.hid hW2
      have HX0 := Lib.hid x0
      have HX1 := Lib.hid x1
      have HX3 := Lib.hid x3
      have HO2 := Lib.hid ho2
      have HB2 := Lib.hid hb2
      have HBW2 := Lib.hid hBW2
      have HXN := Lib.hid hxn
      clear hW2 x0 x1 x3 ho2 hb2 hBW2 hxn hb12
      gi_wp2_with (with_reducible refine atAppendIn ?_
                   rw [HW2.out]
                   refine wpListIn_append_fits W2 rfl (.tmp 23) (.tmp 25) 35 rfl g 32 i0 5 Tryz.underlying35 hi hz1 (g + 2) n 16 _ rfl HO2.out ⟨W1.heap.size + 1, 0, none⟩ 1 1 (ptC (a', b', c', d', e')) rfl rfl
                     (fun t u hu => by
                        have e1 : (⟨W1.heap.size + 1, 0, none⟩ : Addr).add t = ⟨W1.heap.size + 1, t, none⟩ := by unfold Addr.add; split <;> simp_all
                        rw [e1, HXN.out.cell t]
                        show (ptC (a', b', c', d', e')).toArray[t]? = some u
                        rw [List.getElem?_toArray]
                        exact hu)
                     (fun u hu => by
                        simp only [ptC, List.mem_cons, List.not_mem_nil, or_false] at hu
                        rcases hu with rfl | rfl | rfl | rfl | rfl <;> rfl) (by omega) ?_
                   intro W3 ho3 hg3
                   have y3 := HX3.out.grown hg3 (by simp)
                   have c4 : W3.cell? ⟨g + 1 + 1 + 1, 0, none⟩ = some (.slice (some ⟨g + 2, 0, none⟩) n 16) := y3.cell 0
                   have f4 : W3.frozen? ⟨g + 1 + 1 + 1, 0, none⟩ = false := y3.frozen 0
                   have HO3 := Lib.hid ho3
                   have HG3 := Lib.hid hg3
                   have Y3 := Lib.hid y3
                   clear ho3 hg3 y3)
      obtain ⟨W4, hW4⟩ : ∃ W4, W3.setCell ⟨g + 3, 0, none⟩ (.slice (some ⟨g + 2, 0, none⟩) (n + 1) 16) = W4 := ⟨_, rfl⟩
      have gs : W3.grownBy W4 (some (g + 3)) := by rw [← hW4]; exact only_setCell (World.grownBy.refl _ _) (.inl rfl) _
      have OX : RwI s g q (pre ++ [x]) W4 ∧ Below g w W4 := by
        have hl : (pre ++ [x]).length = n + 1 := by rw [List.length_append, HN.out]; rfl
        have el : ptCs ((pre ++ [x]).map fun x => getP (winP s x.val)) = ptCs (pre.map fun x => getP (winP s x.val)) ++ ptC (a', b', c', d', e') := by
          rw [List.map_append, ptCs_append, List.map_cons, List.map_nil, HJ.out, HP.out]
          rfl
        refine ⟨⟨(HX0.out.grown HG3.out (by simp)).grown gs (by simp), (HX1.out.grown HG3.out (by simp)).grown gs (by simp), ?_, ?_, fun y hy => ?_⟩, ?_⟩
        · rw [hl, ← hW4]; exact Y3.out.set_ 0 _
        · rw [hl, el]; exact own_other HO3.out gs (fun k e => by simp [Value.ownBlock] at e; omega)
        · rcases List.mem_append.1 hy with hy | hy
          · exact H5.out y hy
          · rw [List.mem_singleton] at hy
            subst hy
            rw [HJ.out, HP.out]
            exact HMY.out
        · exact below_only (below_only HBW2.out (by omega) HG3.out (by have := HB2.out.size; omega)) (by omega) gs (by have := HB2.out.size; have := HG3.out.size; omega)
      have hk4 : KeepsOthers W W4 := ((kept_below HB2.out).trans (keepsOthers_grown HG3.out (own5_blk HO2.out).choose_spec)).trans (by rw [← hW4]; exact KeepsOthers.setCell W3 _ _)
      have hr4 : ReachD (g + 4) (g + 5) (some ⟨b, off, none⟩) q cap W → ReachD (g + 4) (g + 5) (some ⟨b, off, none⟩) q cap W4 := fun hr => by
        have l1 : g + 4 < W.heap.size := World.block_lt_of_cell? W _ hr.1
        have l2 : g + 5 < W.heap.size := World.block_lt_of_cell? W _ hr.2
        have z2 := HB2.out.size
        have z3 := HG3.out.size
        refine ⟨?_, ?_⟩
        · rw [World.cell?_of_block (a := ⟨g + 4, 0, none⟩) (gs.block (g + 4) (by omega) (by simp)), World.cell?_of_block (a := ⟨g + 4, 0, none⟩) (HG3.out.block (g + 4) (by omega) (by simp)), HB2.out.cell l1]
          exact hr.1
        · rw [World.cell?_of_block (a := ⟨g + 5, 0, none⟩) (gs.block (g + 5) (by omega) (by simp)), World.cell?_of_block (a := ⟨g + 5, 0, none⟩) (HG3.out.block (g + 5) (by omega) (by simp)), HB2.out.cell l2]
          exact hr.2
      rw [hW4]
      exact ⟨hk4.from _, hr4, OX⟩
    · rw [if_neg hmay] at hread
      have HRD := Lib.hid hread
      have H1 := Lib.hid h1
      have H2 := Lib.hid h2
      have HBW := Lib.hid hb
      have HMY := Lib.hid (show ∃ i, i < 16 ∧ ¬ MayP (getP (winP s i)) from ⟨j, hj16, by rw [hP]; exact hmay⟩)
      have HG := Lib.hid hg
      clear hread h1 h2 h3 h4 h5 hb hn hj hP hmay hwf hg hbW hlen b0 b1 b2 b3 b4 b5 ho0 hR hB0 hW0
      have hd2 : 1 ≤ m - 1 - 1 := by omega
      gi_wp2
      refine ⟨trivial, ?_⟩
      refine (CallsIn.inRound l (callsIn_wide.2 HRD.out)).mono ?_
      rintro e W1 ⟨rfl, bb⟩
      have y0 := H1.out.below bb H1.out.lt
      have y1 := H2.out.below bb H2.out.lt
      have c0 : ∀ o : Obj, (W1.alloc o).cell? ⟨g, 0, none⟩ = some (.slice none 0 0) := fun o => (y0.alloc o).cell 0
      have c1 : ∀ o : Obj, (W1.alloc o).cell? ⟨g + 1, 0, none⟩ = some (.int .i64 0) := fun o => (y1.alloc o).cell 0
      have f0 : ∀ o : Obj, (W1.alloc o).frozen? ⟨g, 0, none⟩ = false := fun o => (y0.alloc o).frozen 0
      have f1 : ∀ o : Obj, (W1.alloc o).frozen? ⟨g + 1, 0, none⟩ = false := fun o => (y1.alloc o).frozen 0
      have Y0 := Lib.hid y0
      have Y1 := Lib.hid y1
      have HBB := Lib.hid bb
      clear y0 y1 bb
      gi_wp2_with fail
      clear c0 c1 f0 f1
      obtain ⟨W2, hW2⟩ : ∃ W2, W1.alloc (.cells #[.int .i64 0, .int .u32 0, .int .u32 0, .int .u32 0, .int .u32 0] 32) = W2 := ⟨_, rfl⟩
      have hb2 : Below W.heap.size W W2 := by rw [← hW2]; exact HBB.out.trans (((Below.refl _ W1).alloc (Nat.le_refl _) _).mono HBB.out.size)
      have x0 : Blk W2 g 35 #[.slice none 0 0] := by rw [← hW2]; exact Y0.out.alloc _
      have x1 : Blk W2 (g + 1) 36 #[.int .i64 0] := by rw [← hW2]; exact Y1.out.alloc _
      have hBW2 : Below g w W2 := HBW.out.trans (hb2.mono hzW)
      rw [hW2]
      clear hW2
      obtain ⟨W4, hW4⟩ : ∃ W4, (W2.setCell ⟨g, 0, none⟩ (.slice none 0 0)).setCell ⟨g + 1, 0, none⟩ (.int .i64 8) = W4 := ⟨_, rfl⟩
      have OX : RwX s g W4 ∧ Below g w W4 := by
        rw [← hW4]
        refine ⟨⟨?_, ?_, HMY.out⟩, (hBW2.setCell (p := ⟨g, 0, none⟩) (Nat.le_refl _) _).setCell (p := ⟨g + 1, 0, none⟩) (by show g ≤ g + 1; omega) _⟩
        · exact (x0.set_ 0 (.slice none 0 0)).far (by show g ≠ g + 1; omega) _
        · exact (x1.far (by show g + 1 ≠ g; omega) _).set_ 0 (.int .i64 8)
      have hk4 : KeepsOthers W W4 := by rw [← hW4]; exact ((kept_below hb2).trans (KeepsOthers.setCell W2 _ _)).trans (KeepsOthers.setCell _ _ _)
      rw [hW4]
      exact ⟨hk4.from _, rfl, OX⟩
  case done =>
    rintro D ys W hD hC ⟨⟨h1, h2, h3, h4, h5⟩, hb⟩ hK
    have hC' : ys.map (·.val) = List.range q := hC
    have hl : ys.length = 16 := by have := congrArg List.length hC'; simp at this; omega
    rw [hl] at h3 h4
    have hys : ys.map (fun x => getP (winP s x.val)) = rowsL s := by
      have : ys.map (fun x => getP (winP s x.val)) = (ys.map (·.val)).map fun i => getP (winP s i) := by rw [List.map_map]; rfl
      rw [this, hC', hq, rowsL]
    have hall : ∀ p ∈ rowsL s, MayP p := fun p hp => by
      rw [← hys] at hp
      obtain ⟨x, hx, rfl⟩ := List.mem_map.1 hp
      exact h5 x hx
    rw [hys] at h4
    have hRR := HRR.out
    rw [rowsO, if_pos HS.out, if_pos hall] at hRR
    subst hRR
    have hDg : g + 6 ≤ D := by omega
    have c0 : W.cell? ⟨g, 0, none⟩ = some (.slice none 0 0) := h1.cell 0
    have c1 : W.cell? ⟨g + 1, 0, none⟩ = some (.int .i64 0) := h2.cell 0
    have c3 : W.cell? ⟨g + 1 + 1 + 1, 0, none⟩ = some (.slice (some ⟨g + 2, 0, none⟩) 16 16) := h3.cell 0
    have f0 : W.frozen? ⟨g, 0, none⟩ = false := h1.frozen 0
    have f1 : W.frozen? ⟨g + 1, 0, none⟩ = false := h2.frozen 0
    obtain ⟨W7, hW7⟩ : ∃ W7, (W.setCell ⟨g, 0, none⟩ (.slice (some ⟨g + 2, 0, none⟩) 16 16)).setCell ⟨g + 1, 0, none⟩ (.int .i64 0) = W7 := ⟨_, rfl⟩
    have x0 : Blk W7 g 35 #[.slice (some ⟨g + 2, 0, none⟩) 16 16] := by rw [← hW7]; exact (h1.set_ 0 _).far (by show g ≠ g + 1; omega) _
    have x1 : Blk W7 (g + 1) 36 #[.int .i64 0] := by rw [← hW7]; exact (h2.far (by show g + 1 ≠ g; omega) _).set_ 0 (.int .i64 0)
    have gs0 : W.grownBy (W.setCell ⟨g, 0, none⟩ (.slice (some ⟨g + 2, 0, none⟩) 16 16)) (some g) := only_setCell (World.grownBy.refl _ _) (.inl rfl) _
    have gs1 : (W.setCell ⟨g, 0, none⟩ (.slice (some ⟨g + 2, 0, none⟩) 16 16)).grownBy W7 (some (g + 1)) := by rw [← hW7]; exact only_setCell (World.grownBy.refl _ _) (.inl rfl) _
    have ho7 : W7.ownsRow g 32 5 (.slice (some ⟨g + 2, 0, none⟩) 16 16) 16 (ptCs (rowsL s)) := own_other (own_other h4 gs0 (fun k e => by simp [Value.ownBlock] at e; omega)) gs1 (fun k e => by simp [Value.ownBlock] at e; omega)
    have hb7 : Below g w W7 := by rw [← hW7]; exact (hb.setCell (p := ⟨g, 0, none⟩) (Nat.le_refl _) _).setCell (p := ⟨g + 1, 0, none⟩) (by show g ≤ g + 1; omega) _
    have hk7 : W7.heap[D]? = some (.deferred (some [])) := by rw [← hW7]; exact (Below.heap_setCell _ ⟨g + 1, 0, none⟩ _ D (by show D ≠ g + 1; omega)).trans ((Below.heap_setCell W ⟨g, 0, none⟩ _ D (by show D ≠ g; omega)).trans hK)
    have HX0 := Lib.hid x0
    have HX1 := Lib.hid x1
    have HO7 := Lib.hid ho7
    have HB7 := Lib.hid hb7
    have HK7 := Lib.hid hk7
    have HG := Lib.hid hg
    clear h1 h2 h3 h4 h5 hb hK hC hC' hl hys hall x0 x1 gs0 gs1 ho7 hb7 hk7 b0 b1 b2 b3 b4 b5 ho0 hR hB0 hW0 hg
    gi_wp2_with fail
    clear hW7 c0 c1 c3 f0 f1
    refine ⟨by simp, .inl ⟨_, _, rfl, run_takeDeferred HK7.out, ?_⟩⟩
    have gd := grownBy_putObj' W7 D (.deferred none)
    have z0 := HX0.out.grown gd (fun e => by injection e; omega)
    have z1 := HX1.out.grown gd (fun e => by injection e; omega)
    have e0 := z0.cell 0
    have e1 := z1.cell 0
    refine ⟨.tuple #[.slice (some ⟨g + 2, 0, none⟩) 16 16, .int .i64 0], by simp [results, Tryz.f55, go_sem, e0, e1], _, rfl, ⟨?_, fun p hp => ?_⟩, ?_⟩
    · rw [HG.out]
      exact own_other HO7.out gd (fun k e => by simp [Value.ownBlock] at e; omega)
    · obtain ⟨i, _, rfl⟩ := List.mem_map.1 hp
      exact wf_getP _
    · rw [HG.out]
      exact HB7.out.trans (below_putO _ _ (by omega))
  case stop =>
    rintro D c pre W hD hSp ⟨rfl, ⟨h1, h2, i, hi, hno⟩, hb⟩ hK
    have hno' : ¬ ∀ p ∈ rowsL s, MayP p := fun hall => hno (hall _ (List.mem_map.2 ⟨i, List.mem_range.2 hi, rfl⟩))
    have hRR := HRR.out
    rw [rowsO, if_pos HS.out, if_neg hno'] at hRR
    subst hRR
    have hDg : g + 6 ≤ D := by omega
    have HX0 := Lib.hid h1
    have HX1 := Lib.hid h2
    have HB7 := Lib.hid hb
    have HK7 := Lib.hid hK
    have HG := Lib.hid hg
    clear h1 h2 hno hno' hb hK hSp b0 b1 b2 b3 b4 b5 ho0 hR hB0 hW0 hg
    gi_wp2_with fail
    refine ⟨by simp, .inl ⟨_, _, rfl, run_takeDeferred HK7.out, ?_⟩⟩
    have gd := grownBy_putObj' W D (.deferred none)
    have z0 := HX0.out.grown gd (fun e => by injection e; omega)
    have z1 := HX1.out.grown gd (fun e => by injection e; omega)
    have e0 := z0.cell 0
    have e1 := z1.cell 0
    refine ⟨.tuple #[.slice none 0 0, .int .i64 8], by simp [results, Tryz.f55, go_sem, e0, e1], _, rfl, prow_nil _ _, ?_⟩
    rw [HG.out]
    exact HB7.out.trans (below_putO _ _ (by omega))
theorem Rows_any (a : Option Addr) (len cap : Nat) (s : List UInt8) (w : World) (hB : Bsl w w.heap.size a len cap s) (hz : Szs w) : Calls Tryz.prog 55 #[.slice a len cap] w (OutL (rowsO s).1 (rowsO s).2 w) := by
  by_cases h : s.length = 256
  · obtain rfl : len = 256 := by rw [← hB.1]; exact h
    exact callsIn_wide.1 (rows_in 3 (Nat.le_refl _) a cap s w hB hz)
  · rw [rowsO, if_neg h]
    have hl := hB.1
    have hne : ¬ (len : Int) = 256 := by omega
    have i0 : (0 : Int) ≤ (len : Int) := by omega
    have i1 : (len : Int) ≤ 9223372036854775807 := by have h1 := hB.2.1; have h2 := hB.2.2.1; unfold maxLen at h2; omega
    have hb2 : Below w.heap.size w ((w.alloc (.cells #[.slice none 0 0] 35)).alloc (.cells #[.int .i64 3] 36)) := ((Below.refl _ w).alloc (Nat.le_refl _) _).alloc (by simp) _
    have x0 : Blk ((w.alloc (.cells #[.slice none 0 0] 35)).alloc (.cells #[.int .i64 3] 36)) w.heap.size 35 #[.slice none 0 0] := (Blk.new w _ _).alloc _
    have x1 : Blk ((w.alloc (.cells #[.slice none 0 0] 35)).alloc (.cells #[.int .i64 3] 36)) (w.heap.size + 1) 36 #[.int .i64 3] := by
      have := Blk.new (w.alloc (.cells #[.slice none 0 0] 35)) 36 #[.int .i64 3]
      rw [World.size_alloc] at this
      exact this
    have HX0 := Lib.hid x0
    have HX1 := Lib.hid x1
    have HB2 := Lib.hid hb2
    clear hl h hB hz x0 x1 hb2
    go_enter Tryz.func55, Tryz.ntmps55
    go_wp2_with fail
    have e0 := HX0.out.cell 0
    have e1 := HX1.out.cell 0
    exact bodyPost_ret (v := .tuple #[.slice none 0 0, .int .i64 3]) (by simp [results, Tryz.f55, go_sem, e0, e1]) rfl ⟨_, rfl, prow_nil _ _, HB2.out⟩
end Go.Proofs.YtbggkfomfeeikaaGreatDoor
