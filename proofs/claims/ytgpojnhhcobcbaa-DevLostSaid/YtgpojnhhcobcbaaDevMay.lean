/-
  dev.mayBe tells whether a disk may be.
-/
import Derived.Test.YtgpojnhhcobcbaaDisk
namespace Go.Proofs.Ytgpojnhhcobcbaa
open Go.RowKit Go.Shelf
set_option maxRecDepth 100000

theorem dIsLong_any (a : Option Addr) (n c : Nat) (w : World) : Calls Try.prog 36 #[.slice a n c] w fun e w' => e = .returned (.bool (decide (n = 256))) ∧ w = w' := by
  by_cases h : n = 256
  · subst h
    go_enter Try.func36, Try.ntmps36
    go_wp2_with fail
    go_ret
    exact ⟨rfl, rfl⟩
  · have h1 : ((n : Int) == 256) = false := by simp; omega
    rw [decide_eq_false h]
    go_enter Try.func36, Try.ntmps36
    go_wp2_with fail
    go_ret
    exact ⟨rfl, rfl⟩
theorem dIsBlock_any (p : Int) (w : World) : Calls Try.prog 35 #[.int .i64 p] w fun e w' => e = .returned (.bool (decide (0 ≤ p ∧ p < 256))) ∧ w = w' := by
  by_cases h0 : 0 ≤ p
  · by_cases h1 : p < 256
    · rw [decide_eq_true (show 0 ≤ p ∧ p < 256 from ⟨h0, h1⟩)]
      go_enter Try.func35, Try.ntmps35
      go_wp2_with fail
      go_ret
      exact ⟨by simp; try omega, rfl⟩
    · rw [decide_eq_false (show ¬ (0 ≤ p ∧ p < 256) from fun h => h1 h.2)]
      go_enter Try.func35, Try.ntmps35
      go_wp2_with fail
      go_ret
      exact ⟨by simp; try omega, rfl⟩
  · rw [decide_eq_false (show ¬ (0 ≤ p ∧ p < 256) from fun h => h0 h.1)]
    go_enter Try.func35, Try.ntmps35
    go_wp2_with fail
    go_ret
    exact ⟨by simp; try omega, rfl⟩
theorem dMayWait_any (p : Int) (a : Option Addr) (n c : Nat) (w : World) : Calls Try.prog 60 #[.agg #[.int .i64 p, .slice a n c]] w fun e w' => e = .returned (.bool (decide ((0 ≤ p ∧ p < 256) ∧ n = 256))) ∧ Below w.heap.size w w' := by
  have hb := dIsBlock_any p
  have hl := dIsLong_any a n c
  have HX := Lib.hid ((Below.refl w.heap.size w).alloc (Nat.le_refl _) (.cells #[.int .i64 p, .slice a n c] 55))
  by_cases h : 0 ≤ p ∧ p < 256
  · simp only [decide_eq_true h] at hb
    have e : decide ((0 ≤ p ∧ p < 256) ∧ n = 256) = decide (n = 256) := by simp [h]
    rw [e]
    have HB := Lib.hid hb
    have HL := Lib.hid hl
    clear hb hl h e
    go_enter Try.func60, Try.ntmps60
    go_wp2_with fail
    refine (HB.out _).mono ?_
    rintro e w1 ⟨rfl, rfl⟩
    go_wp2_with fail
    refine (HL.out _).mono ?_
    rintro e w1 ⟨rfl, rfl⟩
    go_wp2_with fail
    go_ret
    exact ⟨rfl, HX.out⟩
  · simp only [decide_eq_false h] at hb
    have e : decide ((0 ≤ p ∧ p < 256) ∧ n = 256) = false := by simp; omega
    rw [e]
    have HB := Lib.hid hb
    clear hb hl h e
    go_enter Try.func60, Try.ntmps60
    go_wp2_with fail
    refine (HB.out _).mono ?_
    rintro e w1 ⟨rfl, rfl⟩
    go_wp2_with fail
    go_ret
    exact ⟨rfl, HX.out⟩
theorem dNotLong_any (a : Option Addr) (n c g : Nat) (w : World) (hg : w.cell? ⟨g, 0, none⟩ = some (.func (.func 36) #[] #[])) : Calls Try.prog 67 #[.slice a n c, .pointer (some ⟨g, 0, none⟩)] w fun e w' => e = .returned (.bool (!decide (n = 256))) ∧ w = w' := by
  have HL := Lib.hid (dIsLong_any a n c w)
  go_enter Try.func67, Try.ntmps67
  go_wp2_with fail
  refine HL.out.mono ?_
  rintro e w1 ⟨rfl, rfl⟩
  go_wp2_with fail
  go_ret
  exact ⟨rfl, rfl⟩
theorem dNotWait_any (p : Int) (a : Option Addr) (n c g : Nat) (r : Bool) (hr : decide ((0 ≤ p ∧ p < 256) ∧ n = 256) = r) (w : World) (hl : g < w.heap.size) (hg : w.cell? ⟨g, 0, none⟩ = some (.func (.func 60) #[] #[])) : Calls Try.prog 69 #[.agg #[.int .i64 p, .slice a n c], .pointer (some ⟨g, 0, none⟩)] w fun e w' => e = .returned (.bool (!r)) ∧ Below w.heap.size w w' := by
  have b1 := (Below.refl w.heap.size w).alloc (Nat.le_refl _) (.cells #[.int .i64 p, .slice a n c] 55)
  have hg1 := (b1.cell (p := ⟨g, 0, none⟩) hl).trans hg
  have HL : Hid (∀ W, Calls Try.prog 60 #[.agg #[.int .i64 p, .slice a n c]] W fun e w' => e = .returned (.bool r) ∧ Below W.heap.size W w') := Lib.hid fun W => by
    have := dMayWait_any p a n c W
    rw [hr] at this
    exact this
  have HB := Lib.hid b1
  clear b1 hl hr
  go_enter Try.func69, Try.ntmps69
  go_wp2_with fail
  refine (HL.out _).mono ?_
  rintro e w1 ⟨rfl, b2⟩
  have HB2 := Lib.hid (HB.out.trans (b2.mono HB.out.size))
  clear b2
  go_wp2_with fail
  go_ret
  exact ⟨rfl, HB2.out⟩
/-- slices.IndexFunc over blocks: none is odd. -/
theorem dIndexB_none (a : Option Addr) (n c : Nat) (bl : List (List UInt8)) (g : Nat) (w : World) (hB : Bls w w.heap.size a n c bl) (hg : w.cell? ⟨g, 0, none⟩ = some (.func (.func 36) #[] #[])) (hall : ∀ i, i < n → (bl.getD i []).length = 256) :
    Calls Try.prog 73 #[.slice a n c, .func (.func 67) #[] #[.pointer (some ⟨g, 0, none⟩)]] w fun e w' => e = .returned (.int .i64 (-1)) ∧ w = w' := by
  have n0 : (0 : Int) ≤ n := by omega
  have n1 := hB.len_le
  have HB := Lib.hid hB
  have HA := Lib.hid hall
  have HG := Lib.hid hg
  clear hB hall hg
  go_enter Try.func73, Try.ntmps73
  go_wp2_with fail
  go_loop [8] (fun i => ∃ k : Nat, k ≤ n ∧ i = .int .i64 k) (fun i => n - (intOf i).toNat)
  case atStart => exact ⟨0, Nat.zero_le _, rfl⟩
  case round =>
    obtain ⟨k, hk, rfl⟩ := hrel
    have k0 : (0 : Int) ≤ k := by omega
    by_cases hlt : k < n
    · have k1 : (k : Int) < n := by omega
      obtain ⟨b, off, A, l, c', s, rfl, _, hl, hc, hA⟩ := HB.out.at_ hlt
      have hl6 : l = 256 := by rw [← hA.1, ← hl]; exact HA.out k hlt
      subst hl6
      have hx := dNotLong_any A 256 c' g w HG.out
      have HX := Lib.hid hx
      clear hx hA hl
      go_wp2_with fail
      refine HX.out.mono ?_
      rintro e w1 ⟨rfl, rfl⟩
      go_wp2_with fail
      go_round
      case rel => exact ⟨k + 1, by omega, by go_num⟩
      case measure => simp [intOf]; omega
    · obtain rfl : k = n := by omega
      go_wp2_with fail
      go_ret
      exact ⟨rfl, rfl⟩
/-- One is. -/
theorem dIndexB_some (a : Option Addr) (n c : Nat) (bl : List (List UInt8)) (g : Nat) (w : World) (hB : Bls w w.heap.size a n c bl) (hg : w.cell? ⟨g, 0, none⟩ = some (.func (.func 36) #[] #[])) (j : Nat) (hj : j < n) (hodd : (bl.getD j []).length ≠ 256) :
    Calls Try.prog 73 #[.slice a n c, .func (.func 67) #[] #[.pointer (some ⟨g, 0, none⟩)]] w fun e w' => ∃ k : Nat, e = .returned (.int .i64 k) ∧ w = w' := by
  have n0 : (0 : Int) ≤ n := by omega
  have n1 := hB.len_le
  have HB := Lib.hid hB
  have HA := Lib.hid hodd
  have HG := Lib.hid hg
  clear hB hodd hg
  go_enter Try.func73, Try.ntmps73
  go_wp2_with fail
  go_loop [8] (fun i => ∃ k : Nat, k ≤ j ∧ i = .int .i64 k) (fun i => n - (intOf i).toNat)
  case atStart => exact ⟨0, Nat.zero_le _, rfl⟩
  case round =>
    obtain ⟨k, hk, rfl⟩ := hrel
    have k0 : (0 : Int) ≤ k := by omega
    have k1 : (k : Int) < n := by omega
    obtain ⟨b, off, A, l, c', s, rfl, _, hl, hc, hA⟩ := HB.out.at_ (show k < n by omega)
    have hx := dNotLong_any A l c' g w HG.out
    by_cases hl6 : l = 256
    · have hkj : k < j := by
        rcases Nat.lt_or_ge k j with h | h
        · exact h
        · obtain rfl : k = j := by omega
          exact absurd (by rw [hl, hA.1]; exact hl6) HA.out
      subst hl6
      have HX := Lib.hid hx
      clear hx hA hl
      go_wp2_with fail
      refine HX.out.mono ?_
      rintro e w1 ⟨rfl, rfl⟩
      go_wp2_with fail
      go_round
      case rel => exact ⟨k + 1, by omega, by go_num⟩
      case measure => simp [intOf]; omega
    · simp only [decide_eq_false hl6] at hx
      have HX := Lib.hid hx
      clear hx hA hl
      go_wp2_with fail
      refine HX.out.mono ?_
      rintro e w1 ⟨rfl, rfl⟩
      go_wp2_with fail
      go_ret
      exact ⟨k, rfl, rfl⟩
/-- slices.IndexFunc over writes: none is odd. -/
theorem dIndexW_none (a : Option Addr) (n c : Nat) (ws : WrL) (g : Nat) (w : World) (hB : Wts w w.heap.size a n c ws) (hlg : g < w.heap.size) (hg : w.cell? ⟨g, 0, none⟩ = some (.func (.func 60) #[] #[])) (hall : ∀ i, i < n → (0 ≤ (wr_ ws i).1 ∧ (wr_ ws i).1 < 256) ∧ (wr_ ws i).2.length = 256) :
    Calls Try.prog 74 #[.slice a n c, .func (.func 69) #[] #[.pointer (some ⟨g, 0, none⟩)]] w fun e w' => e = .returned (.int .i64 (-1)) ∧ Below w.heap.size w w' := by
  have n0 : (0 : Int) ≤ n := by omega
  have n1 := hB.len_le
  have HB := Lib.hid hB
  have HA := Lib.hid hall
  have HG := Lib.hid hg
  clear hB hall hg
  go_enter Try.func74, Try.ntmps74
  go_wp2_with fail
  go_loopw [8] (fun i wr => ∃ k : Nat, k ≤ n ∧ i = .int .i64 k ∧ Below w.heap.size w wr) (fun i _ => n - (intOf i).toNat)
  case atStart => exact ⟨0, Nat.zero_le _, rfl, Below.refl _ _⟩
  case round =>
    obtain ⟨k, hk, rfl, hb⟩ := hrel
    have k0 : (0 : Int) ≤ k := by omega
    by_cases hlt : k < n
    · have k1 : (k : Int) < n := by omega
      obtain ⟨b, off, p, A, l, c', s, rfl, hbl, hl, _, hc, hd, hA⟩ := HB.out.at_ hlt
      have hok := HA.out k hlt
      rw [hl] at hok
      have hl6 : l = 256 := by rw [← hA.1]; exact hok.2
      subst hl6
      have c1 := (hb.cell (p := ⟨b, off + k * 2, none⟩) hbl).trans hc
      have c2 := (hb.cell (p := ⟨b, off + k * 2 + 1, none⟩) hbl).trans hd
      have hx := dNotWait_any p A 256 c' g true (decide_eq_true ⟨hok.1, rfl⟩) wr (Nat.lt_of_lt_of_le hlg hb.size) ((hb.cell (p := ⟨g, 0, none⟩) hlg).trans HG.out)
      have HX := Lib.hid hx
      have HBr := Lib.hid hb
      clear hx hA hl hok hb hc hd
      go_wp2_with fail
      refine HX.out.mono ?_
      rintro e w1 ⟨rfl, b2⟩
      have HB2 := Lib.hid (HBr.out.trans (b2.mono HBr.out.size))
      clear b2
      go_wp2_with fail
      go_roundw
      case rel => exact ⟨k + 1, by omega, by go_num, HB2.out⟩
      case measure => simp [intOf]; omega
    · obtain rfl : k = n := by omega
      have HBr := Lib.hid hb
      clear hb
      go_wp2_with fail
      go_ret
      exact ⟨rfl, HBr.out⟩
/-- One is. -/
theorem dIndexW_some (a : Option Addr) (n c : Nat) (ws : WrL) (g : Nat) (w : World) (hB : Wts w w.heap.size a n c ws) (hlg : g < w.heap.size) (hg : w.cell? ⟨g, 0, none⟩ = some (.func (.func 60) #[] #[])) (j : Nat) (hj : j < n) (hodd : ¬ ((0 ≤ (wr_ ws j).1 ∧ (wr_ ws j).1 < 256) ∧ (wr_ ws j).2.length = 256)) :
    Calls Try.prog 74 #[.slice a n c, .func (.func 69) #[] #[.pointer (some ⟨g, 0, none⟩)]] w fun e w' => ∃ k : Nat, e = .returned (.int .i64 k) ∧ Below w.heap.size w w' := by
  have n0 : (0 : Int) ≤ n := by omega
  have n1 := hB.len_le
  have HB := Lib.hid hB
  have HA := Lib.hid hodd
  have HG := Lib.hid hg
  clear hB hodd hg
  go_enter Try.func74, Try.ntmps74
  go_wp2_with fail
  go_loopw [8] (fun i wr => ∃ k : Nat, k ≤ j ∧ i = .int .i64 k ∧ Below w.heap.size w wr) (fun i _ => n - (intOf i).toNat)
  case atStart => exact ⟨0, Nat.zero_le _, rfl, Below.refl _ _⟩
  case round =>
    obtain ⟨k, hk, rfl, hb⟩ := hrel
    have k0 : (0 : Int) ≤ k := by omega
    have k1 : (k : Int) < n := by omega
    obtain ⟨b, off, p, A, l, c', s, rfl, hbl, hl, _, hc, hd, hA⟩ := HB.out.at_ (show k < n by omega)
    have c1 := (hb.cell (p := ⟨b, off + k * 2, none⟩) hbl).trans hc
    have c2 := (hb.cell (p := ⟨b, off + k * 2 + 1, none⟩) hbl).trans hd
    have hx := fun r hr => dNotWait_any p A l c' g r hr wr (Nat.lt_of_lt_of_le hlg hb.size) ((hb.cell (p := ⟨g, 0, none⟩) hlg).trans HG.out)
    by_cases hl6 : (0 ≤ p ∧ p < 256) ∧ l = 256
    · have hkj : k < j := by
        rcases Nat.lt_or_ge k j with h | h
        · exact h
        · obtain rfl : k = j := by omega
          exact absurd (by rw [hl]; exact ⟨hl6.1, by rw [hA.1]; exact hl6.2⟩) HA.out
      have HX := Lib.hid (hx true (decide_eq_true hl6))
      have HBr := Lib.hid hb
      clear hx hA hl hl6 hb hc hd
      go_wp2_with fail
      refine HX.out.mono ?_
      rintro e w1 ⟨rfl, b2⟩
      have HB2 := Lib.hid (HBr.out.trans (b2.mono HBr.out.size))
      clear b2
      go_wp2_with fail
      go_roundw
      case rel => exact ⟨k + 1, by omega, by go_num, HB2.out⟩
      case measure => simp [intOf]; omega
    · have HX := Lib.hid (hx false (decide_eq_false hl6))
      have HBr := Lib.hid hb
      clear hx hA hl hl6 hb hc hd
      go_wp2_with fail
      refine HX.out.mono ?_
      rintro e w1 ⟨rfl, b2⟩
      have HB2 := Lib.hid (HBr.out.trans (b2.mono HBr.out.size))
      clear b2
      go_wp2_with fail
      go_ret
      exact ⟨k, rfl, HB2.out⟩
/-- slices.ContainsFunc: is one odd? -/
theorem dContB_any (a : Option Addr) (n c : Nat) (bl : List (List UInt8)) (g : Nat) (w : World) (hB : Bls w w.heap.size a n c bl) (hg : w.cell? ⟨g, 0, none⟩ = some (.func (.func 36) #[] #[])) (r : Bool) (hr : r = true ↔ ∀ i, i < n → (bl.getD i []).length = 256) :
    Calls Try.prog 66 #[.slice a n c, .func (.func 67) #[] #[.pointer (some ⟨g, 0, none⟩)]] w fun e w' => e = .returned (.bool (!r)) ∧ w = w' := by
  cases r with
  | true =>
    have HI := Lib.hid (dIndexB_none a n c bl g w hB hg (hr.1 rfl))
    clear hB hg hr
    go_enter Try.func66, Try.ntmps66
    go_wp2_with fail
    refine HI.out.mono ?_
    rintro e w1 ⟨rfl, rfl⟩
    
    go_wp2_with fail
    go_ret
    exact ⟨rfl, rfl⟩
  | false =>
    obtain ⟨j, hj, hodd⟩ : ∃ i, i < n ∧ ¬ ((bl.getD i []).length = 256) := by
      apply Classical.byContradiction
      intro hn
      have : false = true := hr.2 fun i hi => Classical.byContradiction fun h => hn ⟨i, hi, h⟩
      cases this
    have HI := Lib.hid (dIndexB_some a n c bl g w hB hg j hj hodd)
    clear hB hg hr hodd
    go_enter Try.func66, Try.ntmps66
    go_wp2_with fail
    refine HI.out.mono ?_
    rintro e w1 ⟨k, rfl, rfl⟩
    have k0 : (0 : Int) ≤ k := by omega
    
    go_wp2_with fail
    go_ret
    exact ⟨rfl, rfl⟩
/-- All are as they should be: dev.allAre. -/
theorem dAllB_any (a : Option Addr) (n c : Nat) (bl : List (List UInt8)) (w : World) (hB : Bls w w.heap.size a n c bl) (r : Bool) (hr : r = true ↔ ∀ i, i < n → (bl.getD i []).length = 256) :
    Calls Try.prog 58 #[.slice a n c, .func (.func 36) #[] #[]] w fun e w' => e = .returned (.bool r) ∧ Below w.heap.size w w' := by
  have b0 := (Below.refl w.heap.size w).alloc (Nat.le_refl _) (.cells #[.func (.func 36) #[] #[]] 61)
  have x0 := Blk.new w 61 #[.func (.func 36) #[] #[]]
  have HI := Lib.hid (dContB_any a n c bl w.heap.size _ (hB.step b0) (x0.cell 0) r hr)
  have HB := Lib.hid b0
  clear hB hr b0 x0
  go_enter Try.func58, Try.ntmps58
  go_wp2_with fail
  refine HI.out.mono ?_
  rintro e w1 ⟨rfl, rfl⟩
  have HB2 := HB
  go_wp2_with fail
  go_ret
  exact ⟨by simp, HB2.out⟩
/-- slices.ContainsFunc: is one odd? -/
theorem dContW_any (a : Option Addr) (n c : Nat) (ws : WrL) (g : Nat) (w : World) (hB : Wts w w.heap.size a n c ws) (hlg : g < w.heap.size) (hg : w.cell? ⟨g, 0, none⟩ = some (.func (.func 60) #[] #[])) (r : Bool) (hr : r = true ↔ ∀ i, i < n → (0 ≤ (wr_ ws i).1 ∧ (wr_ ws i).1 < 256) ∧ (wr_ ws i).2.length = 256) :
    Calls Try.prog 68 #[.slice a n c, .func (.func 69) #[] #[.pointer (some ⟨g, 0, none⟩)]] w fun e w' => e = .returned (.bool (!r)) ∧ Below w.heap.size w w' := by
  cases r with
  | true =>
    have HI := Lib.hid (dIndexW_none a n c ws g w hB hlg hg (hr.1 rfl))
    clear hB hg hr
    go_enter Try.func68, Try.ntmps68
    go_wp2_with fail
    refine HI.out.mono ?_
    rintro e w1 ⟨rfl, b2⟩
    have HB2 := Lib.hid b2; clear b2
    go_wp2_with fail
    go_ret
    exact ⟨rfl, HB2.out⟩
  | false =>
    obtain ⟨j, hj, hodd⟩ : ∃ i, i < n ∧ ¬ ((0 ≤ (wr_ ws i).1 ∧ (wr_ ws i).1 < 256) ∧ (wr_ ws i).2.length = 256) := by
      apply Classical.byContradiction
      intro hn
      have : false = true := hr.2 fun i hi => Classical.byContradiction fun h => hn ⟨i, hi, h⟩
      cases this
    have HI := Lib.hid (dIndexW_some a n c ws g w hB hlg hg j hj hodd)
    clear hB hg hr hodd
    go_enter Try.func68, Try.ntmps68
    go_wp2_with fail
    refine HI.out.mono ?_
    rintro e w1 ⟨k, rfl, b2⟩
    have k0 : (0 : Int) ≤ k := by omega
    have HB2 := Lib.hid b2; clear b2
    go_wp2_with fail
    go_ret
    exact ⟨rfl, HB2.out⟩
/-- All are as they should be: dev.allAre. -/
theorem dAllW_any (a : Option Addr) (n c : Nat) (ws : WrL) (w : World) (hB : Wts w w.heap.size a n c ws) (r : Bool) (hr : r = true ↔ ∀ i, i < n → (0 ≤ (wr_ ws i).1 ∧ (wr_ ws i).1 < 256) ∧ (wr_ ws i).2.length = 256) :
    Calls Try.prog 59 #[.slice a n c, .func (.func 60) #[] #[]] w fun e w' => e = .returned (.bool r) ∧ Below w.heap.size w w' := by
  have b0 := (Below.refl w.heap.size w).alloc (Nat.le_refl _) (.cells #[.func (.func 60) #[] #[]] 81)
  have x0 := Blk.new w 81 #[.func (.func 60) #[] #[]]
  have HI := Lib.hid (dContW_any a n c ws w.heap.size _ (hB.step b0) (by rw [World.size_alloc]; omega) (x0.cell 0) r hr)
  have HB := Lib.hid b0
  clear hB hr b0 x0
  go_enter Try.func59, Try.ntmps59
  go_wp2_with fail
  refine HI.out.mono ?_
  rintro e w1 ⟨rfl, b2⟩
  have HB2 := Lib.hid (HB.out.trans (b2.mono HB.out.size)); clear b2
  go_wp2_with fail
  go_ret
  exact ⟨by simp, HB2.out⟩
/-- dev.mayBe. -/
theorem dMay_yes (x : DAt) (D : DkL) (w : World) (h : Dsk w w.heap.size x D) (hm : MayD D) : Calls Try.prog 34 #[dval x D] w fun e w' => e = .returned (.bool true) ∧ Below w.heap.size w w' := by
  obtain ⟨ba, bc, wa, wc⟩ := x
  obtain ⟨bl, ws⟩ := D
  obtain ⟨hB, hW⟩ := h
  obtain ⟨⟨m1, m2⟩, m3, m4⟩ := hm
  simp only [dval] at hB hW m1 m2 m3 m4 ⊢
  obtain ⟨m, hm⟩ : ∃ m, ws.length = m := ⟨_, rfl⟩
  rw [hm] at hW m3 m4 ⊢
  rw [m1] at hB ⊢
  have i0 : (m : Int) ≤ 4096 := by omega
  have b0 := (Below.refl w.heap.size w).alloc (Nat.le_refl _) (.cells #[.slice ba 256 bc, .slice wa m wc] 25)
  have x0 := Blk.new w 25 #[.slice ba 256 bc, .slice wa m wc]
  have HI := Lib.hid (dAllB_any ba 256 bc bl _ (hB.step b0) true ⟨fun _ => m2, fun _ => rfl⟩)
  have HX := Lib.hid x0
  have HB := Lib.hid b0
  have HW := Lib.hid (hW.step b0)
  have HP := Lib.hid m4
  clear hB hW b0 x0 m1 m2 m4 hm
  go_enter Try.func34, Try.ntmps34
  go_wp2_with fail
  refine HI.out.mono ?_
  rintro e w1 ⟨rfl, b1⟩
  have c0 := (HX.out.below b1 HX.out.lt).cell 0
  have c1 := (HX.out.below b1 HX.out.lt).cell 1
  have HI2 := Lib.hid (dAllW_any wa m wc ws w1 (HW.out.step b1) true ⟨fun _ => HP.out, fun _ => rfl⟩)
  have HB2 := Lib.hid (HB.out.trans (b1.mono HB.out.size))
  clear b1
  go_wp2_with fail
  refine HI2.out.mono ?_
  rintro e w2 ⟨rfl, b2⟩
  have HB3 := Lib.hid (HB2.out.trans (b2.mono HB2.out.size))
  clear b2 c0 c1
  go_wp2_with fail
  go_ret
  exact ⟨rfl, HB3.out⟩
theorem dMay_no (x : DAt) (D : DkL) (w : World) (h : Dsk w w.heap.size x D) (hm : ¬ MayD D) : Calls Try.prog 34 #[dval x D] w fun e w' => e = .returned (.bool false) ∧ Below w.heap.size w w' := by
  obtain ⟨ba, bc, wa, wc⟩ := x
  obtain ⟨bl, ws⟩ := D
  obtain ⟨hB, hW⟩ := h
  unfold MayD at hm
  simp only [dval] at hB hW hm ⊢
  have l1 := hB.len_le
  have l2 := hW.len_le
  obtain ⟨n, hn⟩ : ∃ n, bl.length = n := ⟨_, rfl⟩
  obtain ⟨m, hm'⟩ : ∃ m, ws.length = m := ⟨_, rfl⟩
  rw [hm'] at hW hm l2 ⊢
  rw [hn] at hB hm l1 ⊢
  have n0 : (0 : Int) ≤ n := by omega
  have m0 : (0 : Int) ≤ m := by omega
  have b0 := (Below.refl w.heap.size w).alloc (Nat.le_refl _) (.cells #[.slice ba n bc, .slice wa m wc] 25)
  have x0 := Blk.new w 25 #[.slice ba n bc, .slice wa m wc]
  have HX := Lib.hid x0
  have HB := Lib.hid b0
  have HW := Lib.hid (hW.step b0)
  have HBl := Lib.hid (hB.step b0)
  clear hB hW b0 x0 hn hm'
  by_cases h1 : n = 256
  · subst h1
    by_cases h2 : (m : Int) ≤ 4096
    · have hm2 : ¬ ((∀ i, i < 256 → (bl.getD i []).length = 256) ∧ ∀ i, i < m → (0 ≤ (wr_ ws i).1 ∧ (wr_ ws i).1 < 256) ∧ (wr_ ws i).2.length = 256) := fun hh => hm ⟨⟨rfl, hh.1⟩, by omega, hh.2⟩
      by_cases h3 : ∀ i, i < 256 → (bl.getD i []).length = 256
      · have HI := Lib.hid (dAllB_any ba 256 bc bl _ HBl.out true ⟨fun _ => h3, fun _ => rfl⟩)
        have HP := Lib.hid (show ¬ ∀ i, i < m → (0 ≤ (wr_ ws i).1 ∧ (wr_ ws i).1 < 256) ∧ (wr_ ws i).2.length = 256 from fun hh => hm2 ⟨h3, hh⟩)
        clear hm hm2 h3
        go_enter Try.func34, Try.ntmps34
        go_wp2_with fail
        refine HI.out.mono ?_
        rintro e w1 ⟨rfl, b1⟩
        have c0 := (HX.out.below b1 HX.out.lt).cell 0
        have c1 := (HX.out.below b1 HX.out.lt).cell 1
        have HI2 := Lib.hid (dAllW_any wa m wc ws w1 (HW.out.step b1) false ⟨fun h => (by cases h), fun h => absurd h HP.out⟩)
        have HB2 := Lib.hid (HB.out.trans (b1.mono HB.out.size))
        clear b1
        go_wp2_with fail
        refine HI2.out.mono ?_
        rintro e w2 ⟨rfl, b2⟩
        have HB3 := Lib.hid (HB2.out.trans (b2.mono HB2.out.size))
        clear b2 c0 c1
        go_wp2_with fail
        go_ret
        exact ⟨rfl, HB3.out⟩
      · have HI := Lib.hid (dAllB_any ba 256 bc bl _ HBl.out false ⟨fun h => (by cases h), fun h => absurd h h3⟩)
        clear hm hm2 h3
        go_enter Try.func34, Try.ntmps34
        go_wp2_with fail
        refine HI.out.mono ?_
        rintro e w1 ⟨rfl, b1⟩
        have HB2 := Lib.hid (HB.out.trans (b1.mono HB.out.size))
        clear b1
        go_wp2_with fail
        go_ret
        exact ⟨rfl, HB2.out⟩
    · clear hm
      go_enter Try.func34, Try.ntmps34
      go_wp2_with fail
      go_ret
      exact ⟨rfl, HB.out⟩
  · have h2 : ((n : Int) == 256) = false := by simp; omega
    clear hm
    go_enter Try.func34, Try.ntmps34
    go_wp2_with fail
    go_ret
    exact ⟨rfl, HB.out⟩
end Go.Proofs.Ytgpojnhhcobcbaa
