/-
  dev.Same tells whether all fields of two disks are the same.
-/
import Derived.Test.YtgpojnhhcobcbaaDisk
namespace Go.Proofs.Ytgpojnhhcobcbaa
open Go.RowKit Go.Shelf
set_option maxRecDepth 100000

theorem ext_bls {a b : List (List UInt8)} (h : a.length = b.length) (he : ∀ i, i < a.length → a.getD i [] = b.getD i []) : a = b := by
  apply List.ext_getElem h
  intro i h1 h2
  have := he i h1
  simpa [List.getD_eq_getElem?_getD, h1, h2] using this
theorem ext_wts {a b : WrL} (h : a.length = b.length) (he : ∀ i, i < a.length → wr_ a i = wr_ b i) : a = b := by
  apply List.ext_getElem h
  intro i h1 h2
  have := he i h1
  unfold wr_ at this
  simpa [List.getD_eq_getElem?_getD, h1, h2] using this
theorem dEqual_any (a : Option Addr) (la ca : Nat) (s : List UInt8) (b : Option Addr) (lb cb : Nat) (t : List UInt8) (A B : Nat) (w : World) (hA : Bsl w A a la ca s) (hB : Bsl w B b lb cb t) (r : Bool) (hr : r = true ↔ s = t) :
    Calls Try.prog 55 #[.slice a la ca, .slice b lb cb] w fun e w' => e = .returned (.bool r) ∧ w = w' := by
  have c1 := hA.conv
  have c2 := hB.conv
  have eq : ((strOf s).toList == (strOf t).toList) = r := by
    rw [strOf_toList, strOf_toList]
    cases r with
    | true => simp [hr.1 rfl]
    | false =>
      have : s ≠ t := fun h => by have := hr.2 h; cases this
      simp [this]
  have HE := Lib.hid eq; clear eq hA hB hr
  go_enter Try.func55, Try.ntmps55
  go_wp2_with fail
  go_ret
  exact ⟨by rw [← HE.out]; rfl, rfl⟩
/-- slices.EqualFunc over blocks: unlike in number. -/
theorem dEqB_len (a : Option Addr) (n c : Nat) (b : Option Addr) (m d : Nat) (w : World) (hne : n ≠ m) :
    Calls Try.prog 54 #[.slice a n c, .slice b m d, .func (.func 55) #[] #[]] w fun e w' => e = .returned (.bool false) ∧ w = w' := by
  have h : ((n : Int) != m) = true := by simp; omega
  go_enter Try.func54, Try.ntmps54
  go_wp2_with fail
  go_ret
  exact ⟨rfl, rfl⟩
/-- Alike up to j, and at j as r says; r is true where j is the number of them all. -/
theorem dEqB_any (a : Option Addr) (n c : Nat) (bl : List (List UInt8)) (b : Option Addr) (d : Nat) (bl' : List (List UInt8)) (w : World) (hA : Bls w w.heap.size a n c bl) (hB : Bls w w.heap.size b n d bl') (j : Nat) (hj : j ≤ n) (hall : ∀ i, i < j → bl.getD i [] = bl'.getD i []) (hlast : j < n → bl.getD j [] ≠ bl'.getD j []) :
    Calls Try.prog 54 #[.slice a n c, .slice b n d, .func (.func 55) #[] #[]] w fun e w' => e = .returned (.bool (decide (j = n))) ∧ w = w' := by
  have n0 : (0 : Int) ≤ n := by omega
  have n1 := hA.len_le
  have h0 : ((n : Int) != n) = false := by simp
  obtain ⟨r, hr⟩ : ∃ r, decide (j = n) = r := ⟨_, rfl⟩
  rw [hr]
  have HA := Lib.hid hA
  have HB := Lib.hid hB
  have HALL := Lib.hid hall
  have HLAST := Lib.hid hlast
  have HR := Lib.hid hr
  clear hA hB hall hlast hr
  go_enter Try.func54, Try.ntmps54
  go_wp2_with fail
  clear h0
  go_loop [17] (fun i => ∃ k : Nat, k ≤ j ∧ i = .int .i64 k) (fun i => n - (intOf i).toNat)
  case atStart => exact ⟨0, Nat.zero_le _, rfl⟩
  case round =>
    obtain ⟨k, hk, rfl⟩ := hrel
    have k0 : (0 : Int) ≤ k := by omega
    by_cases hlt : k < n
    · have k1 : (k : Int) < n := by omega
      obtain ⟨ba, oa, A, l, c', s, hae, _, hl, hc, hs⟩ := HA.out.at_ hlt
      obtain ⟨bb, ob, A2, l2, c2, t, hbe, _, hl2, hc2, ht⟩ := HB.out.at_ hlt
      obtain rfl : a = some ⟨ba, oa, none⟩ := hae
      obtain rfl : b = some ⟨bb, ob, none⟩ := hbe
      by_cases hkj : k < j
      · have hx := dEqual_any A l c' s A2 l2 c2 t _ _ w hs ht true ⟨fun _ => by rw [← hl, ← hl2]; exact HALL.out k hkj, fun _ => rfl⟩
        have HX := Lib.hid hx
        clear hx hl hl2 hs ht
        go_wp2_with fail
        refine HX.out.mono ?_
        rintro e w1 ⟨rfl, rfl⟩
        go_wp2_with fail
        go_round
        case rel => exact ⟨k + 1, by omega, by go_num⟩
        case measure => simp [intOf]; omega
      · obtain rfl : k = j := by omega
        have hx := dEqual_any A l c' s A2 l2 c2 t _ _ w hs ht false ⟨fun h => (by cases h), fun h => absurd (by rw [hl, hl2]; exact h) (HLAST.out hlt)⟩
        have hrf : r = false := by rw [← HR.out]; exact decide_eq_false (by omega)
        subst hrf
        have HX := Lib.hid hx
        clear hx hl hl2 hs ht
        go_wp2_with fail
        refine HX.out.mono ?_
        rintro e w1 ⟨rfl, rfl⟩
        go_wp2_with fail
        go_ret
        exact ⟨rfl, rfl⟩
    · have hkn : k = n := by omega
      have hrt : r = true := by rw [← HR.out]; exact decide_eq_true (by omega)
      subst hrt
      subst hkn
      go_wp2_with fail
      go_ret
      exact ⟨rfl, rfl⟩
/-- The first place where two rows part. -/
theorem part_at (n : Nat) (P : Nat → Prop) : ∃ j, j ≤ n ∧ (∀ i, i < j → P i) ∧ (j < n → ¬ P j) := by
  induction n with
  | zero => exact ⟨0, Nat.le_refl _, fun i h => absurd h (Nat.not_lt_zero _), fun h => absurd h (Nat.lt_irrefl _)⟩
  | succ n ih =>
    obtain ⟨j, h1, h2, h3⟩ := ih
    rcases Nat.lt_or_ge j n with h | h
    · exact ⟨j, by omega, h2, fun _ => h3 h⟩
    · obtain rfl : j = n := by omega
      by_cases hp : P j
      · refine ⟨j + 1, Nat.le_refl _, fun i hi => ?_, fun h => absurd h (Nat.lt_irrefl _)⟩
        rcases Nat.lt_or_ge i j with h4 | h4
        · exact h2 i h4
        · obtain rfl : i = j := by omega
          exact hp
      · exact ⟨j, by omega, h2, fun _ => hp⟩
/-- slices.EqualFunc over blocks. -/
theorem dSameB_any (a : Option Addr) (n c : Nat) (bl : List (List UInt8)) (b : Option Addr) (m d : Nat) (bl' : List (List UInt8)) (w : World) (hA : Bls w w.heap.size a n c bl) (hB : Bls w w.heap.size b m d bl') (r : Bool) (hr : r = true ↔ bl = bl') :
    Calls Try.prog 54 #[.slice a n c, .slice b m d, .func (.func 55) #[] #[]] w fun e w' => e = .returned (.bool r) ∧ w = w' := by
  by_cases hnm : n = m
  · subst hnm
    obtain ⟨j, h1, h2, h3⟩ := part_at n (fun i => bl.getD i [] = bl'.getD i [])
    have e : decide (j = n) = r := by
      by_cases hj : j = n
      · subst hj
        rw [decide_eq_true rfl, hr.2 (ext_bls (by rw [hA.1, hB.1]) (by rw [hA.1]; exact h2))]
      · rw [decide_eq_false hj]
        cases r with
        | false => rfl
        | true => exact absurd (by rw [hr.1 rfl]) (h3 (by omega))
    rw [← e]
    exact dEqB_any a n c bl b d bl' w hA hB j h1 h2 h3
  · have : r = false := by
      cases r with
      | false => rfl
      | true => exact absurd (by rw [← hA.1, ← hB.1, hr.1 rfl]) hnm
    subst this
    exact dEqB_len a n c b m d w hnm
theorem dSameWr_any (p : Int) (a : Option Addr) (la ca : Nat) (s : List UInt8) (q : Int) (b : Option Addr) (lb cb : Nat) (t : List UInt8) (w : World) (hA : Bsl w w.heap.size a la ca s) (hB : Bsl w w.heap.size b lb cb t) (r : Bool) (hr : r = true ↔ (p, s) = (q, t)) :
    Calls Try.prog 57 #[.agg #[.int .i64 p, .slice a la ca], .agg #[.int .i64 q, .slice b lb cb]] w fun e w' => e = .returned (.bool r) ∧ Below w.heap.size w w' := by
  have b0 := ((Below.refl w.heap.size w).alloc (Nat.le_refl _) (.cells #[.int .i64 p, .slice a la ca] 55)).alloc (by simp) (.cells #[.int .i64 q, .slice b lb cb] 55)
  by_cases hpq : p = q
  · subst hpq
    have h0 : (p == p) = true := by simp
    have HE := Lib.hid (dEqual_any a la ca s b lb cb t _ _ _ (hA.step b0) (hB.step b0) r (hr.trans ⟨fun h => (Prod.mk.inj h).2, fun h => by rw [h]⟩))
    have HB0 := Lib.hid b0
    clear hA hB hr b0
    go_enter Try.func57, Try.ntmps57
    go_wp2_with fail
    refine HE.out.mono ?_
    rintro e w1 ⟨rfl, rfl⟩
    go_wp2_with fail
    go_ret
    exact ⟨rfl, HB0.out⟩
  · have h0 : (p == q) = false := by simpa using hpq
    have : r = false := by
      cases r with
      | false => rfl
      | true => exact absurd (Prod.mk.inj (hr.1 rfl)).1 hpq
    subst this
    have HB0 := Lib.hid b0
    clear hA hB hr b0 hpq
    go_enter Try.func57, Try.ntmps57
    go_wp2_with fail
    go_ret
    exact ⟨rfl, HB0.out⟩
theorem dEqW_len (a : Option Addr) (n c : Nat) (b : Option Addr) (m d : Nat) (w : World) (hne : n ≠ m) :
    Calls Try.prog 56 #[.slice a n c, .slice b m d, .func (.func 57) #[] #[]] w fun e w' => e = .returned (.bool false) ∧ Below w.heap.size w w' := by
  have h : ((n : Int) != m) = true := by simp; omega
  go_enter Try.func56, Try.ntmps56
  go_wp2_with fail
  go_ret
  exact ⟨rfl, Below.refl _ _⟩
set_option maxHeartbeats 1000000 in
theorem dEqW_any (a : Option Addr) (n c : Nat) (bl : WrL) (b : Option Addr) (d : Nat) (bl' : WrL) (w : World) (hA : Wts w w.heap.size a n c bl) (hB : Wts w w.heap.size b n d bl') (j : Nat) (hj : j ≤ n) (hall : ∀ i, i < j → wr_ bl i = wr_ bl' i) (hlast : j < n → wr_ bl j ≠ wr_ bl' j) :
    Calls Try.prog 56 #[.slice a n c, .slice b n d, .func (.func 57) #[] #[]] w fun e w' => e = .returned (.bool (decide (j = n))) ∧ Below w.heap.size w w' := by
  have n0 : (0 : Int) ≤ n := by omega
  have n1 := hA.len_le
  have h0 : ((n : Int) != n) = false := by simp
  obtain ⟨r, hr⟩ : ∃ r, decide (j = n) = r := ⟨_, rfl⟩
  rw [hr]
  have HA := Lib.hid hA
  have HB := Lib.hid hB
  have HALL := Lib.hid hall
  have HLAST := Lib.hid hlast
  have HR := Lib.hid hr
  clear hA hB hall hlast hr
  go_enter Try.func56, Try.ntmps56
  go_wp2_with fail
  clear h0
  go_loopw [17] (fun i wr => ∃ k : Nat, k ≤ j ∧ i = .int .i64 k ∧ Hid (Below w.heap.size w wr)) (fun i _ => n - (intOf i).toNat)
  case atStart => exact ⟨0, Nat.zero_le _, rfl, Lib.hid (Below.refl _ _)⟩
  case round =>
    obtain ⟨k, hk, rfl, HBr⟩ := hrel
    have k0 : (0 : Int) ≤ k := by omega
    by_cases hlt : k < n
    · have k1 : (k : Int) < n := by omega
      obtain ⟨ba, oa, p, A, l, c', s, hae, hba, hl, _, hc, hcd, hs⟩ := HA.out.at_ hlt
      obtain ⟨bb, ob, q, A2, l2, c2, t, hbe, hbb, hl2, _, hc2, hcd2, ht⟩ := HB.out.at_ hlt
      obtain rfl : a = some ⟨ba, oa, none⟩ := hae
      obtain rfl : b = some ⟨bb, ob, none⟩ := hbe
      have a1 := (HBr.out.cell (p := ⟨ba, oa + k * 2, none⟩) hba).trans hc
      have a2 := (HBr.out.cell (p := ⟨ba, oa + k * 2 + 1, none⟩) hba).trans hcd
      have b1 := Below.alloc HBr.out HBr.out.size (.cells #[.int .i64 p, .slice A l c'] 55)
      have a3 := (b1.cell (p := ⟨bb, ob + k * 2, none⟩) hbb).trans hc2
      have a4 := (b1.cell (p := ⟨bb, ob + k * 2 + 1, none⟩) hbb).trans hcd2
      have b2 := Below.alloc b1 b1.size (.cells #[.int .i64 q, .slice A2 l2 c2] 55)
      have hx := fun r hr => dSameWr_any p A l c' s q A2 l2 c2 t _ ((hs.below b2).more b2.size) ((ht.below b2).more b2.size) r hr
      have x1 := ((Blk.new wr 55 #[.int .i64 p, .slice A l c']).alloc (.cells #[.int .i64 q, .slice A2 l2 c2] 55))
      have x2 := Blk.new (wr.alloc (.cells #[.int .i64 p, .slice A l c'] 55)) 55 #[.int .i64 q, .slice A2 l2 c2]
      have HB2 := Lib.hid b2
      by_cases hkj : k < j
      · have HX := Lib.hid (hx true ⟨fun _ => by rw [← hl, ← hl2]; exact HALL.out k hkj, fun _ => rfl⟩)
        clear hx hl hl2 hs ht hc hc2 hcd hcd2 b1 b2 x1 x2 HBr
        go_wp2_with fail
        refine HX.out.mono ?_
        rintro e w1 ⟨rfl, b3⟩
        have HB3 := Lib.hid (HB2.out.trans (b3.mono HB2.out.size))
        clear b3 a1 a2 a3 a4
        go_wp2_with fail
        go_roundw
        case rel => exact ⟨k + 1, by omega, by go_num, HB3⟩
        case measure => simp [intOf]; omega
      · obtain rfl : k = j := by omega
        have hrf : r = false := by rw [← HR.out]; exact decide_eq_false (by omega)
        subst hrf
        have HX := Lib.hid (hx false ⟨fun h => (by cases h), fun h => absurd (by rw [hl, hl2]; exact h) (HLAST.out hlt)⟩)
        clear hx hl hl2 hs ht hc hc2 hcd hcd2 b1 b2 x1 x2 HBr
        go_wp2_with fail
        refine HX.out.mono ?_
        rintro e w1 ⟨rfl, b3⟩
        have HB3 := Lib.hid (HB2.out.trans (b3.mono HB2.out.size))
        clear b3 a1 a2 a3 a4
        go_wp2_with fail
        go_ret
        exact ⟨rfl, HB3.out⟩
    · have hkn : k = n := by omega
      have hrt : r = true := by rw [← HR.out]; exact decide_eq_true (by omega)
      subst hrt
      subst hkn
      go_wp2_with fail
      go_ret
      exact ⟨rfl, HBr.out⟩
theorem dSameW_any (a : Option Addr) (n c : Nat) (bl : WrL) (b : Option Addr) (m d : Nat) (bl' : WrL) (w : World) (hA : Wts w w.heap.size a n c bl) (hB : Wts w w.heap.size b m d bl') (r : Bool) (hr : r = true ↔ bl = bl') :
    Calls Try.prog 56 #[.slice a n c, .slice b m d, .func (.func 57) #[] #[]] w fun e w' => e = .returned (.bool r) ∧ Below w.heap.size w w' := by
  by_cases hnm : n = m
  · subst hnm
    obtain ⟨j, h1, h2, h3⟩ := part_at n (fun i => wr_ bl i = wr_ bl' i)
    have e : decide (j = n) = r := by
      by_cases hj : j = n
      · subst hj
        rw [decide_eq_true rfl, hr.2 (ext_wts (by rw [hA.1, hB.1]) (by rw [hA.1]; exact h2))]
      · rw [decide_eq_false hj]
        cases r with
        | false => rfl
        | true => exact absurd (by rw [hr.1 rfl]) (h3 (by omega))
    rw [← e]
    exact dEqW_any a n c bl b d bl' w hA hB j h1 h2 h3
  · have : r = false := by
      cases r with
      | false => rfl
      | true => exact absurd (by rw [← hA.1, ← hB.1, hr.1 rfl]) hnm
    subst this
    exact dEqW_len a n c b m d w hnm
/-- dev.Same. -/
theorem dSame_any (x : DAt) (D : DkL) (y : DAt) (E : DkL) (w : World) (h : Dsk w w.heap.size x D) (h' : Dsk w w.heap.size y E) (r : Bool) (hr : r = true ↔ D = E) :
    Calls Try.prog 32 #[dval x D, dval y E] w fun e w' => e = .returned (.bool r) ∧ Below w.heap.size w w' := by
  obtain ⟨w0, hw0⟩ : ∃ w0, (w.alloc (.cells #[.slice x.ba D.1.length x.bc, .slice x.wa D.2.length x.wc] 25)).alloc (.cells #[.slice y.ba E.1.length y.bc, .slice y.wa E.2.length y.wc] 25) = w0 := ⟨_, rfl⟩
  have b0 : Below w.heap.size w w0 := by rw [← hw0]; exact ((Below.refl _ w).alloc (Nat.le_refl _) _).alloc (by simp) _
  have x0 : Blk w0 w.heap.size 25 #[.slice x.ba D.1.length x.bc, .slice x.wa D.2.length x.wc] := by rw [← hw0]; exact (Blk.new w _ _).alloc _
  have y0 : Blk w0 (w.heap.size + 1) 25 #[.slice y.ba E.1.length y.bc, .slice y.wa E.2.length y.wc] := by
    have := Blk.new (w.alloc (.cells #[.slice x.ba D.1.length x.bc, .slice x.wa D.2.length x.wc] 25)) 25 #[.slice y.ba E.1.length y.bc, .slice y.wa E.2.length y.wc]
    rw [World.size_alloc, hw0] at this
    exact this
  have c0 := x0.cell 0
  have c1 := x0.cell 1
  have d0 := y0.cell 0
  have d1 := y0.cell 1
  have hb1 := fun r hr => dSameB_any x.ba D.1.length x.bc D.1 y.ba E.1.length y.bc E.1 w0 (h.step b0).1 (h'.step b0).1 r hr
  simp only [dval]
  by_cases hB : D.1 = E.1
  · have HB := Lib.hid (hb1 true ⟨fun _ => hB, fun _ => rfl⟩)
    have HW := Lib.hid (dSameW_any x.wa D.2.length x.wc D.2 y.wa E.2.length y.wc E.2 w0 (h.step b0).2 (h'.step b0).2 r (hr.trans ⟨fun h => by rw [h], fun h => Prod.ext hB h⟩))
    have HB0 := Lib.hid b0
    clear h h' hb1 b0 x0 y0 hr hB
    go_enter Try.func32, Try.ntmps32
    go_wp2_with fail
    refine HB.out.mono ?_
    rintro e w1 ⟨rfl, rfl⟩
    go_wp2_with fail
    refine HW.out.mono ?_
    rintro e w2 ⟨rfl, b2⟩
    have HB2 := Lib.hid (HB0.out.trans (b2.mono HB0.out.size))
    clear b2 hw0 c0 c1 d0 d1
    go_wp2_with fail
    go_ret
    exact ⟨rfl, HB2.out⟩
  · have HB := Lib.hid (hb1 false ⟨fun h => (by cases h), fun h => absurd h hB⟩)
    have : r = false := by
      cases r with
      | false => rfl
      | true => exact absurd (by rw [hr.1 rfl]) hB
    subst this
    have HB0 := Lib.hid b0
    clear h h' hb1 b0 x0 y0 hr hB
    go_enter Try.func32, Try.ntmps32
    go_wp2_with fail
    refine HB.out.mono ?_
    rintro e w1 ⟨rfl, rfl⟩
    clear hw0 c0 c1 d0 d1
    go_wp2_with fail
    go_ret
    exact ⟨rfl, HB0.out⟩
end Go.Proofs.Ytgpojnhhcobcbaa
