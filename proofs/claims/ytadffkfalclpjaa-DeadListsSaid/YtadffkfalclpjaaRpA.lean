/-
  The document's own May, Check, Number and Get of pointers; nothing that was there is written.
-/
import Derived.Test.YtadffkfalclpjaaPtTop
namespace Go.Proofs.Ytadffkfalclpjaa
open Go.RowKit Go.Shelf
set_option maxRecDepth 100000

theorem rpNone_any (p : Pt) (w : World) : Calls Try.prog 32 #[ptV p] w fun e w' => e = .returned (.bool (eqP p p0)) ∧ Below w.heap.size w w' := by
  obtain ⟨a, b, c, d, e⟩ := p
  have heq := eqPt_zero a b c d e
  go_enter Try.func32, Try.ntmps32
  go_wp2_with fail
  go_ret
  exact ⟨rfl, (Below.refl _ w).alloc (Nat.le_refl _) _⟩
theorem rpMay_any (p : Pt) (w : World) : Calls Try.prog 31 #[ptV p] w fun e w' => e = .returned (.bool (decide (MayP p))) ∧ Below w.heap.size w w' := by
  have hn := rpNone_any p (w.alloc (.cells (ptC p).toArray 25))
  have HB := Lib.hid ((Below.refl _ w).alloc (Nat.le_refl _) (.cells (ptC p).toArray 25))
  have HK := Lib.hid (show Blk (w.alloc (.cells (ptC p).toArray 25)) w.heap.size 25 (ptC p).toArray from Blk.new w _ _)
  obtain ⟨a, b, c, d, e⟩ := p
  by_cases h0 : eqP (a, b, c, d, e) p0 = true
  · have hm : decide (MayP (a, b, c, d, e)) = true := decide_eq_true (.inl ((eqP_iff _ _).1 h0))
    rw [hm]
    rw [h0] at hn
    have HN := Lib.hid hn
    clear hn hm h0
    go_enter Try.func31, Try.ntmps31
    go_wp2_with (go_at_call 32; refine HN.out.mono ?_; rintro ev w1 ⟨rfl, b1⟩; have HB1 := Lib.hid (HB.out.trans (b1.mono (by simp [ptC]))); clear b1)
    go_ret
    exact ⟨rfl, HB1.out⟩
  · have h0' : eqP (a, b, c, d, e) p0 = false := by simpa using h0
    rw [h0'] at hn
    have hne : (a, b, c, d, e) ≠ p0 := fun hh => h0 ((eqP_iff _ _).2 hh)
    have HN := Lib.hid hn
    clear hn
    by_cases g1 : 12 ≤ a
    · by_cases g2 : a < 256
      · by_cases g3 : 1 ≤ b
        · have hm : decide (MayP (a, b, c, d, e)) = decide (b ≤ 16777215) := by
            rw [decide_eq_decide]
            exact ⟨fun hh => (hh.resolve_left hne).2.2, fun hh => .inr ⟨⟨g1, g2⟩, g3, hh⟩⟩
          have hm2 : decide (b ≤ 16777215) = decide ((b : Int) ≤ 16777215) := by rw [decide_eq_decide]; omega
          rw [hm, hm2]
          have i1 : (1 : Int) ≤ (b : Int) := by omega
          clear hm hm2 h0 h0' hne
          go_enter Try.func31, Try.ntmps31
          go_wp2_with (go_at_call 32; refine HN.out.mono ?_; rintro ev w1 ⟨rfl, b1⟩; have HB1 := Lib.hid (HB.out.trans (b1.mono (by simp [ptC]))); obtain ⟨c0, c1, c2, c3, c4⟩ := (HK.out.below b1 HK.out.lt).five; clear b1)
          go_ret
          exact ⟨rfl, HB1.out⟩
        · have hm : decide (MayP (a, b, c, d, e)) = false := decide_eq_false fun hh => g3 (hh.resolve_left hne).2.1
          rw [hm]
          have i1 : ¬ (1 : Int) ≤ (b : Int) := by omega
          clear hm h0 h0' hne
          go_enter Try.func31, Try.ntmps31
          go_wp2_with (go_at_call 32; refine HN.out.mono ?_; rintro ev w1 ⟨rfl, b1⟩; have HB1 := Lib.hid (HB.out.trans (b1.mono (by simp [ptC]))); obtain ⟨c0, c1, c2, c3, c4⟩ := (HK.out.below b1 HK.out.lt).five; clear b1)
          go_ret
          exact ⟨rfl, HB1.out⟩
      · have hm : decide (MayP (a, b, c, d, e)) = false := decide_eq_false fun hh => g2 (hh.resolve_left hne).1.2
        rw [hm]
        clear hm h0 h0' hne
        go_enter Try.func31, Try.ntmps31
        go_wp2_with (go_at_call 32; refine HN.out.mono ?_; rintro ev w1 ⟨rfl, b1⟩; have HB1 := Lib.hid (HB.out.trans (b1.mono (by simp [ptC]))); obtain ⟨c0, c1, c2, c3, c4⟩ := (HK.out.below b1 HK.out.lt).five; clear b1)
        go_ret
        exact ⟨rfl, HB1.out⟩
    · have hm : decide (MayP (a, b, c, d, e)) = false := decide_eq_false fun hh => g1 (hh.resolve_left hne).1.1
      rw [hm]
      clear hm h0 h0' hne
      go_enter Try.func31, Try.ntmps31
      go_wp2_with (go_at_call 32; refine HN.out.mono ?_; rintro ev w1 ⟨rfl, b1⟩; have HB1 := Lib.hid (HB.out.trans (b1.mono (by simp [ptC]))); obtain ⟨c0, c1, c2, c3, c4⟩ := (HK.out.below b1 HK.out.lt).five; clear b1)
      go_ret
      exact ⟨rfl, HB1.out⟩
theorem leN_drop_cons (s : List UInt8) (i : Nat) (hi : i < s.length) : leN (s.drop i) = s[i].toNat + 256 * leN (s.drop (i + 1)) := by
  rw [List.drop_eq_getElem_cons hi, leN]
end Go.Proofs.Ytadffkfalclpjaa
