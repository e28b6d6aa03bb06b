/-
  ptr.Check, whatever it is handed; nothing that was there is written.
-/
import Derived.Test.YtadffkfalclpjaaPtCode
namespace Go.Proofs.Ytadffkfalclpjaa
open Go.RowKit Go.Shelf
set_option maxRecDepth 100000

/-- What Check answers. -/
def pcheckO (p : Pt) : Int := if MayP p then 0 else 8
theorem Check_any (p : Pt) (w : World) : Calls Try.prog 41 #[ptV p] w fun e w' => e = .returned (.int .i64 (pcheckO p)) ∧ Below w.heap.size w w' := by
  have hm := mayBe_any p (w.alloc (.cells (ptC p).toArray 25))
  have hb1 : Below w.heap.size w (w.alloc (.cells (ptC p).toArray 25)) := (Below.refl _ w).alloc (Nat.le_refl _) _
  have HB := Lib.hid hb1; clear hb1
  rw [pcheckO]
  by_cases h : MayP p
  · rw [if_pos h]
    rw [decide_eq_true h] at hm
    obtain ⟨a, b, c, d, e⟩ := p
    have HM := Lib.hid hm; clear hm
    go_enter Try.func41, Try.ntmps41
    go_wp2_with (go_at_call 52; refine HM.out.mono ?_; rintro ev w1 ⟨rfl, b1⟩; have HB1 := Lib.hid (HB.out.trans (b1.mono (by simp [ptC]))); clear b1)
    go_ret
    exact ⟨rfl, HB1.out⟩
  · rw [if_neg h]
    rw [decide_eq_false h] at hm
    obtain ⟨a, b, c, d, e⟩ := p
    have HM := Lib.hid hm; clear hm
    go_enter Try.func41, Try.ntmps41
    go_wp2_with (go_at_call 52; refine HM.out.mono ?_; rintro ev w1 ⟨rfl, b1⟩; have HB1 := Lib.hid (HB.out.trans (b1.mono (by simp [ptC]))); clear b1)
    go_ret
    exact ⟨rfl, HB1.out⟩
end Go.Proofs.Ytadffkfalclpjaa
