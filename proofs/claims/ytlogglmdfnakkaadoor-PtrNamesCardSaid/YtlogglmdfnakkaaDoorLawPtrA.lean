/-
  The example of the statements of layer 10: a pointer's bytes.
-/
import Derived.Test.YtlogglmdfnakkaaDoorPtOpen
import Derived.Test.YtlogglmdfnakkaaDoorPtTop
namespace Go.Proofs.YtlogglmdfnakkaaDoor
open Go.RowKit Go.Shelf
set_option maxRecDepth 100000

theorem alive_bytes : writeO (20, 258, 0, 0, 1) = ([20, 2, 1, 0, 0, 0, 0, 0, 0, 0, 0, 0, 1, 0, 0, 0], 0) := by decide +kernel
theorem alive_any (w : World) (hz : Szs w) : Calls Tryd.prog 13 #[] w fun e w' => e = .returned (.bool true) ∧ Below w.heap.size w w' := by
  have hw := Write_any (20, 258, 0, 0, 1) ⟨⟨by decide, by decide⟩, by decide, by decide, by decide, by decide⟩ w hz
  rw [alive_bytes] at hw
  have HW := Lib.hid hw
  clear hw hz
  go_enter Tryd.func13, Tryd.ntmps13
  go_wp2_with (go_at_call 9
               refine HW.out.mono ?_
               rintro ev w1 ⟨v1, rfl, o1, b1⟩
               obtain ⟨A1, C1, rfl, s1⟩ := own_to o1
               have hcv : (convert 22 9 (.slice A1 16 C1)).run Tryd.prog w1 = .ok (.string ⟨#[20, 2, 1, 0, 0, 0, 0, 0, 0, 0, 0, 0, 1, 0, 0, 0]⟩) w1 := s1.conv
               have HB1 := Lib.hid b1
               clear s1 o1 b1)
  go_ret
  exact ⟨rfl, HB1.out⟩
end Go.Proofs.YtlogglmdfnakkaaDoor
