/-
  Law 14's alive: the block of an object of holes.
-/
import Derived.Test.YtennhempdnpobaaDoorObRead
import Derived.Test.YtennhempdnpobaaDoorLawObjA
import Derived.Test.YtennhempdnpobaaDoorIn
namespace Go.Proofs.YtennhempdnpobaaDoor
open Go.RowKit Go.Shelf
set_option maxRecDepth 100000

theorem empty_first : ((blockOb emptyOb).drop 0).take 5 = [1, 2, 44, 1, 0] := rfl
theorem loAlive_any (w : World) (hz : Szs w) : Calls Tryd.prog 10 #[] w fun e w' => e = .returned (.bool true) ∧ Below w.heap.size w w' := by
  have HE := Lib.hid (loEmpty_any w)
  have HZ := Lib.hid hz
  clear hz
  go_enter Tryd.func10, Tryd.ntmps10
  go_wp2_with fail
  refine HE.out.mono ?_
  rintro e w1 ⟨g, rfl, _, hp, b1⟩
  have hc := obWrite_any (some ⟨g, 0, none⟩) 15 emptyOb w1 (holes_pts hp) empty_wf (HZ.out.step b1)
  rw [show owriteO emptyOb = (blockOb emptyOb, 0) by unfold owriteO; rw [if_pos empty_may]] at hc
  have HC := Lib.hid hc
  have HB := Lib.hid b1
  have HF := Lib.hid empty_first
  have HL := Lib.hid (blockOb_length emptyOb)
  obtain ⟨BL, hBL⟩ : ∃ B, blockOb emptyOb = B := ⟨_, rfl⟩
  rw [hBL] at HC HF HL
  clear hc b1 hp hBL
  go_wp2_with fail
  refine HC.out.mono ?_
  rintro e w2 ⟨v, rfl, ho, b2⟩

  rw [HL.out] at ho
  obtain ⟨gv, cv, rfl, _⟩ := bsl_of_own ho (by omega)
  have hbs := own_bsl ho
  have hcap := hbs.2.1
  have hw5 := hbs.win 0 5 (by omega)
  rw [HF.out] at hw5
  have V1 : (convert 28 9 (.slice (some ⟨gv, 0, none⟩) 5 cv)).run Tryd.prog w2 = .ok (.string (strOf [1, 2, 44, 1, 0])) w2 := hw5.conv
  have hsl : ∀ W : World, (Instr.slice 28 (.slice (some ⟨gv, 0, none⟩) 256 cv) none (some (.int .i64 5)) none).run Tryd.prog W = .ok (.slice (some ⟨gv, 0, none⟩) 5 cv) W := fun W => slice_h W gv 0 256 cv 5 (by omega) (by omega)
  have e1 : ((strOf [1, 2, 44, 1, 0]).toList == [1, 2, 44, 1, 0]) = true := by rw [strOf_toList]; rfl
  have HB2 := Lib.hid (HB.out.trans (b2.mono HB.out.size))
  clear ho b2 hbs hw5 hcap
  go_wp2_with fail
  go_ret
  exact ⟨rfl, HB2.out⟩
end Go.Proofs.YtennhempdnpobaaDoor
