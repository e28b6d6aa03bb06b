/-
  What the program's sizes are where they lie as they were laid.
-/
import Derived.Test.YtennhempdnpobaaDoorRows
import Derived.Test.YtennhempdnpobaaDoorTie
import Derived.Test.YtennhempdnpobaaDoorCards
import Derived.Test.YtennhempdnpobaaDoorPtIn
import Derived.Lib.SmallJoins
import Derived.Deep.Matrix
import Derived.Deep.SlicePairs
import Derived.ProofKit
import Derived.LaidMore
import Derived.OpenShut
import Derived.Stop.Joined
import Derived.SevenTiedAt
namespace Go.Proofs.YtennhempdnpobaaDoor
open Go.RowKit Go.Shelf Go.Joins Go.ChangeShapes Go.WideShapes Go.ChangeAt
set_option maxRecDepth 100000

theorem gSizes : Tryd.prog.globalNamed "charterhouse/ptr.sizes" = some 0 := by kernel_rfl
theorem tSizes : (Tryd.prog.globals[0]?).map (·.type) = some 79 := by kernel_rfl
/-- The door's own heap meets the condition: closed facts. -/
theorem door_met (os : Os) (args : Array Value) : laidMetH Tryd.prog [("charterhouse/ptr.sizes", Rows.laid_charterhouse_ptr_sizes)] ((World.doorLaid Tryd.prog 400 os).forCall (fun _ _ => 0) ⟨#[], args, []⟩).memory :=
  laidMetH_of_parts3 (fuel := 8) (laidMet_of_run' 8 (by kernel_rfl) (by kernel_rfl)) (by kernel_rfl) (by kernel_rfl)
theorem szs_of_laid {W : World} (h : laidMetH Tryd.prog [("charterhouse/ptr.sizes", Rows.laid_charterhouse_ptr_sizes)] W) : Szs W := by
  rw [MakeChecks.laidMetH_plain _ _ _ (by kernel_rfl)] at h
  obtain ⟨ps, ⟨g0, t0, cs0, f0, q0, r0, hg0, ht0, hv0, hd0, _⟩, _⟩ := h
  obtain rfl := Option.some.inj (gSizes.symm.trans hg0)
  obtain rfl := Option.some.inj (tSizes.symm.trans ht0)
  obtain ⟨xs, m1, rfl, hx1, hlen, hn5, hel⟩ := DataW.trod_array Tryd.underlying79 hd0
  have c3 : Tryd.prog.cellsOf 3 = 1 := by kernel_rfl
  simp only [Prod.mk.injEq, Rows.laid_charterhouse_ptr_sizes, DataW.agg.injEq] at hx1
  have one : ∀ (i : Nat) (x : DataW Unit × List MemPlace) (n : Int), i < 5 → xs[i]? = some x → x.1 = .lit (.int .i64 n) → W.cell? ⟨0, i, none⟩ = some (.int .i64 n) := fun i x n hi hx hn => by
    have h0 := hel i hi
    rw [hx, c3, Nat.mul_one] at h0
    obtain ⟨k, e1, e2, _⟩ := DataW.trod_int Tryd.underlying3 h0
    have hk : k = n := by rw [e2] at hn; simpa using hn
    subst hk
    have hv := World.var?_cell hg0 hv0 i
    have e3 : (cs0.toList.drop i)[0]? = some (.int .i64 k) := by
      have : ((cs0.toList.drop i).take 1)[0]? = some (.int .i64 k) := by rw [e1]; rfl
      rwa [List.getElem?_take_of_lt (by omega)] at this
    rw [List.getElem?_drop, Nat.add_zero, Array.getElem?_toList] at e3
    rw [← e3]
    exact hv
  match xs, hn5, hx1, one with
  | [x0, x1, x2, x3, x4], _, hx1, one =>
    simp only [List.map_cons, List.map_nil, List.cons.injEq] at hx1
    have d0 := one 0 x0 1 (by omega) rfl hx1.1.1.symm
    exact ⟨World.block_lt_of_cell? W _ d0, d0, one 1 x1 3 (by omega) rfl hx1.1.2.1.symm, one 2 x2 4 (by omega) rfl hx1.1.2.2.1.symm, one 3 x3 4 (by omega) rfl hx1.1.2.2.2.1.symm, one 4 x4 4 (by omega) rfl hx1.1.2.2.2.2.1.symm⟩

end Go.Proofs.YtennhempdnpobaaDoor
