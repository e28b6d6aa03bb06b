/-
  slices.Backward over a slice of bytes hands its places and bytes to the loop from behind, whatever the loop does that keeps the slice readable; code.isSize and code.fits answer as the chapter asks.
-/
import Derived.RangeFuncBox
import Derived.RangeFuncLeaves
import Derived.RangeFuncNested
import Derived.RangeFuncBound
import Derived.RangeFuncCalls
import Derived.Shelf.Abstract
import Derived.Shelf.RegionOpen
import Derived.WalkKit
import Derived.OwnWalkIn
import Derived.TacticsInMore
import Derived.LoopNIn
import Derived.LoopIn
import Derived.Outline
import Derived.Lib.Hide
import Derived.Test.YtennhempdnpobaaDoorProg
namespace Go.Proofs.YtennhempdnpobaaDoor
open Go.RowKit Go.Shelf
set_option maxRecDepth 100000
attribute [local go_sem] Oper.semAt_some

theorem isSize_yes (s : Int) (h1 : 1 ≤ s) (h2 : s ≤ 4) (w : World) : Calls Tryd.prog 49 #[.int .i64 s] w fun e w' => e = .returned (.bool true) ∧ w = w' := by
  go_enter Tryd.func49, Tryd.ntmps49
  go_wp2
  go_ret
  exact ⟨rfl, rfl⟩
theorem isSize_no (s : Int) (h : s < 1 ∨ 4 < s) (w : World) : Calls Tryd.prog 49 #[.int .i64 s] w fun e w' => e = .returned (.bool false) ∧ w = w' := by
  rcases h with h | h
  · go_enter Tryd.func49, Tryd.ntmps49
    go_wp2
    go_ret
    exact ⟨rfl, rfl⟩
  · have h0 : 1 ≤ s := by omega
    have h3 : ¬ s ≤ 4 := by omega
    go_enter Tryd.func49, Tryd.ntmps49
    go_wp2
    go_ret
    exact ⟨rfl, rfl⟩
theorem fits_neg (n s : Int) (h : n < 0) (w : World) : Calls Tryd.prog 52 #[.int .i64 n, .int .i64 s] w fun e w' => e = .returned (.bool false) ∧ w = w' := by
  go_enter Tryd.func52, Tryd.ntmps52
  go_wp2
  go_ret
  exact ⟨rfl, rfl⟩
theorem fits_yes (n k : Nat) (hm : n < 256 ^ k) (h1 : 1 ≤ k) (h2 : k ≤ 4) (w : World) : Calls Tryd.prog 52 #[.int .i64 n, .int .i64 k] w fun e w' => e = .returned (.bool true) ∧ w = w' := by
  have hs : k = 1 ∨ k = 2 ∨ k = 3 ∨ k = 4 := by omega
  rcases hs with rfl | rfl | rfl | rfl
  all_goals
    simp at hm
    have h0 : (0 : Int) ≤ n := by omega
    have h9 : (n : Int) ≤ 4294967295 := by omega
    go_enter Tryd.func52, Tryd.ntmps52
    go_wp2
    go_ret
    refine ⟨?_, rfl⟩
    show Ending.returned (.bool ((n : Int) / _ == 0)) = _
    congr 2
    simp
    omega
theorem fits_no (n k : Nat) (hm : 256 ^ k ≤ n) (hn : n ≤ 9223372036854775807) (h1 : 1 ≤ k) (h2 : k ≤ 4) (w : World) : Calls Tryd.prog 52 #[.int .i64 n, .int .i64 k] w fun e w' => e = .returned (.bool false) ∧ w = w' := by
  have hs : k = 1 ∨ k = 2 ∨ k = 3 ∨ k = 4 := by omega
  rcases hs with rfl | rfl | rfl | rfl
  all_goals
    simp at hm
    have h0 : (0 : Int) ≤ n := by omega
    have h9 : (n : Int) ≤ 9223372036854775807 := by omega
    go_enter Tryd.func52, Tryd.ntmps52
    go_wp2
    go_ret
    refine ⟨?_, rfl⟩
    show Ending.returned (.bool ((n : Int) / _ == 0)) = _
    congr 2
    simp
    omega

/-- What the walk backward goes on reading: the box of the slice, and a number in each cell of it, of which V tells. -/
def Reach (Bs b off len cap : Nat) (V : Nat → UInt8 → Prop) (W : World) : Prop :=
  W.cell? ⟨Bs, 0, none⟩ = some (.slice (some ⟨b, off, none⟩) len cap) ∧ ∀ j, j < len → ∃ v : UInt8, W.cell? ⟨b, off + j, none⟩ = some (.int .u8 (v.toNat : Int)) ∧ V j v

theorem back_in (F : Fence) (n : Nat) (h : F.fn 50) (hro : F.round = none) (a : Option Addr) (len cap : Nat) (w : World) :
    CallsIn F n Tryd.prog 50 #[.slice a len cap] w fun e w' => e = .returned (.func (.func 56) #[] #[.pointer (some ⟨w.heap.size, 0, none⟩)]) ∧ w' = w.alloc (.cells #[.slice a len cap] 28) := by
  refine callsIn_of_wp Tryd.func50 rfl h ?_ hro
  simp only [Tryd.ntmps50, List.size_toArray, List.length_cons, List.length_nil, Nat.reduceAdd, Nat.reduceSub, Array.replicate_succ, Array.replicate_zero, List.push_toArray, List.append_toArray, List.nil_append, List.cons_append]
  gi_wp2
  go_ret
  exact ⟨rfl, rfl⟩


/-- What has come when k rounds are over is so: the places from behind, and V of each. -/
def Came (len : Nat) (V : Nat → UInt8 → Prop) (pre : List (Fin len × UInt8)) : Prop :=
  pre.length ≤ len ∧ ∀ i (h : i < pre.length), (pre[i]).1.val = len - 1 - i ∧ V (pre[i]).1.val (pre[i]).2
theorem came_nil (len V) : Came len V [] := ⟨Nat.zero_le _, fun i h => by simp at h⟩
theorem came_snoc {len V pre} (h : Came len V pre) {j : Nat} (hl : j < len) {v : UInt8} (hj : j + pre.length + 1 = len) (hv : V j v) : Came len V (pre ++ [(⟨j, hl⟩, v)]) := by
  refine ⟨by simp; omega, fun i hi => ?_⟩
  by_cases hlt : i < pre.length
  · rw [List.getElem_append_left hlt]; exact h.2 i hlt
  · have : i = pre.length := by simp at hi; omega
    subst this
    simp only [List.getElem_append_right (Nat.le_refl _), Nat.sub_self, List.getElem_cons_zero]
    exact ⟨by omega, hv⟩

set_option maxHeartbeats 2000000 in
theorem backward_in (F : Fence) (n : Nat) (h19 : F.fn 56) (hro : F.round = none) (hn : 1 ≤ n) (l Bs b off len cap : Nat) (V : Nat → UInt8 → Prop) (hlen : len ≤ 9223372036854775807) (J Jx : List (Fin len × UInt8) → World → Prop)
    (hY : ∀ pre x W, J pre W → pre.length < len → YieldAt F (n - 1) Tryd.prog l #[.int .i64 ((x.1.val : Nat) : Int), .int .u8 ((x.2 : UInt8).toNat : Int)] W fun e W' =>
      (e = .returned (.bool true) ∧ J (pre ++ [x]) W' ∧ (Reach Bs b off len cap V W → Reach Bs b off len cap V W')) ∨ (e = .returned (.bool false) ∧ Jx (pre ++ [x]) W'))
    (W : World) (hR : Reach Bs b off len cap V W) (h0 : J [] W) :
    CallsIn F n Tryd.prog 56 #[.func (.yield l) #[] #[], .pointer (some ⟨Bs, 0, none⟩)] W fun e W' => (∃ v, e = .returned v) ∧
      ((∃ ys, (Came len V ys ∧ ys.length = len) ∧ J ys W') ∨ (∃ pre, Came len V pre ∧ Jx pre W')) := by
  refine callsIn_of_wp Tryd.func56 rfl h19 ?_ hro
  simp only [Tryd.ntmps56, List.size_toArray, List.length_cons, List.length_nil, Nat.reduceAdd, Nat.reduceSub, Array.replicate_succ, Array.replicate_zero, List.push_toArray, List.append_toArray, List.nil_append, List.cons_append]
  have hbox := hR.1
  have HR := Lib.hid hR
  clear hR
  have hll : (0 : Int) ≤ len := by omega
  have hlm : (len : Int) ≤ 9223372036854775807 := by omega
  gi_wp2
  gi_loopw [3] (fun i wr => ∃ pre : List (Fin len × UInt8), Came len V pre ∧ i = .int .i64 ((len : Int) - 1 - pre.length) ∧ J pre wr ∧ Reach Bs b off len cap V wr)
    (fun i _ => (intOf i + 1).toNat)
  case atStart => exact ⟨[], came_nil _ _, by simp, h0, HR.out⟩
  case round =>
    obtain ⟨pre, hC, rfl, hJs, hRs⟩ := hrel
    by_cases hlt : pre.length < len
    · obtain ⟨j, hj⟩ : ∃ j : Nat, j + pre.length + 1 = len := ⟨len - 1 - pre.length, by omega⟩
      have hjl : j < len := by omega
      obtain ⟨v, hv, hV⟩ := hRs.2 j hjl
      have hb := hRs.1
      have ej : (len : Int) - 1 - pre.length = (j : Int) := by omega
      rw [ej]
      obtain ⟨fn, tmps, assign, body, hy, hR⟩ := hY pre (⟨j, hjl⟩, v) wr hJs hlt
      dsimp only at hy
      have HV := Lib.hid hV; clear hV
      have HJ := Lib.hid hj; clear hj
      have HE := Lib.hid ej; clear ej
      have HC := Lib.hid hC; clear hC
      have HRs := Lib.hid hRs; clear hRs
      have hj0 : (0 : Int) ≤ j := by omega
      have hj1 : (j : Int) < len := by have := HJ.out; omega
      gi_wp2
      refine hR.mono ?_
      rintro e W3 (⟨rfl, hJ3, hk3⟩ | ⟨rfl, hJx3⟩)
      · gi_wp2
        go_roundw
        case rel => exact ⟨pre ++ [(⟨j, hjl⟩, v)], came_snoc HC.out hjl HJ.out HV.out, by have := HJ.out; simp; omega, hJ3, hk3 HRs.out⟩
        case measure => simp [intOf]
      · gi_wp2
        refine bodyPost_ret (results_none rfl _ _ _) rfl ?_
        exact ⟨⟨_, rfl⟩, .inr ⟨_, came_snoc HC.out hjl HJ.out HV.out, hJx3⟩⟩
    · have := hC.1
      have el : pre.length = len := by omega
      have ej : (len : Int) - 1 - pre.length = -1 := by omega
      rw [ej]
      gi_wp2
      go_end0
      exact ⟨⟨_, rfl⟩, .inl ⟨pre, ⟨hC, el⟩, hJs⟩⟩

theorem reach_putObj {Bs b off len cap : Nat} {V : Nat → UInt8 → Prop} {W : World} (l : Nat) (o o' : Obj) (h : W.heap[l]? = some o) (ho : o.isCells = false) (hR : Reach Bs b off len cap V W) : Reach Bs b off len cap V (W.putObj l o') := by
  have hk : ∀ r, some l = some r → ∃ o : Obj, W.heap[r]? = some o ∧ o.isCells = false := fun r e => by cases e; exact ⟨_, h, ho⟩
  exact ⟨cell_kept hR.1 (grownBy_putObj' W l o') hk, fun j hj => let ⟨v, hv, hV⟩ := hR.2 j hj; ⟨v, cell_kept hv (grownBy_putObj' W l o') hk, hV⟩⟩

theorem stops (F : Fence) (n : Nat) (h19 : F.fn 56) (hro : F.round = none) (hn : 1 ≤ n) (Bs b off len cap : Nat) (V : Nat → UInt8 → Prop) (hlen : len ≤ 9223372036854775807) (w : World) (hBs : Bs < w.heap.size) (hb : b < w.heap.size) (hR : Reach Bs b off len cap V w) :
    SeqStopsK F n Tryd.prog 56 #[.pointer (some ⟨Bs, 0, none⟩)] (fun x : Fin len × UInt8 => #[Value.int .i64 (x.1.val : Int), Value.int .u8 (x.2.toNat : Int)]) (fun A B => Reach Bs b off len cap V A → Reach Bs b off len cap V B)
      (fun ys => Came len V ys ∧ ys.length = len) (fun pre => Came len V pre) len w := fun l J Jx W hW _ _ hY h0 => by
  refine backward_in F n h19 hro hn l Bs b off len cap V hlen J Jx hY W ⟨(hW.cell (p := ⟨Bs, 0, none⟩) hBs).trans hR.1, fun j hj => ?_⟩ h0
  obtain ⟨v, hv, hV⟩ := hR.2 j hj
  exact ⟨v, (hW.cell (p := ⟨b, off + j, none⟩) hb).trans hv, hV⟩
end Go.Proofs.YtennhempdnpobaaDoor
