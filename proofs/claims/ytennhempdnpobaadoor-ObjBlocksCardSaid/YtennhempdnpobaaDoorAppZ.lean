/-
  append(b, make([]byte, m)...) where b is a row of the call's own.
-/
import Derived.Test.YtennhempdnpobaaDoorOwn
import Derived.Lib.AppendZeros
namespace Go.Proofs.YtennhempdnpobaaDoor
open Go.RowKit Go.Shelf
set_option maxRecDepth 100000

theorem zero_cells (m : Nat) : Builtin.zeroCells (Value.int .u8 0).cells m = (vals (List.replicate m 0)).toArray := by
  apply Array.ext
  · simp [Builtin.zeroCells, Value.cells, vals]
  · intro i h1 h2
    simp [Builtin.zeroCells, Value.cells, vals, Nat.mod_one]
theorem run_app_noughts {w : World} (base ty : Nat) (v : Value) (n : Nat) (xs : List UInt8) (hown : w.ownsRow base 5 1 v n (vals xs)) (m : Nat) (hn : 0 < n) (hm : 0 < m) (hnm : n + m ≤ 100000) (hbase : base ≤ w.heap.size) :
    ∃ v' w', (Builtin.append_ #[28, 3] ty #[v, .int .i64 (m : Int)]).run Tryd.prog w = .ok v' w' ∧ w'.ownsRow base 5 1 v' (n + m) (vals (xs ++ List.replicate m 0)) ∧ w.grownBy w' v.ownBlock := by
  obtain ⟨i0, hi, hz0, hz1, hz2⟩ := info_parts infoU8
  have ht : Tryd.prog.underlying 28 = some (.slice 5) := Tryd.underlying28
  have htn : Tryd.prog.underlying 3 = some (.int .i64) := Tryd.underlying3
  have hw : IntKind.i64.wrap (m : Int) = m := by rw [IntKind.wrap_i64]; omega
  have hneg : ¬ ((m : Int) < 0) := by omega
  have h48i : ¬ (281474976710656 < (m : Int) * (i0.bytes : Int)) := by rw [hz2]; omega
  have hm0 : ¬ (m = 0) := by omega
  have hxl : xs.length = n := by have := hown.1; simpa [vals] using this
  rcases hown.2 with ⟨rfl, h0⟩ | ⟨g, cap, cur, rfl, hbg, hg, hnc, hcm, hcs, htake⟩
  · omega
  · have hcat : vals (xs ++ List.replicate m 0) = vals xs ++ vals (List.replicate m 0) := by simp [vals]
    have hvl : (vals (List.replicate m (0 : UInt8))).length = m := by simp [vals]
    have hlen : (vals xs ++ vals (List.replicate m 0)).length = (n + m) * 1 := by rw [List.length_append, hvl, hown.1]; omega
    by_cases hroom : n + m ≤ cap
    · have hst := run_storeCells_at Tryd.prog g (n * 1) 5 (vals (List.replicate m 0)) 0 cur w hg (by rw [hvl, hcs]; omega) (fun u hu => by obtain ⟨y, _, rfl⟩ := List.mem_map.1 hu; rfl)
      simp only [Nat.add_zero, Nat.mul_one] at hst
      refine ⟨.slice (some ⟨g, 0, none⟩) (n + m) cap, w.setRow g (cur.toList.take (n * 1) ++ vals (List.replicate m 0) ++ cur.toList.drop (n * 1 + (vals (List.replicate m (0 : UInt8))).length)).toArray, ?_, ?_, ?_⟩
      rotate_left
      · rw [hcat]
        refine ⟨hlen, .inr ⟨g, cap, _, rfl, hbg, setRow_heap w g cur _ 5 _ hg, hroom, hcm, ?_, ?_⟩⟩
        · simp only [List.size_toArray, List.length_append, List.length_take, List.length_drop, Array.length_toList, hvl]
          omega
        · rw [htake, ← hlen]
          exact List.take_left
      · exact ⟨rfl, rfl, rfl, by simp [World.setRow], fun k _ hk => setRow_other w g k _ (fun e => hk (by simp [Value.ownBlock, e]))⟩
      · simp [Builtin.append_, run_underlying ht, run_underlying htn, sizeOf, typeInfo, zeroValue, hi, hz0, hz1, asInt, asIntOf, hw, hneg, h48i, hm0, hroom, zero_cells, Addr.add_lit]
        rw [hst]
        simp [Result.andThen]
    · have hold := run_firstCells_some (P := Tryd.prog) w.drew 1 n ⟨g, 0, none⟩ n cap (vals xs) hown.1 (by simpa using hown.cells (g := g) rfl)
      have hge := grownCap_ge w (n + m) cap 5
      have hcm2 : grownCap w (n + m) cap 5 ≤ maxLen := grownCap_le_maxLen w (n + m) cap 5 (by unfold maxLen; omega)
      have h63' : ¬ (9223372036854775807 < ((n : Int) + (m : Int))) := by omega
      have h48' : ¬ (281474976710656 < Builtin.nextslicecap (n + m) cap * i0.bytes) := by
        have := growslice_fits (need := n + m) (old := cap) (bytes := 1) (by omega) (by omega)
        rw [hz2]
        omega
      refine ⟨.slice (some ⟨w.heap.size, 0, none⟩) (n + m) (grownCap w (n + m) cap 5), w.drew.alloc (.cells ((vals xs).toArray ++ (vals (List.replicate m 0)).toArray ++ Builtin.zeroCells (Value.int .u8 0).cells (grownCap w (n + m) cap 5 - (n + m))) 5), ?_, ?_, ?_⟩
      · simp [Builtin.append_, run_underlying ht, run_underlying htn, sizeOf, typeInfo, zeroValue, hi, hz0, hz1, asInt, asIntOf, hw, hneg, h48i, hm0, hroom, h63', h48', Question.forced, zero_cells, hold, newRow, grownCap]
      · rw [hcat]
        refine ⟨hlen, .inr ⟨w.heap.size, _, _, rfl, hbase, heap_alloc_new w.drew _, hge, hcm2, ?_, ?_⟩⟩
        · simp only [Array.size_append, List.size_toArray, size_zeroCells, hown.1, hvl]
          simp [Value.cells]
          omega
        · simp only [Array.toList_append, List.append_assoc]
          rw [← List.append_assoc, ← hlen]
          exact List.take_left
      · exact ⟨rfl, rfl, rfl, by simp, fun k hk _ => heap_alloc_old w.drew _ hk⟩
end Go.Proofs.YtennhempdnpobaaDoor
