/-
  slices.SortFunc over pointers, as dead.Join calls it: the row holds the same pointers, and their blocks do not fall.
-/
import Derived.Test.YtadffkfalclpjaaPRow
import Derived.Test.YtadffkfalclpjaaDd
import Derived.Shelf.SlSortCmp.WholeK
import Derived.Shelf.SlSortCmp.NoneTotal
import Derived.Shelf.SlLaysF0
import Derived.Shelf.SlGeneric
import Derived.Ground.SlsfProg
namespace Go.Proofs.Ytadffkfalclpjaa
open Go.RowKit Go.Shelf
set_option maxRecDepth 100000

def dSort_ren : Go.Shelf.Ren := ⟨fun | 6 => 26 | 15 => 37 | 14 => 36 | 28 => 50 | 29 => 51 | 20 => 42 | 21 => 43 | 22 => 44 | 23 => 45 | 24 => 46 | 25 => 47 | 26 => 48 | 27 => 49 | 46 => 53 | 47 => 54 | 48 => 55 | 49 => 56 | 50 => 57 | 57 => 60 | n => n, fun | 22 => 22 | 24 => 25 | 25 => 55 | 3 => 3 | 39 => 62 | 0 => 0 | 53 => 23 | 55 => 76 | 4 => 4 | 46 => 68 | 45 => 67 | 50 => 72 | 5 => 5 | 9 => 9 | 66 => 77 | 70 => 81 | 76 => 84 | 77 => 85 | n => n, fun | n => n⟩
theorem dSort_lays : Go.Proofs.SlLaysF0.n6 Try.prog dSort_ren := {
  mixed := by kernel_rfl
  f6 := ⟨Try.f26.name, by decide, Try.func26.trans (congrArg some (by kernel_rfl))⟩
  f14 := ⟨Try.f36.name, by decide, Try.func36.trans (congrArg some (by kernel_rfl))⟩
  f15 := Try.func37.trans (congrArg some (by kernel_rfl))
  f20 := ⟨Try.f42.name, by decide, Try.func42.trans (congrArg some (by kernel_rfl))⟩
  f21 := ⟨Try.f43.name, by decide, Try.func43.trans (congrArg some (by kernel_rfl))⟩
  f22 := ⟨Try.f44.name, by decide, Try.func44.trans (congrArg some (by kernel_rfl))⟩
  f23 := ⟨Try.f45.name, by decide, Try.func45.trans (congrArg some (by kernel_rfl))⟩
  f24 := ⟨Try.f46.name, by decide, Try.func46.trans (congrArg some (by kernel_rfl))⟩
  f25 := ⟨Try.f47.name, by decide, Try.func47.trans (congrArg some (by kernel_rfl))⟩
  f26 := ⟨Try.f48.name, by decide, Try.func48.trans (congrArg some (by kernel_rfl))⟩
  f27 := ⟨Try.f49.name, by decide, Try.func49.trans (congrArg some (by kernel_rfl))⟩
  f28 := Try.func50.trans (congrArg some (by kernel_rfl))
  f29 := Try.func51.trans (congrArg some (by kernel_rfl))
  f46 := ⟨Try.f53.name, by decide, Try.func53.trans (congrArg some (by kernel_rfl))⟩
  f47 := Try.func54.trans (congrArg some (by kernel_rfl))
  f48 := Try.func55.trans (congrArg some (by kernel_rfl))
  f49 := ⟨Try.f56.name, by decide, Try.func56.trans (congrArg some (by kernel_rfl))⟩
  f50 := ⟨Try.f57.name, by decide, Try.func57.trans (congrArg some (by kernel_rfl))⟩
  f57 := ⟨Try.f60.name, by decide, Try.func60.trans (congrArg some (by kernel_rfl))⟩
  t0 := Try.underlying0
  a0 := Try.isAgg0
  z0 := Try.sizeOf0
  v0 := Try.zeroValue0
  t3 := Try.underlying3
  a3 := Try.isAgg3
  z3 := Try.sizeOf3
  v3 := Try.zeroValue3
  t4 := Try.underlying4
  a4 := Try.isAgg4
  z4 := Try.sizeOf4
  v4 := Try.zeroValue4
  t5 := Try.underlying5
  a5 := Try.isAgg5
  z5 := Try.sizeOf5
  v5 := Try.zeroValue5
  t9 := Try.underlying9
  a9 := Try.isAgg9
  z9 := Try.sizeOf9
  v9 := Try.zeroValue9
  t22 := Try.underlying22
  a22 := Try.isAgg22
  z22 := Try.sizeOf22
  v22 := Try.zeroValue22
  t25 := Try.underlying55
  a25 := Try.isAgg55
  z25 := Try.sizeOf55
  v25 := Try.zeroValue55
  t39 := Try.underlying62
  a39 := Try.isAgg62
  z39 := Try.sizeOf62
  v39 := Try.zeroValue62
  t45 := Try.underlying67
  a45 := Try.isAgg67
  z45 := Try.sizeOf67
  v45 := Try.zeroValue67
  t46 := Try.underlying68
  a46 := Try.isAgg68
  z46 := Try.sizeOf68
  v46 := Try.zeroValue68
  t50 := Try.underlying72
  a50 := Try.isAgg72
  z50 := Try.sizeOf72
  v50 := Try.zeroValue72
  t53 := Try.underlying23
  a53 := Try.isAgg23
  z53 := Try.sizeOf23
  v53 := Try.zeroValue23
  t55 := Try.underlying76
  a55 := Try.isAgg76
  z55 := Try.sizeOf76
  v55 := Try.zeroValue76
  t66 := Try.underlying77
  a66 := Try.isAgg77
  z66 := Try.sizeOf77
  v66 := Try.zeroValue77
  t70 := Try.underlying81
  a70 := Try.isAgg81
  z70 := Try.sizeOf81
  v70 := Try.zeroValue81
  t76 := Try.underlying84
  a76 := Try.isAgg84
  z76 := Try.sizeOf84
  v76 := Try.zeroValue84
  t77 := Try.underlying85
  a77 := Try.isAgg85
  z77 := Try.sizeOf85
  v77 := Try.zeroValue85 }
theorem dNaN_any (x : Int) (w : World) : Calls Try.prog 38 #[.int .i64 x] w fun e w' => e = .returned (.bool false) ∧ w = w' := by
  go_enter Try.func38, Try.ntmps38
  go_wp2_with fail
  go_ret
  exact ⟨by simp, rfl⟩
theorem dCmp_any (x y : Int) (w : World) : Calls Try.prog 28 #[.int .i64 x, .int .i64 y] w fun e w' => e = .returned (.int .i64 (Lib.compareInt x y)) ∧ w = w' := by
  have h1 := dNaN_any x
  have h2 := dNaN_any y
  rw [Lib.compareInt]
  by_cases h : x < y
  · rw [if_pos h]
    go_enter Try.func28, Try.ntmps28
    go_wp2_with (first
      | (go_at_call 38; refine (h1 _).mono ?_; rintro ev w1 ⟨rfl, rfl⟩; clear h1)
      | (go_at_call 38; refine (h2 _).mono ?_; rintro ev w1 ⟨rfl, rfl⟩))
    go_ret
    exact ⟨rfl, rfl⟩
  · rw [if_neg h]
    by_cases h' : x > y
    · rw [if_pos h']
      go_enter Try.func28, Try.ntmps28
      go_wp2_with (first
        | (go_at_call 38; refine (h1 _).mono ?_; rintro ev w1 ⟨rfl, rfl⟩; clear h1)
        | (go_at_call 38; refine (h2 _).mono ?_; rintro ev w1 ⟨rfl, rfl⟩))
      go_ret
      exact ⟨rfl, rfl⟩
    · rw [if_neg h']
      go_enter Try.func28, Try.ntmps28
      go_wp2_with (first
        | (go_at_call 38; refine (h1 _).mono ?_; rintro ev w1 ⟨rfl, rfl⟩; clear h1)
        | (go_at_call 38; refine (h2 _).mono ?_; rintro ev w1 ⟨rfl, rfl⟩))
      go_ret
      exact ⟨rfl, rfl⟩
/-- What the closure answers. -/
def ddCmp (l m : Pt) : Int := Lib.compareInt l.1 m.1
theorem dClosure (l m : Pt) (w : World) : Calls Try.prog 27 #[.agg (ptC l).toArray, .agg (ptC m).toArray] w fun e w' => e = .returned (.int .i64 (ddCmp l m)) ∧ ∃ q os', w' = Sort.grow (w.drewN q) os' := by
  have hc := fun W => dCmp_any l.1 m.1 W
  unfold ddCmp
  obtain ⟨r, hr⟩ : ∃ r, Lib.compareInt l.1 m.1 = r := ⟨_, rfl⟩
  rw [hr] at hc ⊢
  clear hr
  simp only [ptC]
  go_enter Try.func27, Try.ntmps27
  go_wp2_with (go_at_call 28; refine (hc _).mono ?_; rintro ev w1 ⟨rfl, rfl⟩)
  go_ret
  exact ⟨rfl, 0, _, by rw [Sort.alloc_eq_grow, Sort.alloc_eq_grow, Sort.grow_grow]; rfl⟩
theorem ddCmp_lt (l m : Pt) : Go.Proofs.ltOf ddCmp l m = decide (l.1 < m.1) := by
  unfold Go.Proofs.ltOf ddCmp Lib.compareInt
  by_cases h1 : l.1 < m.1
  · rw [if_pos h1]; simp; omega
  · rw [if_neg h1]
    by_cases h2 : l.1 > m.1
    · rw [if_pos h2]; simp; omega
    · rw [if_neg h2]; simp; omega
theorem ddCmp_swo : Sort.SWO (Go.Proofs.ltOf ddCmp) :=
  ⟨fun x => by rw [ddCmp_lt]; simp, fun x y z => by rw [ddCmp_lt, ddCmp_lt, ddCmp_lt]; simp; omega, fun x y z => by rw [ddCmp_lt, ddCmp_lt, ddCmp_lt]; simp; omega⟩
/-- The cells of pointers, flat. -/
theorem flat_ptCs (L : List Pt) : Go.Sort.flatK ptC 5 L.toArray = (ptCs L).toArray := by
  apply Array.ext
  · simp [ptCs_length]
  · intro t h1 h2
    have h1' : t < L.length * 5 := by simpa using h1
    have hi : t / 5 < L.length := by omega
    have hg := Go.Sort.get_flatK ptC 5 L.toArray t (by simpa using h1')
    rw [getElem!_pos _ t h1] at hg
    rw [hg]
    have e1 : L.toArray[t / 5]! = L[t / 5] := by rw [getElem!_pos _ _ (by simpa using hi)]; simp
    rw [e1]
    have hl : (ptC L[t / 5]).length = 5 := rfl
    have hj : t % 5 < (ptC L[t / 5]).length := by rw [hl]; omega
    have hx := ptCs_get L (t / 5) hi (t % 5) ((ptC L[t / 5])[t % 5]) (List.getElem?_eq_getElem hj)
    have e2 : t / 5 * 5 + t % 5 = t := by omega
    rw [e2] at hx
    rw [getElem!_pos (ptC L[t / 5]) (t % 5) hj, List.getElem_toArray]
    have h2' : t < (ptCs L).length := by simpa using h2
    rw [List.getElem?_eq_getElem h2'] at hx
    exact (Option.some.inj hx).symm
theorem ddRow_holds {w : World} {base g cap : Nat} {L : List Pt} (h : PRow w base (.slice (some ⟨g, 0, none⟩) L.length cap) L) : Go.Sort.HoldsK ptC 5 w g 0 L.toArray := by
  obtain ⟨⟨hl, ⟨h2, _⟩ | ⟨g', cap', cur, h2, hb, h3, h4, h5, h6, h7⟩⟩, hw⟩ := h
  · cases h2
  · cases h2
    intro j hj
    rw [flat_ptCs] at hj ⊢
    have hj' : j < (ptCs L).length := by simpa using hj
    have hs : j < L.length * 5 := by rw [← ptCs_length]; exact hj'
    refine ⟨?_, ?_⟩
    · rw [Nat.zero_add, cell_of_row w g j cur 25 (0, 0) h3, getElem!_pos _ j hj]
      have e : cur.toList[j]? = (ptCs L)[j]? := by rw [← h7, List.getElem?_take_of_lt hs]
      rw [← Array.getElem?_toList, e, List.getElem?_eq_getElem hj']
      simp
    · exact Blk.frozen (show Blk w g 25 cur from h3) _
/-- The row behind the sort. -/
theorem ddRow_sorted {w : World} {base g cap n : Nat} {L L' : List Pt} {os : Array Obj} (h : PRow w base (.slice (some ⟨g, 0, none⟩) L.length cap) L) (hp : L'.Perm L) :
    PRow (sortWorldK ptC 5 w g 0 n L'.toArray os) base (.slice (some ⟨g, 0, none⟩) L.length cap) L' ∧ w.grownBy (sortWorldK ptC 5 w g 0 n L'.toArray os) (some g) := by
  obtain ⟨⟨hl, ⟨h2, _⟩ | ⟨g', cap', cur, h2, hb, h3, h4, h5, h6, h7⟩⟩, hw⟩ := h
  · cases h2
  · cases h2
    have hlt : g < w.heap.size := (Array.getElem?_eq_some_iff.1 h3).1
    have hn : L'.length = L.length := hp.length_eq
    have hF : Go.Sort.flatK ptC 5 L'.toArray = (ptCs L').toArray := flat_ptCs L'
    have hz : (ptCs L').length = L.length * 5 := by rw [ptCs_length, hn]
    have hput : ∀ k, k < w.heap.size → (sortWorldK ptC 5 w g 0 n L'.toArray os).heap[k]? = (w.heap.modify g (Go.Sort.onCells (Go.Sort.putCells id 0 (ptCs L').toArray)))[k]? := fun k hk => by
      unfold sortWorldK
      rw [Go.Sort.heap_grow_old _ _ (by rw [Go.Sort.putRowK, Go.Sort.size_putRow]; exact hk), Go.Sort.putRowK, hF]
      rfl
    have hg : (sortWorldK ptC 5 w g 0 n L'.toArray os).heap[g]? = some (.cells (Go.Sort.putCells id 0 (ptCs L').toArray cur) 25 (0, 0)) := by
      rw [hput g hlt, Array.getElem?_modify, if_pos rfl, h3]
      rfl
    have hsz : (Go.Sort.putCells id 0 (ptCs L').toArray cur).size = cur.size := by simp [Go.Sort.putCells]
    have htk : (Go.Sort.putCells id 0 (ptCs L').toArray cur).toList.take (L.length * 5) = ptCs L' := by
      apply List.ext_getElem?
      intro j
      by_cases hj : j < L.length * 5
      · have hjc : j < cur.size := by rw [h6]; exact Nat.lt_of_lt_of_le hj (Nat.mul_le_mul_right 5 h4)
        rw [List.getElem?_take_of_lt hj, Array.getElem?_toList]
        simp only [Go.Sort.putCells, Array.getElem?_mapIdx, Array.getElem?_eq_getElem hjc, Option.map_some, List.size_toArray]
        rw [if_pos ⟨Nat.zero_le _, by omega⟩, Nat.sub_zero, getElem!_pos _ j (by simpa using (by omega : j < (ptCs L').length)), List.getElem?_eq_getElem (by omega)]
        simp
      · rw [List.getElem?_eq_none (by simp; omega), List.getElem?_eq_none (by omega)]
    refine ⟨⟨⟨by rw [ptCs_length], .inr ⟨g, cap, _, by rw [hn], hb, hg, by omega, h5, by rw [hsz]; exact h6, by rw [hn]; exact htk⟩⟩, fun p hp' => hw p (hp.mem_iff.1 hp')⟩, ?_⟩
    refine ⟨rfl, rfl, rfl, ?_, fun i hi hne => ?_⟩
    · unfold sortWorldK
      rw [Go.Sort.size_grow, Go.Sort.putRowK, Go.Sort.size_putRow]
      exact Nat.le_add_right _ _
    · rw [hput i hi, Array.getElem?_modify, if_neg (fun e => hne (by rw [e]))]
/-- Blocks do not fall. -/
abbrev Weak (L : List Pt) : Prop := L.Pairwise fun p q => p.1 ≤ q.1
/-- The row is sorted. -/
theorem dSort_any (a : Option Addr) (cap : Nat) (L : List Pt) (w : World) (base : Nat) (h : PRow w base (.slice a L.length cap) L) (h4 : L.length ≤ 1000000) :
    Calls Try.prog 26 #[.slice a L.length cap, .func (.func 27) #[] #[]] w fun e w' => e = .returned (.tuple #[]) ∧ ∃ L', L'.Perm L ∧ Weak L' ∧ PRow w' base (.slice a L.length cap) L' ∧ w.grownBy w' (Value.ownBlock (.slice a L.length cap)) := by
  by_cases h0 : L.length = 0
  · obtain rfl : L = [] := List.eq_nil_of_length_eq_zero h0
    have hn := AnyF.slices_SortFunc_none dSort_lays a cap (.func (.func 27) #[] #[]) w
    refine hn.mono ?_
    rintro e w' ⟨rfl, rfl⟩
    exact ⟨rfl, [], List.Perm.refl _, List.Pairwise.nil, h, World.grownBy.refl _ _⟩
  · have hr := h
    obtain ⟨⟨hl, ⟨h2, h3⟩ | ⟨g, cap', cur, h2, hb, h3, _⟩⟩, hw⟩ := hr
    · exact absurd h3 h0
    · cases h2
      have hlt : g < w.heap.size := (Array.getElem?_eq_some_iff.1 h3).1
      have eg : ∀ args w, (callFunc 27 args).run Try.prog w = .ok (.enter 27 args) w := enters_of Try.func27 (by kernel_rfl) rfl
      have hcmp : CmpLays Try.prog 27 #[] ptC 5 ddCmp g 0 L.toArray.size w := fun _ _ _ _ x y => dClosure x y _
      have hs := AnyQ.slices_SortFunc dSort_lays 5 Try.isAgg25 Try.sizeOf25 ptC (fun _ => rfl) (fun x v hv => by
        simp only [ptC, List.mem_cons, List.not_mem_nil, or_false] at hv
        rcases hv with rfl | rfl | rfl | rfl | rfl <;> rfl) ddCmp ddCmp_swo 27 #[] g 0 cap L.toArray w eg hcmp (ddRow_holds h) hlt (by simp; omega)
      have hsz : L.toArray.size = L.length := by simp
      rw [hsz] at hs
      refine hs.mono ?_
      rintro e w' ⟨rfl, d', n, os, hp, hf, rfl⟩
      obtain ⟨p1, _, p3⟩ := hp
      have hd : d'.size = L.length := by rw [p1]; simp
      have e1 : (d'.extract 0 L.length) = d' := by rw [← hd]; simp
      have e2 : (L.toArray.extract 0 L.length) = L.toArray := by simp
      rw [e1, e2] at p3
      have hperm : d'.toList.Perm L := by simpa using p3
      have hweak : Weak d'.toList := by
        refine List.pairwise_iff_getElem.2 fun i j hi hj hij => ?_
        have hi' : i < d'.size := by simpa using hi
        have hj' : j < d'.size := by simpa using hj
        have := hf i j (Nat.zero_le _) hij (by rw [← hd]; exact hj')
        rw [ddCmp_lt, getElem!_pos d' i hi', getElem!_pos d' j hj'] at this
        simp only [decide_eq_false_iff_not] at this
        simp only [Array.getElem_toList]
        omega
      have hrow := ddRow_sorted (n := n) (os := os) h hperm
      rw [Array.toArray_toList] at hrow
      exact ⟨rfl, d'.toList, hperm, hweak, hrow.1, hrow.2⟩
end Go.Proofs.Ytadffkfalclpjaa
