/-
  code.Put, of a number and a size that may be, returns a new slice of the number's bytes, the lowest first, and OK; nothing that was there is written.
-/
import Derived.Test.YtennhempdnpobaaDoorIter
import Derived.Test.YtennhempdnpobaaDoorRound
namespace Go.Proofs.YtennhempdnpobaaDoor
open Go.RowKit Go.Shelf
set_option maxRecDepth 100000
attribute [local go_sem] Oper.semAt_some

theorem make1 (w : World) : (Instr.makeSlice 28 (.int .i64 1) (.int .i64 1)).run Tryd.prog w = .ok (.slice (some ⟨w.heap.size, 0, none⟩) 1 1) (w.alloc (.cells #[.int .u8 0] 5)) := by kernel_rfl
theorem make2 (w : World) : (Instr.makeSlice 28 (.int .i64 2) (.int .i64 2)).run Tryd.prog w = .ok (.slice (some ⟨w.heap.size, 0, none⟩) 2 2) (w.alloc (.cells #[.int .u8 0, .int .u8 0] 5)) := by kernel_rfl
theorem make3 (w : World) : (Instr.makeSlice 28 (.int .i64 3) (.int .i64 3)).run Tryd.prog w = .ok (.slice (some ⟨w.heap.size, 0, none⟩) 3 3) (w.alloc (.cells #[.int .u8 0, .int .u8 0, .int .u8 0] 5)) := by kernel_rfl
theorem make4 (w : World) : (Instr.makeSlice 28 (.int .i64 4) (.int .i64 4)).run Tryd.prog w = .ok (.slice (some ⟨w.heap.size, 0, none⟩) 4 4) (w.alloc (.cells #[.int .u8 0, .int .u8 0, .int .u8 0, .int .u8 0] 5)) := by kernel_rfl
theorem make_any (k : Nat) (h1 : 1 ≤ k) (h2 : k ≤ 4) (w : World) : (Instr.makeSlice 28 (.int .i64 k) (.int .i64 k)).run Tryd.prog w = .ok (.slice (some ⟨w.heap.size, 0, none⟩) k k) (w.alloc (.cells (Array.replicate k (.int .u8 0)) 5)) := by
  have hs : k = 1 ∨ k = 2 ∨ k = 3 ∨ k = 4 := by omega
  rcases hs with rfl | rfl | rfl | rfl
  · exact make1 w
  · exact make2 w
  · exact make3 w
  · exact make4 w


/-- The byte at place i of n. -/
def byteAt (n i : Nat) : UInt8 := UInt8.ofNat (n / 256 ^ i % 256)

/-- What the loop of Put keeps: the box of n, the box of the slice, and each cell: the byte where it has come, else nought. -/
def PutI (g n k : Nat) (w : World) (pre : List (Fin k × UInt8)) (W : World) : Prop :=
  (W.cell? ⟨g, 0, none⟩ = some (.int .i64 n) ∧ W.cell? ⟨g + 2, 0, none⟩ = some (.slice (some ⟨g + 1, 0, none⟩) k k) ∧
    ∀ j, j < k → W.cell? ⟨g + 1, j, none⟩ = some (.int .u8 ((if j ∈ pre.map (·.1.val) then byteAt n j else 0 : UInt8).toNat : Int)) ∧ W.frozen? ⟨g + 1, j, none⟩ = false) ∧ Below g w W

theorem byteAt_toNat (n i : Nat) : (byteAt n i).toNat = n / 256 ^ i % 256 := by simp [byteAt]
theorem byteAt_0 (n : Nat) : (((byteAt n 0).toNat : Nat) : Int) = (n : Int) % 256 := by rw [byteAt_toNat]; simp
theorem byteAt_1 (n : Nat) : (((byteAt n 1).toNat : Nat) : Int) = (n : Int) / 256 % 256 := by rw [byteAt_toNat]; simp
theorem byteAt_2 (n : Nat) : (((byteAt n 2).toNat : Nat) : Int) = (n : Int) / 65536 % 256 := by rw [byteAt_toNat]; simp
theorem byteAt_3 (n : Nat) : (((byteAt n 3).toNat : Nat) : Int) = (n : Int) / 16777216 % 256 := by rw [byteAt_toNat]; simp

theorem putI_all {k : Nat} {V : Nat → UInt8 → Prop} {ys : List (Fin k × UInt8)} (hC : Came k V ys) (hl : ys.length = k) (j : Nat) (hj : j < k) : j ∈ ys.map (·.1.val) := by
  have hi : k - 1 - j < ys.length := by omega
  have := (hC.2 (k - 1 - j) hi).1
  exact List.mem_map.2 ⟨ys[k - 1 - j], List.getElem_mem hi, by omega⟩

theorem putI_step {g n k i B : Nat} {w W : World} {pre : List (Fin k × UInt8)} {v : UInt8} {x : Int} (hi : i < k) (hI : PutI g n k w pre W) (hx : x = (((byteAt n i).toNat : Nat) : Int)) :
    KeepsFrom B W (W.setCell ⟨g + 1, i, none⟩ (.int .u8 x)).drew ∧ (Reach (g + 1 + 1 + 1) (g + 1) 0 k k (fun _ _ => True) W → Reach (g + 1 + 1 + 1) (g + 1) 0 k k (fun _ _ => True) (W.setCell ⟨g + 1, i, none⟩ (.int .u8 x)).drew) ∧
      PutI g n k w (pre ++ [(⟨i, hi⟩, v)]) (W.setCell ⟨g + 1, i, none⟩ (.int .u8 x)).drew := by
  subst hx
  obtain ⟨⟨h0, h2, h1⟩, hB⟩ := hI
  refine ⟨((KeepsOthers.setCell _ _ _).trans (KeepsOthers.drew _)).from _, fun hR => ⟨?_, fun j hj => ?_⟩, ⟨⟨?_, ?_, fun j hj => ⟨?_, ?_⟩⟩, ?_⟩⟩
  · exact (World.cell?_setCell_other W _ _ _ (by simp)).trans hR.1
  · rw [Nat.zero_add]
    by_cases e : j = i
    · subst e
      exact ⟨_, World.cell?_setCell_same' W _ _ (by rw [(h1 j hj).1]; rfl), trivial⟩
    · obtain ⟨v', hv', _⟩ := hR.2 j hj
      rw [Nat.zero_add] at hv'
      exact ⟨v', (World.cell?_setCell_other W _ _ _ (by simp; first | done | exact fun h => e h.symm)).trans hv', trivial⟩
  · exact (World.cell?_setCell_other W _ _ _ (by simp)).trans h0
  · exact (World.cell?_setCell_other W _ _ _ (by simp)).trans h2
  · by_cases e : j = i
    · subst e
      rw [if_pos (by simp)]
      exact World.cell?_setCell_same' W _ _ (by rw [(h1 j hj).1]; rfl)
    · have : (j ∈ (pre ++ [((⟨i, hi⟩ : Fin k), v)]).map (·.1.val)) ↔ j ∈ pre.map (·.1.val) := by simp [e]
      simp only [this]
      exact (World.cell?_setCell_other W _ _ _ (by simp; first | done | exact fun h => e h.symm)).trans (h1 j hj).1
  · exact (World.frozen?_setCell _ _ _ _).trans (h1 j hj).2
  · exact (hB.setCell (p := ⟨g + 1, i, none⟩) (by simp) _).drew

set_option maxHeartbeats 2000000 in
theorem put_in (m : Nat) (hn : 3 ≤ m) (n k : Nat) (h1 : 1 ≤ k) (h2 : k ≤ 4) (hm : n < 256 ^ k) (w : World) :
    CallsIn Fence.wide m Tryd.prog 40 #[.int .i64 n, .int .i64 k] w fun e W' => e = .returned (.tuple #[.slice (some ⟨w.heap.size + 1, 0, none⟩) k k, .int .i64 0]) ∧
      (∀ j, j < k → W'.cell? ⟨w.heap.size + 1, j, none⟩ = some (.int .u8 ((byteAt n j).toNat : Int))) ∧ Below w.heap.size w W' ∧ w.heap.size + 1 < W'.heap.size := by
  have hro : Fence.wide.round = none := rfl
  have hk1 : (1:Int) ≤ k := by omega
  have hk2 : (k:Int) ≤ 4 := by omega
  have hmk := make_any k h1 h2
  have HM := Lib.hid hm; clear hm
  refine callsIn_of_wp_marks Tryd.func40 rfl trivial ?_ hro
  simp only [Tryd.ntmps40, List.size_toArray, List.length_cons, List.length_nil, Nat.reduceAdd, Nat.reduceSub, Array.replicate_succ, Array.replicate_zero, List.push_toArray, List.append_toArray, List.nil_append, List.cons_append]
  have hd : 1 ≤ m := by omega
  gi_wp2_with (refine ⟨trivial, ?_⟩; first | (gi_at_call 49; refine (callsIn_wide.2 (isSize_yes _ (by omega) (by omega) _)).mono ?_; rintro e w' ⟨rfl, rfl⟩) | (gi_at_call 52; refine (callsIn_wide.2 (fits_yes n k HM.out h1 h2 _)).mono ?_; rintro e w' ⟨rfl, rfl⟩) | (gi_at_call 50; refine (back_in Fence.wide (m - 1) trivial hro _ _ _ _).mono ?_; rintro e w' ⟨rfl, rfl⟩))
  obtain ⟨g, hg⟩ : ∃ g, w.heap.size = g := ⟨_, rfl⟩
  obtain ⟨W0, hW0⟩ : ∃ W0, ((((w.alloc (Obj.cells #[Value.int IntKind.i64 ↑n] 3)).alloc (Obj.cells (Array.replicate k (Value.int IntKind.u8 0)) 5)).alloc (Obj.cells #[Value.slice (some { block := w.heap.size + 1, off := 0 }) k k] 28)).alloc (Obj.cells #[Value.slice (some { block := w.heap.size + 1, off := 0 }) k k] 28)) = W0 := ⟨_, rfl⟩
  have hsz : W0.heap.size = g + 4 := by rw [← hW0]; simp [hg]
  have hB0 : Below g w W0 := by rw [← hW0, ← hg]; exact ((((Below.refl _ w).alloc (Nat.le_refl _) _).alloc (by simp) _).alloc (by simp; omega) _).alloc (by simp; omega) _
  have c0 : W0.cell? ⟨g, 0, none⟩ = some (.int .i64 n) := by rw [← hW0, ← hg]; exact ((((Boxed.new w 3 _).alloc _).alloc _).alloc _).cell
  have c1 : ∀ j, j < k → W0.cell? ⟨g + 1, j, none⟩ = some (.int .u8 0) ∧ W0.frozen? ⟨g + 1, j, none⟩ = false := by
    intro j hj
    have hh : W0.heap[g + 1]? = some (.cells (Array.replicate k (Value.int IntKind.u8 0)) 5 (0, 0)) := by
      rw [← hW0, ← hg, Below.heap_alloc _ _ _ (by simp), Below.heap_alloc _ _ _ (by simp)]
      have := World.alloc_heap_new (w.alloc (Obj.cells #[Value.int IntKind.i64 ↑n] 3)) (Obj.cells (Array.replicate k (Value.int IntKind.u8 0)) 5)
      rwa [World.size_alloc] at this
    exact ⟨by simp [World.cell?, hh, hj], by simp [World.frozen?, hh]⟩
  have c2 : W0.cell? ⟨g + 2, 0, none⟩ = some (.slice (some ⟨g + 1, 0, none⟩) k k) := by
    rw [← hW0, ← hg]
    have := (Boxed.new ((w.alloc (Obj.cells #[Value.int IntKind.i64 ↑n] 3)).alloc (Obj.cells (Array.replicate k (Value.int IntKind.u8 0)) 5)) 28 (Value.slice (some { block := w.heap.size + 1, off := 0 }) k k)).alloc (Obj.cells #[Value.slice (some { block := w.heap.size + 1, off := 0 }) k k] 28)
    rw [World.size_alloc, World.size_alloc] at this
    exact this.cell
  have c3 : W0.cell? ⟨g + 3, 0, none⟩ = some (.slice (some ⟨g + 1, 0, none⟩) k k) := by
    rw [← hW0, ← hg]
    have := Boxed.new (((w.alloc (Obj.cells #[Value.int IntKind.i64 ↑n] 3)).alloc (Obj.cells (Array.replicate k (Value.int IntKind.u8 0)) 5)).alloc (Obj.cells #[Value.slice (some { block := w.heap.size + 1, off := 0 }) k k] 28)) 28 (Value.slice (some { block := w.heap.size + 1, off := 0 }) k k)
    rw [World.size_alloc, World.size_alloc, World.size_alloc] at this
    exact this.cell
  rw [hW0, hg]
  have hR : Reach (g + 3) (g + 1) 0 k k (fun _ _ => True) W0 := ⟨c3, fun j hj => ⟨0, by simpa using (c1 j hj).1, trivial⟩⟩
  refine wpIn_rangeFunc_ownG hro hd (gf := 56) (lb := #[.pointer (some ⟨g + 1 + 1 + 1, 0, none⟩)]) rfl trivial (enters_of Tryd.func56 (by kernel_rfl) rfl)
    (stops Fence.wide (m - 1) trivial hro (by omega) (g + 1 + 1 + 1) (g + 1) 0 k k (fun _ _ => True) (by omega) W0 (by omega) (by omega) hR) (fun h k r => k (h r)) (fun W l o o' _ h ho _ => reach_putObj l o o' h ho) (Below.refl _ _) (fun _ => rfl)
    (PutI g n k w) (fun _ _ _ => False) ?hI (fun _ _ _ _ _ hs _ _ => hs) ⟨⟨c0, c2, fun j hj => by simpa using c1 j hj⟩, hB0⟩
    (fun x => { tmps := #[Value.int IntKind.i64 ↑n, Value.int IntKind.i64 ↑k, Value.pointer (some { block := g, off := 0 }), undef, Value.slice none 0 0, Value.int IntKind.i64 0, Value.pointer (some { block := g + 1 + 1, off := 0 }), .int .i64 (x.1.val : Int), Value.int IntKind.i64 ↑k, Value.bool true, Value.bool false, Value.bool false, Value.int IntKind.i64 ↑n, Value.int IntKind.i64 ↑k, Value.bool true, Value.bool false, Value.bool false, Value.int IntKind.i64 ↑k, Value.slice (some { block := g + 1, off := 0 }) k k, Value.slice (some { block := g + 1, off := 0 }) k k, Value.func (Fn.func 56) #[] #[Value.pointer (some { block := g + 1 + 1 + 1, off := 0 })], .int .i64 (x.1.val : Int), .int .u8 (x.2.toNat : Int), undef, undef, undef, undef, undef, undef, undef, undef, undef], defers := [] }) ?assign ?body ?done ?stop
  case hI =>
    refine OwnFrom.and (Own.from (fun s A B row hs hg hr => ?_) _) (ownFrom_below (by omega) (by omega))
    obtain ⟨h0, h2, h1⟩ := hs
    exact ⟨cell_kept h0 hg hr, cell_kept h2 hg hr, fun j hj => ⟨cell_kept (h1 j hj).1 hg hr, (frozen_kept (h1 j hj).1 hg hr).trans (h1 j hj).2⟩⟩
  case assign =>
    intro l x W K hK
    gi_wp2
    exact hK
  case body =>
    rintro l pre ⟨⟨i, hi⟩, v⟩ W ⟨⟨hcn, hcs, hcj⟩, hB⟩ _
    obtain ⟨hci, hfi⟩ := hcj i hi
    have H := Lib.hid hcj; clear hcj
    have hi4 : i = 0 ∨ i = 1 ∨ i = 2 ∨ i = 3 := by omega
    have hmx : Tryd.prog.follows Departure.mixedOrders = true := by kernel_rfl
    have e0 : IntKind.i64.wrap 0 = 0 := by decide
    have e8 : IntKind.i64.wrap 8 = 8 := by decide
    have e16 : IntKind.i64.wrap 16 = 16 := by decide
    have e24 : IntKind.i64.wrap 24 = 24 := by decide
    have step := fun x (hx : x = (((byteAt n i).toNat : Nat) : Int)) => putI_step (B := W0.heap.size) (v := v) (x := x) hi ⟨⟨hcn, hcs, H.out⟩, hB⟩ hx
    have HS := Lib.hid step; clear step
    have HB := Lib.hid hB; clear hB
    rcases hi4 with rfl | rfl | rfl | rfl
    · have hi0 : (0 : Int) < k := by omega
      dsimp only
      gi_wp2
      refine region_round_tail 8 hmx (by kernel_rfl) (fun h => by obtain ⟨_, _, h⟩ := h; exact h) (by kernel_rfl) ?_
      simp only [List.take_succ_cons, List.take_zero, List.drop_succ_cons, List.drop_zero]
      repeat still_step
      refine wpStill_nil ?_
      go_wp2
      exact HS.out _ (by rw [byteAt_0])
    · have hi0 : (1 : Int) < k := by omega
      dsimp only
      gi_wp2
      refine region_round_tail 8 hmx (by kernel_rfl) (fun h => by obtain ⟨_, _, h⟩ := h; exact h) (by kernel_rfl) ?_
      simp only [List.take_succ_cons, List.take_zero, List.drop_succ_cons, List.drop_zero]
      repeat still_step
      refine wpStill_nil ?_
      go_wp2
      exact HS.out _ (by rw [byteAt_1])
    · have hi0 : (2 : Int) < k := by omega
      dsimp only
      gi_wp2
      refine region_round_tail 8 hmx (by kernel_rfl) (fun h => by obtain ⟨_, _, h⟩ := h; exact h) (by kernel_rfl) ?_
      simp only [List.take_succ_cons, List.take_zero, List.drop_succ_cons, List.drop_zero]
      repeat still_step
      refine wpStill_nil ?_
      go_wp2
      exact HS.out _ (by rw [byteAt_2])
    · have hi0 : (3 : Int) < k := by omega
      dsimp only
      gi_wp2
      refine region_round_tail 8 hmx (by kernel_rfl) (fun h => by obtain ⟨_, _, h⟩ := h; exact h) (by kernel_rfl) ?_
      simp only [List.take_succ_cons, List.take_zero, List.drop_succ_cons, List.drop_zero]
      repeat still_step
      refine wpStill_nil ?_
      go_wp2
      exact HS.out _ (by rw [byteAt_3])
  case done =>
    rintro D ys W hD ⟨hC, hl⟩ ⟨⟨h0, h2, h1⟩, hB⟩ hK
    have hD' : g + 4 ≤ D := by omega
    have H1 := Lib.hid h1; clear h1
    have HC := Lib.hid hC; clear hC
    have HL := Lib.hid hl; clear hl
    have h2' : W.cell? ⟨g + 1 + 1, 0, none⟩ = some (.slice (some ⟨g + 1, 0, none⟩) k k) := h2
    gi_wp2
    refine ⟨by simp, .inl ⟨_, _, rfl, run_takeDeferred hK, ?_⟩⟩
    subst hg
    refine ⟨.tuple #[.slice (some ⟨w.heap.size + 1, 0, none⟩) k k, .int .i64 0], by simp [results, Tryd.f40, go_sem], rfl, fun j hj => ?_, hB.trans (belowK_b (w := w) (by omega) W D _ _ (by omega) hK rfl rfl), ?_⟩
    · have := putI_all HC.out HL.out j hj
      have hc := (H1.out j hj).1
      rw [if_pos this] at hc
      exact cell_kept hc (grownBy_putObj' _ D (.deferred none)) (fun r e => by cases e; exact ⟨_, hK, rfl⟩)
    · have := (Array.getElem?_eq_some_iff.1 hK).1
      simp; omega
  case stop =>
    rintro D c pre W _ _ h _
    exact h.elim
end Go.Proofs.YtennhempdnpobaaDoor
