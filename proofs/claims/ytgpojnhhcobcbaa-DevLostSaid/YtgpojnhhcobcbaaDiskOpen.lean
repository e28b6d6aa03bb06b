/-
  What a disk that came in by value is; what a slice of marks that came in is.
-/
import Derived.Test.YtgpojnhhcobcbaaRdGreat
import Derived.Test.YtgpojnhhcobcbaaDevLeft
import Derived.Test.YtgpojnhhcobcbaaIn
import Derived.Lib.SmallJoins
import Derived.Deep.Matrix
import Derived.Deep.SlicePairs
import Derived.Deep.Grids
import Derived.SizedLaws
namespace Go.Proofs.Ytgpojnhhcobcbaa
open Go.RowKit Go.Shelf Go.Joins Go.ChangeShapes Go.WideShapes Go.ChangeAt
set_option maxRecDepth 100000

theorem cellsDisk : Try.prog.cellsOf 25 = 2 := by kernel_rfl
theorem weights_of {H : Type} {P : Program} {e : TypeId} {d : DataW H} {n : Nat} (hn : n ∈ d.weights P e) : ∀ {l : List (DataW H)}, d ∈ l → n ∈ DataW.weightsAll P e l
  | [], h => by cases h
  | x :: l, h => by
    unfold DataW.weightsAll
    rcases List.mem_cons.1 h with rfl | h
    · exact List.mem_append_left _ hn
    · exact List.mem_append_right _ (weights_of hn h)
/-- A slice of bytes that came in, and how long it may be. -/
theorem open_piece {H : Type} {enc : TypeId × Value → H} {W : World} {fuel : Nat} {v : Value} {y : DataW H × List MemPlace} (hf : DataW.trod enc Try.prog W 0 (fun _ => true) true fuel 30 [v] = some y) :
    ∃ a len cap s, v = .slice a len cap ∧ Bsl W W.heap.size a len cap s ∧ ((∀ n ∈ y.1.weights Try.prog 30, n ≤ reachBytes) → s.length ≤ reachBytes) := by
  have hb : Try.prog.bytesOf 5 = 1 := by kernel_rfl
  rcases open_ints Try.underlying30 Try.underlying5 (by kernel_rfl) hf with ⟨hcs, rfl⟩ | ⟨x, l, c, zs, hcs, _, hl, hm, hz, rfl, hcell, hwz⟩
  · obtain rfl : v = .slice none 0 0 := by simpa using hcs
    exact ⟨none, 0, 0, _, rfl, bsl_of_row (.inl ⟨rfl, rfl, rfl, rfl⟩), fun _ => Nat.zero_le _⟩
  · obtain rfl : v = .slice (some x) l c := by simpa using hcs
    have hz' : zs.length = c := by simpa using hz
    refine ⟨_, l, c, _, rfl, bsl_of_row (.inr ⟨x, rfl, hl, hm, hz', hcell, hwz⟩), fun hw => ?_⟩
    have := hw ((lits (H := H) .u8 (zs.take l)).length + (lits (H := H) .u8 (zs.drop l)).length) (by
      simp only [DataW.weights, Try.underlying30, hb, Nat.mul_one]
      exact List.mem_cons_self ..)
    simp only [lits, List.length_map, List.length_take, List.length_drop] at this ⊢
    omega
/-- A slice of slices of bytes that came in. -/
theorem open_blocks {H : Type} {enc : TypeId × Value → H} {W : World} {fuel : Nat} {v : Value} {y : DataW H × List MemPlace} (hf : DataW.trod enc Try.prog W 0 (fun _ => true) true fuel 22 [v] = some y) :
    ∃ a len cap bl, v = .slice a len cap ∧ Bls W W.heap.size a len cap bl ∧ ((∀ n ∈ y.1.weights Try.prog 22, n ≤ reachBytes) → ∀ i, i < bl.length → (bl.getD i []).length ≤ reachBytes) := by
  rcases Go.Deep.open_slice1 Try.underlying22 (by kernel_rfl) hf with ⟨hcs, rfl⟩ | ⟨x, len, cap, m, n, V, D, Pl, hcs, _, hl, hm, hmm, rfl, hr⟩
  · obtain rfl : v = .slice none 0 0 := by simpa using hcs
    exact ⟨none, 0, 0, [], rfl, bls_nil _ _, fun _ i hi => absurd hi (Nat.not_lt_zero _)⟩
  · obtain rfl : v = .slice (some x) len cap := by simpa using hcs
    obtain ⟨A, L, C, s, hs⟩ : ∃ (A : Nat → Option Addr) (L C : Nat → Nat) (s : Nat → List UInt8), ∀ i, i < len → V i = .slice (A i) (L i) (C i) ∧ Bsl W W.heap.size (A i) (L i) (C i) (s i) ∧ ((∀ n ∈ (D i).weights Try.prog 30, n ≤ reachBytes) → (s i).length ≤ reachBytes) := by
      have : ∀ i, ∃ q : Option Addr × Nat × Nat × List UInt8, i < len → V i = .slice q.1 q.2.1 q.2.2.1 ∧ Bsl W W.heap.size q.1 q.2.1 q.2.2.1 q.2.2.2 ∧ ((∀ n ∈ (D i).weights Try.prog 30, n ≤ reachBytes) → q.2.2.2.length ≤ reachBytes) := fun i => by
        by_cases hi : i < len
        · obtain ⟨a, l, c, s, h1, h2, h3⟩ := open_piece (hr i (by simp only [if_true] at hmm; omega)).2
          exact ⟨(a, l, c, s), fun _ => ⟨h1, h2, h3⟩⟩
        · exact ⟨(none, 0, 0, []), fun h => absurd h hi⟩
      exact ⟨fun i => (this i).choose.1, fun i => (this i).choose.2.1, fun i => (this i).choose.2.2.1, fun i => (this i).choose.2.2.2, fun i hi => (this i).choose_spec hi⟩
    have hg : ∀ i, i < len → ((List.range len).map s).getD i [] = s i := fun i hi => by simp [List.getD_eq_getElem?_getD, hi]
    refine ⟨_, len, cap, (List.range len).map s, rfl, ⟨by simp, hl, hm, fun h0 => ?_⟩, fun hw i hi => ?_⟩
    · obtain ⟨b, off, spot⟩ := x
      have h00 := (hr 0 (by simp only [if_true] at hmm; omega)).1
      have hspot : spot = none := by simpa [Addr.add] using World.cell?_spot h00
      subst hspot
      have hadd : ∀ i, (⟨b, off, none⟩ : Addr).add i = ⟨b, off + i, none⟩ := fun i => by unfold Addr.add; split <;> simp_all
      refine ⟨b, off, rfl, ?_, fun i hi => ?_⟩
      · rw [hadd] at h00
        exact World.block_lt_of_cell? W _ h00
      · have h1 := (hr i (by simp only [if_true] at hmm; omega)).1
        obtain ⟨e1, e2, _⟩ := hs i hi
        rw [hadd, e1] at h1
        rw [hg i hi, e2.1]
        exact ⟨A i, C i, h1, e2⟩
    · have hi' : i < len := by simpa using hi
      rw [hg i hi']
      refine (hs i hi').2.2 fun n hn => hw n ?_
      simp only [DataW.weights, Try.underlying22]
      exact List.mem_cons_of_mem _ (List.mem_append_left _ (weights_of hn (List.mem_map.2 ⟨i, List.mem_range.2 hi', rfl⟩)))
/-- A slice of writes that came in. -/
theorem open_writes {H : Type} {enc : TypeId × Value → H} {W : World} {fuel : Nat} {v : Value} {y : DataW H × List MemPlace} (hf : DataW.trod enc Try.prog W 0 (fun _ => true) true fuel 23 [v] = some y) :
    ∃ a len cap ws, v = .slice a len cap ∧ Wts W W.heap.size a len cap ws ∧ ((∀ n ∈ y.1.weights Try.prog 23, n ≤ reachBytes) → ∀ i, i < ws.length → (wr_ ws i).2.length ≤ reachBytes) := by
  rcases Go.Deep.open_slice_pairs Try.underlying23 Try.underlying55 (by kernel_rfl) rfl rfl (by kernel_rfl) (by kernel_rfl) hf with ⟨hcs, rfl⟩ | ⟨x, len, cap, m, n, V0, V1, D0, D1, P0, P1, hcs, _, hl, hm, hmm, rfl, hr⟩
  · obtain rfl : v = .slice none 0 0 := by simpa using hcs
    exact ⟨none, 0, 0, [], rfl, wts_nil _ _, fun _ i hi => absurd hi (Nat.not_lt_zero _)⟩
  · obtain rfl : v = .slice (some x) len cap := by simpa using hcs
    obtain ⟨A, L, C, s, p, hs⟩ : ∃ (A : Nat → Option Addr) (L C : Nat → Nat) (s : Nat → List UInt8) (p : Nat → Int), ∀ i, i < len → V1 i = .slice (A i) (L i) (C i) ∧ Bsl W W.heap.size (A i) (L i) (C i) (s i) ∧ ((∀ n ∈ (D1 i).weights Try.prog 30, n ≤ reachBytes) → (s i).length ≤ reachBytes) ∧ V0 i = .int .i64 (p i) ∧ (Lit.int .i64 (p i)).wf = true := by
      have : ∀ i, ∃ q : Option Addr × Nat × Nat × List UInt8 × Int, i < len → V1 i = .slice q.1 q.2.1 q.2.2.1 ∧ Bsl W W.heap.size q.1 q.2.1 q.2.2.1 q.2.2.2.1 ∧ ((∀ n ∈ (D1 i).weights Try.prog 30, n ≤ reachBytes) → q.2.2.2.1.length ≤ reachBytes) ∧ V0 i = .int .i64 q.2.2.2.2 ∧ (Lit.int .i64 q.2.2.2.2).wf = true := fun i => by
        by_cases hi : i < len
        · obtain ⟨_, _, h3, h4⟩ := hr i (by simp only [if_true] at hmm; omega)
          obtain ⟨a, l, c, s, h5, h6, h7⟩ := open_piece h4
          obtain ⟨p, e1, _, wn⟩ := DataW.trod_int Try.underlying3 h3
          exact ⟨(a, l, c, s, p), fun _ => ⟨h5, h6, h7, by simpa using e1, wn⟩⟩
        · exact ⟨(none, 0, 0, [], 0), fun h => absurd h hi⟩
      exact ⟨fun i => (this i).choose.1, fun i => (this i).choose.2.1, fun i => (this i).choose.2.2.1, fun i => (this i).choose.2.2.2.1, fun i => (this i).choose.2.2.2.2, fun i hi => (this i).choose_spec hi⟩
    have hg : ∀ i, i < len → wr_ ((List.range len).map fun i => (p i, s i)) i = (p i, s i) := fun i hi => by simp [wr_, List.getD_eq_getElem?_getD, hi]
    refine ⟨_, len, cap, (List.range len).map fun i => (p i, s i), rfl, ⟨by simp, hl, hm, fun h0 => ?_⟩, fun hw i hi => ?_⟩
    · obtain ⟨b, off, spot⟩ := x
      have h00 := (hr 0 (by simp only [if_true] at hmm; omega)).1
      have hspot : spot = none := by simpa [Addr.add] using World.cell?_spot h00
      subst hspot
      have hadd : ∀ i, (⟨b, off, none⟩ : Addr).add i = ⟨b, off + i, none⟩ := fun i => by unfold Addr.add; split <;> simp_all
      refine ⟨b, off, rfl, ?_, fun i hi => ?_⟩
      · rw [hadd] at h00
        exact World.block_lt_of_cell? W _ h00
      · obtain ⟨h1, h2, _⟩ := hr i (by simp only [if_true] at hmm; omega)
        obtain ⟨e1, e2, _, e3, e4⟩ := hs i hi
        rw [hadd, e3] at h1
        rw [hadd, e1, ← Nat.add_assoc] at h2
        rw [hg i hi]
        refine ⟨e4, h1, A i, C i, ?_, ?_⟩
        · show _ = some (Value.slice (A i) (s i).length (C i))
          rw [e2.1]
          exact h2
        · show Bsl _ _ _ (s i).length _ _
          rw [e2.1]
          exact e2
    · have hi' : i < len := by simpa using hi
      rw [hg i hi']
      refine (hs i hi').2.2.1 fun n hn => hw n ?_
      simp only [DataW.weights, Try.underlying23]
      refine List.mem_cons_of_mem _ (List.mem_append_left _ (weights_of (d := .agg [D0 i, D1 i]) ?_ (List.mem_map.2 ⟨i, List.mem_range.2 hi', rfl⟩)))
      simp only [DataW.weights, Try.underlying55]
      simp only [DataW.weightsEach, List.map_cons, List.map_nil]
      exact List.mem_append_right _ (List.mem_append_left _ hn)
/-- A disk that came in by value. -/
theorem open_disk {H : Type} {enc : TypeId × Value → H} {W : World} {r : Go.Reach} {b0 : Nat} {v : Value} {d : DataW H} {p : List MemPlace} (hv : Value.okWide Try.prog W r b0 25 v) (h : DataW.Trod enc Try.prog W 0 (fun _ => true) true 25 v d p)
    (hw : ∀ n ∈ d.weights Try.prog 25, n ≤ reachBytes) : ∃ x D, v = dval x D ∧ Dsk W W.heap.size x D ∧ Near D := by
  obtain ⟨v0, v1, y0, y1, m, rfl, rfl, rfl, h0, h1⟩ := open_agg2 Try.underlying25 (by kernel_rfl) cellsDisk hv h
  obtain ⟨ba, bn, bc, bl, rfl, hb, hb2⟩ := open_blocks h0
  obtain ⟨wa, wn, wc, ws, rfl, hs, hs2⟩ := open_writes h1
  have hwt : ∀ n, n ∈ y0.1.weights Try.prog 22 ∨ n ∈ y1.1.weights Try.prog 23 → n ≤ reachBytes := fun n hn => hw n (by
    simp only [DataW.weights, Try.underlying25]
    simp only [DataW.weightsEach, List.map_cons, List.map_nil]
    rcases hn with hn | hn
    · exact List.mem_append_left _ hn
    · exact List.mem_append_right _ (List.mem_append_left _ hn))
  obtain rfl := hb.1
  obtain rfl := hs.1
  exact ⟨⟨ba, bc, wa, wc⟩, (bl, ws), rfl, ⟨hb, hs⟩, hb2 fun n hn => hwt n (.inl hn), hs2 fun n hn => hwt n (.inr hn)⟩
/-- A slice of marks that came in. -/
theorem open_marks {H : Type} {enc : TypeId × Value → H} {W : World} {a : Option Addr} {len cap : Nat} {d : DataW H} {p : List MemPlace} (h : DataW.Trod enc Try.prog W 0 (fun _ => true) true 49 (.slice a len cap) d p) : ∃ ks, Mks W W.heap.size a len cap ks := by
  obtain ⟨fuel, hf⟩ := h
  rcases Go.Deep.open_slice1 Try.underlying49 (by kernel_rfl) hf with ⟨hcs, _⟩ | ⟨x, l, c, m, n, V, D, Pl, hcs, _, hl, hm, hmm, _, hr⟩
  · simp [Value.cells] at hcs
    obtain ⟨rfl, rfl, rfl⟩ := hcs
    exact ⟨[], rfl, Nat.le_refl _, Nat.zero_le _, fun h => absurd h (Nat.lt_irrefl _)⟩
  · simp [Value.cells] at hcs
    obtain ⟨rfl, rfl, rfl⟩ := hcs
    obtain ⟨B, hB⟩ : ∃ B : Nat → Bool, ∀ i, i < len → V i = .bool (B i) := by
      have : ∀ i, ∃ b : Bool, i < len → V i = .bool b := fun i => by
        by_cases hi : i < len
        · obtain ⟨b, h1, _⟩ := DataW.trod_bool Try.underlying4 (hr i (by simp only [if_true] at hmm; omega)).2
          exact ⟨b, fun _ => by simpa using h1⟩
        · exact ⟨false, fun h => absurd h hi⟩
      exact ⟨fun i => (this i).choose, fun i hi => (this i).choose_spec hi⟩
    refine ⟨(List.range len).map B, by simp, hl, hm, fun h0 => ?_⟩
    obtain ⟨b, off, spot⟩ := x
    have h00 := (hr 0 (by simp only [if_true] at hmm; omega)).1
    have hspot : spot = none := by simpa [Addr.add] using World.cell?_spot h00
    subst hspot
    have hadd : ∀ i, (⟨b, off, none⟩ : Addr).add i = ⟨b, off + i, none⟩ := fun i => by unfold Addr.add; split <;> simp_all
    refine ⟨b, off, rfl, ?_, fun i hi => ?_⟩
    · rw [hadd] at h00
      exact World.block_lt_of_cell? W _ h00
    · have h1 := (hr i (by simp only [if_true] at hmm; omega)).1
      rw [hadd, hB i hi] at h1
      rw [h1]
      simp [List.getD_eq_getElem?_getD, hi]
/-- A byte that came in. -/
theorem u8_of {b : Int} (h : (Lit.int .u8 b).wf = true) : ∃ v : UInt8, b = (v.toNat : Int) := by
  simp [Lit.wf, IntKind.min, IntKind.max, IntKind.signed, IntKind.bits] at h
  refine ⟨UInt8.ofNat b.toNat, ?_⟩
  rw [UInt8.toNat_ofNat']
  omega
end Go.Proofs.Ytgpojnhhcobcbaa
