/-
  Words for objects by value (api.Object): kind, names, size, pointers; their blocks as bytes; what is written is read as it was, and the other way round.
-/
import Derived.Test.YtennhempdnpobaaDoorPt
import Derived.Test.YtennhempdnpobaaDoorPtCode
namespace Go.Proofs.YtennhempdnpobaaDoor
open Go.RowKit Go.Shelf
set_option maxRecDepth 100000

/-- An object: Kind, Links, Size, Data. -/
abbrev ObL := Nat × Int × Int × List Pt
/-- The object as a value. -/
@[reducible] def obV (a : Option Addr) (c : Nat) (O : ObL) : Value := .agg #[.int .u8 (O.1 : Int), .int .i64 O.2.1, .int .i64 O.2.2.1, .slice a O.2.2.2.length c]
/-- Its cells. -/
@[reducible] def obC (a : Option Addr) (c : Nat) (O : ObL) : Array Value := #[.int .u8 (O.1 : Int), .int .i64 O.2.1, .int .i64 O.2.2.1, .slice a O.2.2.2.length c]
/-- Its numbers fit. -/
def WfOb (O : ObL) : Prop := O.1 < 256 ∧ (-9223372036854775808 ≤ O.2.1 ∧ O.2.1 ≤ 9223372036854775807) ∧ (-9223372036854775808 ≤ O.2.2.1 ∧ O.2.2.1 ≤ 9223372036854775807)
/-- None. -/
abbrev ob0 : ObL := (0, 0, 0, [])
/-- All but its pointers may be. -/
def HeadOb (O : ObL) : Prop := (1 ≤ O.1 ∧ O.1 ≤ 7) ∧ (0 ≤ O.2.1 ∧ O.2.1 ≤ 255) ∧ (0 ≤ O.2.2.1 ∧ O.2.2.1 ≤ 3840) ∧ O.2.2.2.length = 15
instance (O : ObL) : Decidable (HeadOb O) := by unfold HeadOb; exact inferInstance
/-- An object may be. -/
def MayOb (O : ObL) : Prop := HeadOb O ∧ ∀ p ∈ O.2.2.2, MayP p
instance (O : ObL) : Decidable (MayOb O) := by unfold MayOb; exact inferInstance
/-- The bytes of the first k pointers. -/
def dataTo (L : List Pt) (k : Nat) : List UInt8 := (List.range k).flatMap fun i => bytesP (L.getD i p0)
theorem dataTo_length (L : List Pt) : ∀ k, (dataTo L k).length = 16 * k
  | 0 => rfl
  | k + 1 => by
    have := dataTo_length L k
    unfold dataTo at this ⊢
    rw [List.range_succ, List.flatMap_append, List.length_append, this]
    simp [bytesP_length]
    omega
theorem dataTo_step (L : List Pt) (k : Nat) : dataTo L (k + 1) = dataTo L k ++ bytesP (L.getD k p0) := by
  unfold dataTo
  rw [List.range_succ, List.flatMap_append]
  simp
theorem dataTo_win (L : List Pt) : ∀ (k i : Nat), i < k → ((dataTo L k).drop (16 * i)).take 16 = bytesP (L.getD i p0)
  | 0, i, h => absurd h (Nat.not_lt_zero _)
  | k + 1, i, h => by
    rw [dataTo_step]
    have hl := dataTo_length L k
    by_cases hk : i = k
    · subst hk
      rw [← hl, List.drop_left, List.take_of_length_le (by rw [bytesP_length]; exact Nat.le_refl _)]
    · have hi : i < k := by omega
      rw [List.drop_append_of_le_length (by omega), List.take_append_of_le_length (by rw [List.length_drop]; omega)]
      exact dataTo_win L k i hi
/-- The first four bytes. -/
def headB (O : ObL) : List UInt8 := [UInt8.ofNat O.1, UInt8.ofNat O.2.1.toNat, UInt8.ofNat (O.2.2.1.toNat % 256), UInt8.ofNat (O.2.2.1.toNat / 256)]
/-- The block of an object. -/
def blockOb (O : ObL) : List UInt8 := headB O ++ List.replicate 12 0 ++ dataTo O.2.2.2 15
theorem blockOb_length (O : ObL) : (blockOb O).length = 256 := by simp [blockOb, headB, dataTo_length]
/-- What Write answers. -/
def owriteO (O : ObL) : List UInt8 × Nat := if MayOb O then (blockOb O, 0) else ([], 8)
/-- The window of a pointer in a block. -/
def winOb (b : List UInt8) (i : Nat) : List UInt8 := (b.drop (16 + 16 * i)).take 16
/-- The pointers of a block. -/
def ptsOb (b : List UInt8) (k : Nat) : List Pt := (List.range k).map fun i => getP (winOb b i)
theorem ptsOb_length (b : List UInt8) (k : Nat) : (ptsOb b k).length = k := by simp [ptsOb]
theorem ptsOb_step (b : List UInt8) (k : Nat) : ptsOb b (k + 1) = ptsOb b k ++ [getP (winOb b k)] := by simp [ptsOb, List.range_succ]
theorem ptsOb_wf (b : List UInt8) (k : Nat) : ∀ p ∈ ptsOb b k, WfP p := by
  intro p hp
  obtain ⟨i, _, rfl⟩ := List.mem_map.1 hp
  exact wf_getP _
/-- The head that a block tells. -/
def headOb (b : List UInt8) : Nat × Int × Int := ((b.getD 0 0).toNat, ((b.getD 1 0).toNat : Int), ((b.getD 2 0).toNat : Int) + 256 * ((b.getD 3 0).toNat : Int))
/-- The object that a block tells. -/
def decOb (b : List UInt8) : ObL := ((headOb b).1, (headOb b).2.1, (headOb b).2.2, ptsOb b 15)
/-- What Read answers. -/
def oreadO (b : List UInt8) : ObL × Nat := if b.length = 256 then (if MayOb (decOb b) ∧ blockOb (decOb b) = b then (decOb b, 0) else (ob0, 8)) else (ob0, 3)
theorem decOb_wf (b : List UInt8) : WfOb (decOb b) := by
  have h0 := (b.getD 0 0).toNat_lt
  have h1 := (b.getD 1 0).toNat_lt
  have h2 := (b.getD 2 0).toNat_lt
  have h3 := (b.getD 3 0).toNat_lt
  unfold WfOb decOb headOb
  refine ⟨h0, ⟨?_, ?_⟩, ?_, ?_⟩ <;> simp only <;> omega
theorem u8_of (n : Nat) (h : n < 256) : (UInt8.ofNat n).toNat = n := by
  rw [UInt8.toNat_ofNat']
  exact Nat.mod_eq_of_lt h
theorem dec_block {O : ObL} (h : MayOb O) (hw : ∀ p ∈ O.2.2.2, WfP p) : decOb (blockOb O) = O := by
  obtain ⟨⟨h1, h2, h3, h4⟩, h5⟩ := h
  obtain ⟨k, l, s, L⟩ := O
  simp only at h1 h2 h3 h4 h5 hw
  have e0 : (blockOb (k, l, s, L)).getD 0 0 = UInt8.ofNat k := rfl
  have e1 : (blockOb (k, l, s, L)).getD 1 0 = UInt8.ofNat l.toNat := rfl
  have e2 : (blockOb (k, l, s, L)).getD 2 0 = UInt8.ofNat (s.toNat % 256) := rfl
  have e3 : (blockOb (k, l, s, L)).getD 3 0 = UInt8.ofNat (s.toNat / 256) := rfl
  have ed : ptsOb (blockOb (k, l, s, L)) 15 = L := by
    apply List.ext_getElem (by rw [ptsOb_length, h4])
    intro i hi1 hi2
    have hi : i < 15 := by rw [ptsOb_length] at hi1; exact hi1
    have ew : winOb (blockOb (k, l, s, L)) i = bytesP L[i] := by
      have hd : (blockOb (k, l, s, L)).drop (16 + 16 * i) = (dataTo L 15).drop (16 * i) := by
        unfold blockOb
        rw [List.drop_append, List.drop_of_length_le (by simp [headB])]
        simp [headB]
      unfold winOb
      rw [hd, dataTo_win L 15 i hi, List.getD_eq_getElem?_getD, List.getElem?_eq_getElem hi2]
      rfl
    have hm := h5 L[i] (List.getElem_mem hi2)
    have hwf := hw L[i] (List.getElem_mem hi2)
    simp only [ptsOb, List.getElem_map, List.getElem_range]
    rw [ew, getP_bytesP hm hwf]
  unfold decOb headOb
  rw [e0, e1, e2, e3, ed, u8_of _ (by omega), u8_of _ (by omega), u8_of _ (by omega), u8_of _ (by omega)]
  simp only [Prod.mk.injEq]
  exact ⟨trivial, by omega, by omega, trivial⟩
theorem read_block {O : ObL} (h : MayOb O) (hw : ∀ p ∈ O.2.2.2, WfP p) : oreadO (blockOb O) = (O, 0) := by
  unfold oreadO
  rw [dec_block h hw, if_pos (blockOb_length O), if_pos ⟨h, rfl⟩]
theorem oreadO_cases (b : List UInt8) : (∃ e, oreadO b = (ob0, e) ∧ e ≠ 0) ∨ (b.length = 256 ∧ MayOb (decOb b) ∧ blockOb (decOb b) = b ∧ oreadO b = (decOb b, 0)) := by
  unfold oreadO
  by_cases h : b.length = 256
  · rw [if_pos h]
    by_cases h2 : MayOb (decOb b) ∧ blockOb (decOb b) = b
    · rw [if_pos h2]
      exact .inr ⟨h, h2.1, h2.2, rfl⟩
    · rw [if_neg h2]
      exact .inl ⟨8, rfl, by decide⟩
  · rw [if_neg h]
    exact .inl ⟨3, rfl, by decide⟩
/-- An object and an error's number. -/
def OutOb (o : ObL × Nat) (w : World) (e : Ending) (w' : World) : Prop := ∃ v, e = .returned (.tuple #[.agg #[.int .u8 (o.1.1 : Int), .int .i64 o.1.2.1, .int .i64 o.1.2.2.1, v], .int .i64 o.2]) ∧ PRow w' w.heap.size v o.1.2.2.2 ∧ Below w.heap.size w w'
end Go.Proofs.YtennhempdnpobaaDoor
