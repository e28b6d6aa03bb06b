/-
  What follows of blocks of objects: each part has its own bytes; unlike objects have unlike blocks.
-/
import Derived.Test.YtennhempdnpobaaDoorOb
import Derived.Test.YtennhempdnpobaaDoorPtTop
namespace Go.Proofs.YtennhempdnpobaaDoor
open Go.RowKit Go.Shelf
set_option maxRecDepth 100000

theorem block_inj {O M : ObL} (hO : MayOb O) (hM : MayOb M) (wO : ∀ p ∈ O.2.2.2, WfP p) (wM : ∀ p ∈ M.2.2.2, WfP p) : blockOb O = blockOb M ↔ O = M :=
  ⟨fun h => by rw [← dec_block hO wO, ← dec_block hM wM, h], fun h => by rw [h]⟩
theorem u8_inj {m n : Nat} (hm : m < 256) (hn : n < 256) : UInt8.ofNat m = UInt8.ofNat n ↔ m = n :=
  ⟨fun h => by rw [← u8_of m hm, ← u8_of n hn, h], fun h => by rw [h]⟩
theorem block_at0 (O : ObL) : (blockOb O).getD 0 0 = UInt8.ofNat O.1 := rfl
theorem block_at1 (O : ObL) : (blockOb O).getD 1 0 = UInt8.ofNat O.2.1.toNat := rfl
theorem block_kind {O M : ObL} (hO : MayOb O) (hM : MayOb M) : (blockOb O).getD 0 0 = (blockOb M).getD 0 0 ↔ O.1 = M.1 := by
  rw [block_at0, block_at0]
  exact u8_inj (by have := hO.1.1; omega) (by have := hM.1.1; omega)
theorem block_links {O M : ObL} (hO : MayOb O) (hM : MayOb M) : (blockOb O).getD 1 0 = (blockOb M).getD 1 0 ↔ O.2.1 = M.2.1 := by
  have h1 := hO.1.2.1
  have h2 := hM.1.2.1
  rw [block_at1, block_at1, u8_inj (by omega) (by omega)]
  omega
theorem block_two (O : ObL) : ((blockOb O).drop 2).take 2 = [UInt8.ofNat (O.2.2.1.toNat % 256), UInt8.ofNat (O.2.2.1.toNat / 256)] := rfl
theorem block_size {O M : ObL} (hO : MayOb O) (hM : MayOb M) : ((blockOb O).drop 2).take 2 = ((blockOb M).drop 2).take 2 ↔ O.2.2.1 = M.2.2.1 := by
  have h1 := hO.1.2.2.1
  have h2 := hM.1.2.2.1
  rw [block_two, block_two]
  simp only [List.cons.injEq, and_true]
  rw [u8_inj (by omega) (by omega), u8_inj (by omega) (by omega)]
  omega
theorem block_noughts (O : ObL) : ((blockOb O).drop 4).take 12 = List.replicate 12 0 := by
  unfold blockOb
  rw [List.append_assoc, List.drop_append, List.drop_of_length_le (by simp [headB])]
  simp [headB]
theorem block_win (O : ObL) {i : Nat} (hi : i < 15) : ((blockOb O).drop (16 + 16 * i)).take 16 = bytesP (O.2.2.2.getD i p0) := by
  have hd : (blockOb O).drop (16 + 16 * i) = (dataTo O.2.2.2 15).drop (16 * i) := by
    unfold blockOb
    rw [List.drop_append, List.drop_of_length_le (by simp [headB])]
    simp [headB]
  rw [hd, dataTo_win _ 15 i hi]
theorem data_at {O : ObL} (h : MayOb O) {i : Nat} (hi : i < 15) : O.2.2.2.getD i p0 ∈ O.2.2.2 := by
  have hl : i < O.2.2.2.length := by rw [h.1.2.2.2]; exact hi
  rw [List.getD_eq_getElem?_getD, List.getElem?_eq_getElem hl]
  exact List.getElem_mem hl
theorem bytesP_inj {p q : Pt} (hp : MayP p) (hq : MayP q) (wp : WfP p) (wq : WfP q) : bytesP p = bytesP q ↔ p = q :=
  ⟨fun h => by rw [← getP_bytesP hp wp, ← getP_bytesP hq wq, h], fun h => by rw [h]⟩
theorem bytesP_read {p : Pt} (hp : MayP p) (wp : WfP p) : preadO (bytesP p) = (p, 0) := by
  unfold preadO
  rw [if_pos (bytesP_length p), getP_bytesP hp wp, if_pos hp]
theorem owriteO_cases (O : ObL) : (¬ MayOb O ∧ owriteO O = ([], 8)) ∨ (MayOb O ∧ owriteO O = (blockOb O, 0)) := by
  unfold owriteO
  by_cases h : MayOb O
  · rw [if_pos h]; exact .inr ⟨h, rfl⟩
  · rw [if_neg h]; exact .inl ⟨h, rfl⟩
/-- What was read is written as just this block. -/
theorem write_read {b : List UInt8} {O : ObL} (h : oreadO b = (O, 0)) : MayOb O ∧ (∀ p ∈ O.2.2.2, WfP p) ∧ WfOb O ∧ owriteO O = (b, 0) := by
  rcases oreadO_cases b with ⟨e, he, hne⟩ | ⟨_, hm, hb, he⟩
  · rw [he] at h
    cases h
    exact absurd rfl hne
  · rw [he] at h
    cases h
    refine ⟨hm, ptsOb_wf b 15, decOb_wf b, ?_⟩
    unfold owriteO
    rw [if_pos hm, hb]
end Go.Proofs.YtennhempdnpobaaDoor
