/-
  Words for a disk in memory: a slice of slices of bytes, and a slice of writes, that read as plain lists.
-/
import Derived.Test.YtennhempdnpobaaDoorIn
import Derived.Test.YtennhempdnpobaaDoorOwn
import Derived.Test.YtennhempdnpobaaDoorDiskMath
namespace Go.Proofs.YtennhempdnpobaaDoor
open Go.RowKit Go.Shelf
set_option maxRecDepth 100000

/-- A slice of slices of bytes that lies below block B reads as bl. -/
def Bls (w : World) (B : Nat) (a : Option Addr) (len cap : Nat) (bl : List (List UInt8)) : Prop :=
  bl.length = len ∧ len ≤ cap ∧ cap ≤ maxLen ∧
    (0 < len → ∃ b off, a = some ⟨b, off, none⟩ ∧ b < B ∧ ∀ i, i < len → ∃ A c, w.cell? ⟨b, off + i, none⟩ = some (.slice A (bl.getD i []).length c) ∧ Bsl w B A (bl.getD i []).length c (bl.getD i []))
/-- A slice of writes that lies below block B reads as ws. -/
def Wts (w : World) (B : Nat) (a : Option Addr) (len cap : Nat) (ws : WrL) : Prop :=
  ws.length = len ∧ len ≤ cap ∧ cap ≤ maxLen ∧
    (0 < len → ∃ b off, a = some ⟨b, off, none⟩ ∧ b < B ∧ ∀ i, i < len → (Lit.int .i64 (wr_ ws i).1).wf = true ∧ w.cell? ⟨b, off + i * 2, none⟩ = some (.int .i64 (wr_ ws i).1) ∧
      ∃ A c, w.cell? ⟨b, off + i * 2 + 1, none⟩ = some (.slice A (wr_ ws i).2.length c) ∧ Bsl w B A (wr_ ws i).2.length c (wr_ ws i).2)
section
variable {w w' : World} {B B' len cap : Nat} {a : Option Addr} {bl : List (List UInt8)} {ws : WrL}
theorem Bls.below (h : Bls w B a len cap bl) (hb : Below B w w') : Bls w' B a len cap bl := by
  obtain ⟨h1, h2, h3, h4⟩ := h
  refine ⟨h1, h2, h3, fun hl => ?_⟩
  obtain ⟨b, off, e, hlt, hc⟩ := h4 hl
  refine ⟨b, off, e, hlt, fun i hi => ?_⟩
  obtain ⟨A, c, h5, h6⟩ := hc i hi
  exact ⟨A, c, (hb.cell (p := ⟨b, off + i, none⟩) hlt).trans h5, h6.below hb⟩
theorem Bls.more (h : Bls w B a len cap bl) (hB : B ≤ B') : Bls w B' a len cap bl := by
  obtain ⟨h1, h2, h3, h4⟩ := h
  refine ⟨h1, h2, h3, fun hl => ?_⟩
  obtain ⟨b, off, e, hlt, hc⟩ := h4 hl
  refine ⟨b, off, e, by omega, fun i hi => ?_⟩
  obtain ⟨A, c, h5, h6⟩ := hc i hi
  exact ⟨A, c, h5, h6.more hB⟩
theorem Bls.step (h : Bls w w.heap.size a len cap bl) (hb : Below w.heap.size w w') : Bls w' w'.heap.size a len cap bl := (h.below hb).more hb.size
theorem Bls.at_ (h : Bls w B a len cap bl) {i : Nat} (hi : i < len) : ∃ b off A n c s, a = some ⟨b, off, none⟩ ∧ b < B ∧ bl.getD i [] = s ∧ w.cell? ⟨b, off + i, none⟩ = some (.slice A n c) ∧ Bsl w B A n c s := by
  obtain ⟨h1, h2, h3, h4⟩ := h
  obtain ⟨b, off, e, hlt, hc⟩ := h4 (by omega)
  obtain ⟨A, c, h5, h6⟩ := hc i hi
  exact ⟨b, off, A, _, c, _, e, hlt, rfl, h5, h6⟩
theorem Wts.below (h : Wts w B a len cap ws) (hb : Below B w w') : Wts w' B a len cap ws := by
  obtain ⟨h1, h2, h3, h4⟩ := h
  refine ⟨h1, h2, h3, fun hl => ?_⟩
  obtain ⟨b, off, e, hlt, hc⟩ := h4 hl
  refine ⟨b, off, e, hlt, fun i hi => ?_⟩
  obtain ⟨h0, h7, A, c, h5, h6⟩ := hc i hi
  exact ⟨h0, (hb.cell (p := ⟨b, off + i * 2, none⟩) hlt).trans h7, A, c, (hb.cell (p := ⟨b, off + i * 2 + 1, none⟩) hlt).trans h5, h6.below hb⟩
theorem Wts.more (h : Wts w B a len cap ws) (hB : B ≤ B') : Wts w B' a len cap ws := by
  obtain ⟨h1, h2, h3, h4⟩ := h
  refine ⟨h1, h2, h3, fun hl => ?_⟩
  obtain ⟨b, off, e, hlt, hc⟩ := h4 hl
  refine ⟨b, off, e, by omega, fun i hi => ?_⟩
  obtain ⟨h0, h7, A, c, h5, h6⟩ := hc i hi
  exact ⟨h0, h7, A, c, h5, h6.more hB⟩
theorem Wts.step (h : Wts w w.heap.size a len cap ws) (hb : Below w.heap.size w w') : Wts w' w'.heap.size a len cap ws := (h.below hb).more hb.size
theorem Wts.at_ (h : Wts w B a len cap ws) {i : Nat} (hi : i < len) : ∃ b off p A n c s, a = some ⟨b, off, none⟩ ∧ b < B ∧ wr_ ws i = (p, s) ∧ (Lit.int .i64 p).wf = true ∧ w.cell? ⟨b, off + i * 2, none⟩ = some (.int .i64 p) ∧
    w.cell? ⟨b, off + i * 2 + 1, none⟩ = some (.slice A n c) ∧ Bsl w B A n c s := by
  obtain ⟨h1, h2, h3, h4⟩ := h
  obtain ⟨b, off, e, hlt, hc⟩ := h4 (by omega)
  obtain ⟨h0, h7, A, c, h5, h6⟩ := hc i hi
  exact ⟨b, off, _, A, _, c, _, e, hlt, rfl, h0, h7, h5, h6⟩
theorem Bls.len_le (h : Bls w B a len cap bl) : (len : Int) ≤ 9223372036854775807 := by have h1 := h.2.1; have h2 := h.2.2.1; unfold maxLen at h2; omega
theorem Wts.len_le (h : Wts w B a len cap ws) : (len : Int) ≤ 9223372036854775807 := by have h1 := h.2.1; have h2 := h.2.2.1; unfold maxLen at h2; omega
end
theorem bls_nil (w : World) (B : Nat) : Bls w B none 0 0 [] := ⟨rfl, Nat.le_refl _, Nat.zero_le _, fun h => absurd h (Nat.lt_irrefl _)⟩
theorem wts_nil (w : World) (B : Nat) : Wts w B none 0 0 [] := ⟨rfl, Nat.le_refl _, Nat.zero_le _, fun h => absurd h (Nat.lt_irrefl _)⟩
/-- Where the two slices of a disk are. -/
structure DAt where
  ba : Option Addr
  bc : Nat
  wa : Option Addr
  wc : Nat
/-- The value of a disk. -/
def dval (x : DAt) (D : DkL) : Value := .agg #[.slice x.ba D.1.length x.bc, .slice x.wa D.2.length x.wc]
/-- A disk that lies below block B reads as D. -/
def Dsk (w : World) (B : Nat) (x : DAt) (D : DkL) : Prop := Bls w B x.ba D.1.length x.bc D.1 ∧ Wts w B x.wa D.2.length x.wc D.2
theorem Dsk.step {w w' : World} {x : DAt} {D : DkL} (h : Dsk w w.heap.size x D) (hb : Below w.heap.size w w') : Dsk w' w'.heap.size x D := ⟨h.1.step hb, h.2.step hb⟩
end Go.Proofs.YtennhempdnpobaaDoor
