/-
  Four integers that fit uint32 are four words.
-/
import Derived.Test.YtoednighmdoooaaEq
import Derived.Test.YtoednighmdoooaaIn
namespace Go.Proofs.Ytoednighmdoooaa
open Go.RowKit Go.Shelf
set_option maxRecDepth 100000

theorem u32_of_wf {z : Int} (h : (Lit.int .u32 z).wf = true) : 0 ≤ z ∧ z ≤ 4294967295 := by simpa [Lit.wf, IntKind.min, IntKind.max, IntKind.signed, IntKind.bits] using h
theorem u8_of_wf {z : Int} (h : (Lit.int .u8 z).wf = true) : 0 ≤ z ∧ z ≤ 255 := by simpa [Lit.wf, IntKind.min, IntKind.max, IntKind.signed, IntKind.bits] using h
theorem u16_of_wf {z : Int} (h : (Lit.int .u16 z).wf = true) : 0 ≤ z ∧ z ≤ 65535 := by simpa [Lit.wf, IntKind.min, IntKind.max, IntKind.signed, IntKind.bits] using h
theorem wd_of {z : Int} (h : (Lit.int .u32 z).wf = true) : ∃ x : BitVec 32, (x.toNat : Int) = z := by
  obtain ⟨h1, h2⟩ := u32_of_wf h
  obtain ⟨n, rfl⟩ := Int.eq_ofNat_of_zero_le h1
  exact ⟨BitVec.ofNat 32 n, by rw [BitVec.toNat_ofNat]; congr 1; exact Nat.mod_eq_of_lt (by omega)⟩
theorem w4_of (z : List Int) (l : z.length = 4) (w : ∀ x ∈ z, (Lit.int .u32 x).wf = true) : ∃ x : W4, (Value.agg (z.map (Value.int .u32)).toArray) = ag x := by
  match z, l, w with
  | [a, b, c, d], _, w =>
    obtain ⟨x0, h0⟩ := wd_of (w a (by simp))
    obtain ⟨x1, h1⟩ := wd_of (w b (by simp))
    obtain ⟨x2, h2⟩ := wd_of (w c (by simp))
    obtain ⟨x3, h3⟩ := wd_of (w d (by simp))
    exact ⟨⟨x0, x1, x2, x3⟩, by simp [h0, h1, h2, h3]⟩
end Go.Proofs.Ytoednighmdoooaa
