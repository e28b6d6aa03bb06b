/-
  sign.Sign of a signer with leaves left: the next signer and the signature, where they lie.
-/
import Derived.Test.YtoednighmdoooaaSignTop
namespace Go.Proofs.Ytoednighmdoooaa
open Go.RowKit Go.Shelf
set_option maxRecDepth 100000

theorem sSign_next (a : Option Addr) (cap : Nat) (sd : List UInt8) (n : Nat) (hn : n < 8) (b : Option Addr) (lenb capb : Nat) (s : List UInt8) (w : World) (hA : Bsl w w.heap.size a 16 cap sd) (hB : Bsl w w.heap.size b lenb capb s) (hlen : lenb ≤ 4294967295) :
    Calls Try.prog 8 #[.agg #[.slice a 16 cap, .int .i64 n], .slice b lenb capb] w fun en w' => ∃ av cv gs dv, en = .returned (.tuple #[.agg #[.slice (some ⟨av, 0, none⟩) 16 cv, .int .i64 ((n : Int) + 1)], .slice (some ⟨gs, 0, none⟩) 209 dv, .int .i64 0]) ∧
      w.heap.size ≤ av ∧ w.heap.size ≤ gs ∧ Bsl w' w'.heap.size (some ⟨av, 0, none⟩) 16 cv sd ∧ Bsl w' w'.heap.size (some ⟨gs, 0, none⟩) 209 dv (sigL sd n (fourW s).a.toNat) ∧ Below w.heap.size w w' := by
  have e : ((n + 1 : Nat) : Int) = (n : Int) + 1 := by omega
  refine (sSign_ok a cap sd n hn b lenb capb s w hA hB hlen).mono ?_
  rintro en w' ⟨av, cv, bv, dv, rfl, h1, h2, h3⟩
  rw [e]
  obtain ⟨g1, c1, ev1, hb1, hgl1, hgc1, hgm1, hgs1, hgh1⟩ := bsl_of_own h1 (by omega)
  obtain ⟨g2, c2, ev2, hb2, hgl2, hgc2, hgm2, hgs2, hgh2⟩ := bsl_of_own h2 (by omega)
  cases ev1
  cases ev2
  exact ⟨g1, cv, g2, dv, rfl, hb1, hb2, bsl_of_holds hgs1 hgc1 hgm1 hgl1 hgh1, bsl_of_holds hgs2 hgc2 hgm2 hgl2 hgh2, h3⟩
end Go.Proofs.Ytoednighmdoooaa
