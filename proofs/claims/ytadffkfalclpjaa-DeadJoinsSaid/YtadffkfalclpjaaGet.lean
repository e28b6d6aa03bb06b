/-
  code.Get, of a slice that has the bytes, returns the number whose bytes they are, and OK; else 0 and the error of the chapter; nothing that was there is written.
-/
import Derived.Test.YtadffkfalclpjaaIter
import Derived.Test.YtadffkfalclpjaaRound
import Derived.Lib.SlBytesRow
import Derived.Lib.QuoteBits
namespace Go.Proofs.Ytadffkfalclpjaa
open Go.RowKit Go.Shelf
set_option maxRecDepth 100000
attribute [local go_sem] Oper.semAt_some

/-- The number whose bytes these are, the lowest first. -/
def leN : List UInt8 → Nat
  | [] => 0
  | x :: r => x.toNat + 256 * leN r

/-- What the loop of Get has in its box when these have come. -/
def accN {k : Nat} (pre : List (Fin k × UInt8)) : Nat := pre.foldl (fun a x => a * 256 + x.2.toNat) 0
theorem accN_snoc {k : Nat} (pre : List (Fin k × UInt8)) (x : Fin k × UInt8) : accN (pre ++ [x]) = accN pre * 256 + x.2.toNat := by simp [accN]
theorem accN_eq {k : Nat} (pre : List (Fin k × UInt8)) : accN pre = leN (pre.map (·.2)).reverse := by
  have h : ∀ l : List UInt8, leN l.reverse = l.foldl (fun a x => a * 256 + x.toNat) 0 := by
    intro l
    have : ∀ l : List UInt8, l.foldr (fun x a => a * 256 + x.toNat) 0 = leN l := by
      intro l
      induction l with
      | nil => rfl
      | cons x r ih => simp only [List.foldr_cons, leN, ih]; omega
    rw [← this, List.foldr_reverse]
  rw [h, List.foldl_map]
  rfl
theorem leN_lt : ∀ l, leN l < 256 ^ l.length
  | [] => by simp [leN]
  | x :: r => by
    have h1 := leN_lt r
    have h2 := x.toNat_lt
    simp only [leN, List.length_cons, Nat.pow_succ]; omega
theorem accN_lt {k : Nat} (pre : List (Fin k × UInt8)) : accN pre < 256 ^ pre.length := by
  rw [accN_eq]
  have := leN_lt (pre.map (·.2)).reverse
  simpa using this
theorem accN_all {k i : Nat} {s : List UInt8} {ys : List (Fin k × UInt8)} (hC : Came k (fun j v => s[i + j]? = some v) ys) (hl : ys.length = k) (hk : i + k ≤ s.length) : accN ys = leN ((s.drop i).take k) := by
  rw [accN_eq]
  congr 1
  apply List.ext_getElem
  · simp; omega
  · intro j h1 h2
    have hj : j < k := by simp at h1; omega
    have hm : k - 1 - j < ys.length := by omega
    obtain ⟨e1, e2⟩ := hC.2 (k - 1 - j) hm
    have e3 : (ys[k - 1 - j]).1.val = j := by omega
    rw [e3] at e2
    have hx : i + j < s.length := by omega
    rw [List.getElem?_eq_getElem hx] at e2
    simp only [List.getElem_reverse, List.getElem_map, List.getElem_take, List.getElem_drop, List.length_map]
    have e4 : ys.length - 1 - j = k - 1 - j := by omega
    simp only [e4]
    exact (Option.some.inj e2).symm
theorem or_byte (a b : Nat) (ha : a ≤ 16777215) (hb : b < 256) : bits .or .i64 ((a : Int) * 256) (b : Int) = ((a * 256 + b : Nat) : Int) := by
  have e : (a : Int) * 256 = ((a * 256 : Nat) : Int) := by omega
  rw [e]
  show IntKind.i64.wrap ((BitVec.ofInt 64 ((a * 256 : Nat) : Int) ||| BitVec.ofInt 64 (b : Int)).toNat : Int) = _
  have h := Nat.two_pow_add_eq_or_of_lt (i := 8) (b := b) (by omega) a
  rw [BitVec.toNat_or, ofInt_u64 _ (by omega), ofInt_u64 _ (by omega), show a * 256 = 2 ^ 8 * a by omega, ← h, show 2 ^ 8 * a + b = 256 * a + b by omega]
  exact Lib.wrap_i64_small _ (by omega)
def GetI (g k : Nat) (w : World) (pre : List (Fin k × UInt8)) (W : World) : Prop :=
  (W.cell? ⟨g, 0, none⟩ = some (.int .i64 (accN pre : Nat)) ∧ W.frozen? ⟨g, 0, none⟩ = false) ∧ Below g w W

end Go.Proofs.Ytadffkfalclpjaa
