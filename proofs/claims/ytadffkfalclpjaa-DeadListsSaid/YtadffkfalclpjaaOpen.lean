/-
  What an array of integers that came in by value is: so many integers, each fitting its kind.
-/
import Derived.ProofKit
import Derived.OpenShut
import Derived.ShutString
import Derived.ChangeOld
import Derived.Below
namespace Go.Proofs.Ytadffkfalclpjaa
open Go.ChangeShapes Go.WideShapes Go.ChangeAt Go.RowKit

theorem mapM_mem {α β : Type} {f : α → Option β} : ∀ (L : List α) (ys : List β), L.mapM f = some ys → ∀ i ∈ L, ∃ y, f i = some y
  | [], _, _, i, hi => by cases hi
  | j :: L, ys, h, i, hi => by
    rw [List.mapM_cons] at h
    simp only [bind, Option.bind_eq_some_iff, pure, Option.some.injEq] at h
    obtain ⟨y, hy, ys', hys, rfl⟩ := h
    rcases List.mem_cons.1 hi with rfl | hi
    · exact ⟨y, hy⟩
    · exact mapM_mem L ys' hys i hi
def intIn : Value → Int
  | .int _ z => z
  | _ => 0
theorem open_ints_arr {H : Type} {enc : TypeId × Value → H} {P : Program} {W : World} {base n : Nat} {sp : Nat → Bool} {held : Bool} {k e : TypeId} {q : IntKind} (hu : P.underlying k = some (.array n e)) (he : P.underlying e = some (.int q)) (h1 : P.cellsOf e = 1) (hk : P.cellsOf k = n)
    {r : Go.Reach} {b0 : Nat} {v : Value} (ho : Value.okWide P W r b0 k v) {d : DataW H} {ps : List MemPlace} (hd : DataW.Trod enc P W base sp held k v d ps) :
    ∃ zs : List Int, v = .agg (zs.map (Value.int q)).toArray ∧ zs.length = n ∧ ∀ z ∈ zs, (Lit.int q z).wf = true := by
  obtain ⟨xs, rfl, hn⟩ : ∃ xs, v = .agg xs ∧ xs.size = n := by
    simp only [Value.okWide, hu] at ho
    obtain ⟨cs, h1, h2, _⟩ := ho
    exact ⟨cs, h1, by rw [h2, hk]⟩
  obtain ⟨fuel, hf⟩ := hd
  cases fuel with
  | zero => simp [DataW.trod] at hf
  | succ m =>
    rw [DataW.trod_step] at hf
    unfold DataW.trodStep at hf
    simp only [hu, Value.cells] at hf
    rw [if_pos (by rw [hk]; simpa using hn)] at hf
    simp only [Option.map_eq_some_iff] at hf
    obtain ⟨ys, hy, _⟩ := hf
    have hc : ∀ i (h : i < xs.size), xs[i] = .int q (intIn xs[i]) ∧ (Lit.int q (intIn xs[i])).wf = true := by
      intro i h
      obtain ⟨y, hy'⟩ := mapM_mem _ _ hy i (by simpa using (by omega : i < n))
      rw [h1, Nat.mul_one, List.take_one, List.head?_drop] at hy'
      rw [show xs.toList[i]? = some xs[i] by simp [h]] at hy'
      obtain ⟨a, ea, _, wa⟩ := DataW.trod_int he hy'
      have ea' : xs[i] = .int q a := by simpa using ea
      rw [ea']
      exact ⟨rfl, wa⟩
    refine ⟨xs.toList.map intIn, ?_, by simpa using hn, ?_⟩
    · congr 1
      apply Array.ext
      · simp
      · intro i h1 h2
        simp only [List.getElem_toArray, List.getElem_map, Array.getElem_toList]
        exact (hc i h1).1
    · intro z hz
      obtain ⟨v, hv, rfl⟩ := List.mem_map.1 hz
      obtain ⟨i, hi, rfl⟩ := List.getElem_of_mem hv
      have := (hc i (by simpa using hi)).2
      simpa using this
end Go.Proofs.Ytadffkfalclpjaa
