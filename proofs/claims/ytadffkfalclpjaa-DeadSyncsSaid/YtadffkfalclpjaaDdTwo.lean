/-
  Two rows of pointers of the call's own that share nothing; one grows.
-/
import Derived.Test.YtadffkfalclpjaaPtHi
import Derived.Test.YtadffkfalclpjaaDd
import Derived.OwnWalk
namespace Go.Proofs.Ytadffkfalclpjaa
open Go.RowKit Go.Shelf
set_option maxRecDepth 100000

/-- Two rows share no block. -/
def Dis (v u : Value) : Prop := ∀ k, v.ownBlock = some k → u.ownBlock ≠ some k
theorem Dis.symm {v u : Value} (h : Dis v u) : Dis u v := fun k h1 h2 => h k h2 h1
theorem dis_nil (u : Value) : Dis (.slice none 0 0) u := fun k h => by simp [Value.ownBlock] at h
theorem two_app {W W' : World} {B gg : Nat} {v u : Value} {m : List Pt} (hu : PRow W B u m) (hd : Dis v u) (hg : W.grownBy W' v.ownBlock) (hl : v.ownBlock = some gg ∨ gg = W.heap.size) (n cap : Nat) : PRow W' B u m ∧ Dis (.slice (some ⟨gg, 0, none⟩) n cap) u := by
  refine ⟨⟨hu.1.kept hg ?_, hu.2⟩, fun k hk e => ?_⟩
  · cases hv : u.ownBlock with
    | none => exact .inl rfl
    | some k => exact .inr fun e => hd k e.symm hv
  · have : gg = k := by simpa [Value.ownBlock] using hk
    subst this
    rcases hl with h | h
    · exact hd _ h e
    · have := (hu.1.lt gg e).2
      omega
theorem filt_take {L : List Pt} {j : Nat} (f : Pt → Bool) (h : j < L.length) : (L.take (j + 1)).filter f = (L.take j).filter f ++ if f (L.getD j p0) = true then [L.getD j p0] else [] := by
  rw [List.take_succ_eq_append_getElem h, List.filter_append, ddGetD h]
  congr 1
  by_cases hf : f L[j] = true
  · rw [if_pos hf]; simp [hf]
  · rw [if_neg hf]; simp [hf]
theorem oldD_take {L : List Pt} {j a : Nat} (h : j < L.length) : oldD a (L.take (j + 1)) = oldD a (L.take j) ++ if (L.getD j p0).2.1 ≤ a then [L.getD j p0] else [] := by
  unfold oldD
  rw [filt_take _ h]
  simp
theorem youngD_take {L : List Pt} {j a : Nat} (h : j < L.length) : youngD a (L.take (j + 1)) = youngD a (L.take j) ++ if a < (L.getD j p0).2.1 then [L.getD j p0] else [] := by
  unfold youngD
  rw [filt_take _ h]
  simp
/-- Two rows and an error's number. -/
def OutSp (o : List Pt × List Pt × Nat) (w : World) (e : Ending) (w' : World) : Prop := ∃ v u, e = .returned (.tuple #[v, u, .int .i64 o.2.2]) ∧ PRow w' w.heap.size v o.1 ∧ PRow w' w.heap.size u o.2.1 ∧ Dis v u ∧ Below w.heap.size w w'
theorem outSp_no (c : Nat) {w w' : World} (hb : Below w.heap.size w w') : OutSp ([], [], c) w (.returned (.tuple #[.slice none 0 0, .slice none 0 0, .int .i64 c])) w' := ⟨_, _, rfl, prow_nil _ _, prow_nil _ _, dis_nil _, hb⟩
end Go.Proofs.Ytadffkfalclpjaa
