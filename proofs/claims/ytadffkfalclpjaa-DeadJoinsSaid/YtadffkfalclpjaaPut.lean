/-
  code.Put, of a number and a size that may be, returns a new slice of the number's bytes, the lowest first, and OK; nothing that was there is written.
-/
import Derived.Test.YtadffkfalclpjaaIter
import Derived.Test.YtadffkfalclpjaaRound
namespace Go.Proofs.Ytadffkfalclpjaa
open Go.RowKit Go.Shelf
set_option maxRecDepth 100000
attribute [local go_sem] Oper.semAt_some

/-- The byte at place i of n. -/
def byteAt (n i : Nat) : UInt8 := UInt8.ofNat (n / 256 ^ i % 256)

/-- What the loop of Put keeps: the box of n, the box of the slice, and each cell: the byte where it has come, else nought. -/
def PutI (g n k : Nat) (w : World) (pre : List (Fin k × UInt8)) (W : World) : Prop :=
  (W.cell? ⟨g, 0, none⟩ = some (.int .i64 n) ∧ W.cell? ⟨g + 2, 0, none⟩ = some (.slice (some ⟨g + 1, 0, none⟩) k k) ∧
    ∀ j, j < k → W.cell? ⟨g + 1, j, none⟩ = some (.int .u8 ((if j ∈ pre.map (·.1.val) then byteAt n j else 0 : UInt8).toNat : Int)) ∧ W.frozen? ⟨g + 1, j, none⟩ = false) ∧ Below g w W

theorem byteAt_toNat (n i : Nat) : (byteAt n i).toNat = n / 256 ^ i % 256 := by simp [byteAt]
theorem byteAt_0 (n : Nat) : (((byteAt n 0).toNat : Nat) : Int) = (n : Int) % 256 := by rw [byteAt_toNat]; simp
theorem byteAt_1 (n : Nat) : (((byteAt n 1).toNat : Nat) : Int) = (n : Int) / 256 % 256 := by rw [byteAt_toNat]; simp
theorem byteAt_2 (n : Nat) : (((byteAt n 2).toNat : Nat) : Int) = (n : Int) / 65536 % 256 := by rw [byteAt_toNat]; simp
theorem byteAt_3 (n : Nat) : (((byteAt n 3).toNat : Nat) : Int) = (n : Int) / 16777216 % 256 := by rw [byteAt_toNat]; simp

theorem putI_all {k : Nat} {V : Nat → UInt8 → Prop} {ys : List (Fin k × UInt8)} (hC : Came k V ys) (hl : ys.length = k) (j : Nat) (hj : j < k) : j ∈ ys.map (·.1.val) := by
  have hi : k - 1 - j < ys.length := by omega
  have := (hC.2 (k - 1 - j) hi).1
  exact List.mem_map.2 ⟨ys[k - 1 - j], List.getElem_mem hi, by omega⟩

theorem putI_step {g n k i B : Nat} {w W : World} {pre : List (Fin k × UInt8)} {v : UInt8} {x : Int} (hi : i < k) (hI : PutI g n k w pre W) (hx : x = (((byteAt n i).toNat : Nat) : Int)) :
    KeepsFrom B W (W.setCell ⟨g + 1, i, none⟩ (.int .u8 x)).drew ∧ (Reach (g + 1 + 1 + 1) (g + 1) 0 k k (fun _ _ => True) W → Reach (g + 1 + 1 + 1) (g + 1) 0 k k (fun _ _ => True) (W.setCell ⟨g + 1, i, none⟩ (.int .u8 x)).drew) ∧
      PutI g n k w (pre ++ [(⟨i, hi⟩, v)]) (W.setCell ⟨g + 1, i, none⟩ (.int .u8 x)).drew := by
  subst hx
  obtain ⟨⟨h0, h2, h1⟩, hB⟩ := hI
  refine ⟨((KeepsOthers.setCell _ _ _).trans (KeepsOthers.drew _)).from _, fun hR => ⟨?_, fun j hj => ?_⟩, ⟨⟨?_, ?_, fun j hj => ⟨?_, ?_⟩⟩, ?_⟩⟩
  · exact (World.cell?_setCell_other W _ _ _ (by simp)).trans hR.1
  · rw [Nat.zero_add]
    by_cases e : j = i
    · subst e
      exact ⟨_, World.cell?_setCell_same' W _ _ (by rw [(h1 j hj).1]; rfl), trivial⟩
    · obtain ⟨v', hv', _⟩ := hR.2 j hj
      rw [Nat.zero_add] at hv'
      exact ⟨v', (World.cell?_setCell_other W _ _ _ (by simp; first | done | exact fun h => e h.symm)).trans hv', trivial⟩
  · exact (World.cell?_setCell_other W _ _ _ (by simp)).trans h0
  · exact (World.cell?_setCell_other W _ _ _ (by simp)).trans h2
  · by_cases e : j = i
    · subst e
      rw [if_pos (by simp)]
      exact World.cell?_setCell_same' W _ _ (by rw [(h1 j hj).1]; rfl)
    · have : (j ∈ (pre ++ [((⟨i, hi⟩ : Fin k), v)]).map (·.1.val)) ↔ j ∈ pre.map (·.1.val) := by simp [e]
      simp only [this]
      exact (World.cell?_setCell_other W _ _ _ (by simp; first | done | exact fun h => e h.symm)).trans (h1 j hj).1
  · exact (World.frozen?_setCell _ _ _ _).trans (h1 j hj).2
  · exact (hB.setCell (p := ⟨g + 1, i, none⟩) (by simp) _).drew

end Go.Proofs.Ytadffkfalclpjaa
