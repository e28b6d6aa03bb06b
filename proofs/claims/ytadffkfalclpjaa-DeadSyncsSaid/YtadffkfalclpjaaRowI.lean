/-
  A row of the call's own that holds a text, and is written byte by byte.
-/
import Derived.Test.YtadffkfalclpjaaMem
namespace Go.Proofs.Ytadffkfalclpjaa
open Go.RowKit Go.Shelf
set_option maxRecDepth 100000

/-- A row of the call's own that holds a text. -/
def RowI (W : World) (g len cap : Nat) (t : List UInt8) : Prop := ∃ cur : Array Value, Blk W g 5 cur ∧ cur.size = cap ∧ t.length = len ∧ len ≤ cap ∧ cur.toList.take len = vals t
theorem RowI.get {W : World} {g len cap : Nat} {t : List UInt8} (h : RowI W g len cap t) {j : Nat} (hj : j < len) : ∃ u, W.cell? ⟨g, j, none⟩ = some u := by
  obtain ⟨cur, hb, hs, _, hl, _⟩ := h
  rw [hb.cell j]
  exact ⟨_, Array.getElem?_eq_getElem (by omega)⟩
theorem RowI.holds {W : World} {g len cap : Nat} {t : List UInt8} (h : RowI W g len cap t) : Holds W g t := by
  obtain ⟨cur, hb, hs, ht, hl, hc⟩ := h
  intro i hi
  rw [hb.cell i]
  have : (vals t)[i]? = some (.int .u8 ((t[i]).toNat : Int)) := by simp [vals, hi]
  rw [← hc, List.getElem?_take_of_lt (by omega)] at this
  rw [← this, Array.getElem?_toList]
theorem RowI.set_ {W : World} {g len cap : Nat} {t : List UInt8} (h : RowI W g len cap t) {j : Nat} (_hj : j < len) (y : UInt8) : RowI (W.setCell ⟨g, j, none⟩ (.int .u8 (y.toNat : Int))) g len cap (t.set j y) := by
  obtain ⟨cur, hb, hs, ht, hl, hc⟩ := h
  refine ⟨_, hb.set_ j _, by simpa using hs, by rw [List.length_set]; exact ht, hl, ?_⟩
  rw [Array.toList_setIfInBounds, List.take_set, hc, vals, vals, List.map_set]
theorem RowI.below {W W1 : World} {g len cap B : Nat} {t : List UInt8} (h : RowI W g len cap t) (hb : Below B W W1) (hg : g < B) : RowI W1 g len cap t := by
  obtain ⟨cur, h1, h2⟩ := h
  exact ⟨cur, h1.below hb hg, h2⟩
theorem rowI_of_own {w : World} {base n : Nat} {v : Value} {s : List UInt8} (h : w.ownsRow base 5 1 v n (vals s)) (hn : 0 < n) :
    ∃ g cap, v = .slice (some ⟨g, 0, none⟩) n cap ∧ base ≤ g ∧ g < w.heap.size ∧ cap ≤ maxLen ∧ RowI w g n cap s := by
  have hl : s.length = n := by have := h.1; simpa [vals] using this
  obtain ⟨h1, h2 | ⟨g, cap, cur, rfl, hb, hh, hnc, hcm, hsz, ht⟩⟩ := h
  · omega
  · exact ⟨g, cap, rfl, hb, (Array.getElem?_eq_some_iff.1 hh).1, hcm, cur, hh, by omega, hl, hnc, by simpa using ht⟩
end Go.Proofs.Ytadffkfalclpjaa
