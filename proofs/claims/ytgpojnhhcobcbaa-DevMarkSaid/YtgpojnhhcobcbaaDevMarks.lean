/-
  A copy of marks that is the law's own, in which one mark is set; what one mark more leaves.
-/
import Derived.Test.YtgpojnhhcobcbaaDevLawC
namespace Go.Proofs.Ytgpojnhhcobcbaa
open Go.RowKit Go.Shelf
set_option maxRecDepth 100000

/-- The values of marks. -/
def bvals (ks : List Bool) : List Value := ks.map Value.bool
theorem infoBool : (Try.prog.info? 4).map (fun i => (i.zero, i.size, i.bytes)) = some (some (.bool false), 1, 1) := by kernel_rfl
/-- append([]bool(nil), marks...). -/
theorem wpList_append_marks {w : World} {ops : Array Oper} {rest : List Oper} {o : Oper} {a : Act} {Q : Exit → Act → World → Prop} (hgd : o.guard = none) (s x : Operand)
    (ho : o.op = .call { callee := .builtin .append, args := #[s, x], argTypes := #[49, 49] }) (hs : a.eval s = .slice none 0 0)
    (B : Nat) (A : Option Addr) (m c : Nat) (ks : List Bool) (hx : a.eval x = .slice A m c) (hr : Mks w B A m c ks) (h0 : 0 < m) (hm : m ≤ 1000000)
    (h : ∀ g c' w', w'.ownsRow w.heap.size 4 1 (.slice (some ⟨g, 0, none⟩) m c') m (bvals ks) → Below w.heap.size w w' → wpList Try.prog ops Q rest (a.put o.dst (.slice (some ⟨g, 0, none⟩) m c')) w') : wpList Try.prog ops Q (o :: rest) a w := by
  obtain ⟨i0, hi, hz0, hz1, hz2⟩ := info_parts infoBool
  obtain ⟨h1, h2, h3, h4⟩ := hr
  obtain ⟨b, off, rfl, _, hc⟩ := h4 h0
  refine wpList_plain hgd fun _ hK => wp_append_own w s x 49 ho w.heap.size 4 i0 (.bool false) 1 1 Try.underlying49 hi hz0 hz1 hz2 rfl (by decide) (.slice none 0 0) 0 [] hs (World.ownsRow_nil _ _ _ _) ⟨b, off, none⟩ m c (bvals ks) hx (by simp [bvals, h1]) (fun j u hu => ?_) (fun u hu => ?_) (by unfold maxLen; omega) (by omega) (Nat.le_refl _) ?_
  · rw [bvals, List.getElem?_map] at hu
    obtain ⟨y, hy, rfl⟩ := Option.map_eq_some_iff.1 hu
    have hj : j < m := by rw [← h1]; exact (List.getElem?_eq_some_iff.1 hy).1
    have := hc j hj
    rw [List.getD_eq_getElem?_getD, hy] at this
    have e : (⟨b, off, none⟩ : Addr).add j = ⟨b, off + j, none⟩ := by unfold Addr.add; split <;> simp_all
    rw [e]
    exact this
  · obtain ⟨y, _, rfl⟩ := List.mem_map.1 hu
    rfl
  · intro v' w' h5 h6 _
    rw [Nat.zero_add, List.nil_append] at h5
    have b1 : Below w.heap.size w w' := ⟨h6.os, h6.tape, h6.output, h6.size, fun i hi => h6.block i hi (by simp [Value.ownBlock])⟩
    obtain ⟨hl, ⟨rfl, e⟩ | ⟨g, cap, cur, rfl, hrest⟩⟩ := h5
    · omega
    · exact hK _ _ (h g cap w' ⟨hl, .inr ⟨g, cap, cur, rfl, hrest⟩⟩ b1)
theorem own_set_mark {w : World} {B g n cap q : Nat} {ks : List Bool} (h : w.ownsRow B 4 1 (.slice (some ⟨g, 0, none⟩) n cap) n (bvals ks)) (y : Bool) : (w.setCell ⟨g, q, none⟩ (.bool y)).ownsRow B 4 1 (.slice (some ⟨g, 0, none⟩) n cap) n (bvals (ks.set q y)) := by
  obtain ⟨hl, ⟨e, _⟩ | ⟨g', cap', cur, e, h2, h3, h4, h5, h6, h7⟩⟩ := h
  · cases e
  · cases e
    have hb : Blk w g 4 cur := h3
    refine ⟨by rw [← hl]; simp [bvals], .inr ⟨g, cap, _, rfl, h2, hb.set_ q _, h4, h5, by rw [Array.size_setIfInBounds]; exact h6, ?_⟩⟩
    rw [Array.toList_setIfInBounds, List.take_set, h7]
    simp [bvals, List.map_set]
theorem own_marks {w : World} {B g n cap : Nat} {ks : List Bool} (h : w.ownsRow B 4 1 (.slice (some ⟨g, 0, none⟩) n cap) n (bvals ks)) : Mks w w.heap.size (some ⟨g, 0, none⟩) n cap ks := by
  obtain ⟨e1, e2⟩ := own_room h
  have hl : ks.length = n := by have := h.1; simpa [bvals] using this
  refine ⟨hl, e1, e2, fun _ => ⟨g, 0, rfl, (own_lt h).2, fun i hi => ?_⟩⟩
  rw [Nat.zero_add, own_cell h i hi]
  simp [bvals, List.getD_eq_getElem?_getD, hl, hi]
/-- One mark more turns a block to what its write had, or not at all. -/
theorem mark_more {D : DkL} {ks : List Bool} {r : Nat} (hr : r < ks.length) (p : Nat) :
    leftD D (fun i => ks.getD i false) p = leftD D (fun i => (ks.set r true).getD i false) p ∨ ((wr_ D.2 r).1 = (p : Int) ∧ leftD D (fun i => (ks.set r true).getD i false) p = (wr_ D.2 r).2) := by
  have hs : ∀ i, (ks.set r true).getD i false = if i = r then true else ks.getD i false := fun i => getD_set ks r i true false hr
  cases h : lastTo D.2 (fun i => (ks.set r true).getD i false) (p : Int) D.2.length with
  | none =>
    have hn := lastTo_none h
    left
    have h0 : lastTo D.2 (fun i => ks.getD i false) (p : Int) D.2.length = none := lastTo_no fun j hj hh => hn j hj ⟨by
      have h1 := hh.1
      rw [hs]
      split
      · rfl
      · exact h1, hh.2⟩
    unfold leftD
    rw [h, h0]
  | some j =>
    obtain ⟨h1, h2, h3⟩ := lastTo_lt h
    by_cases hjr : j = r
    · subst hjr
      right
      refine ⟨h3, ?_⟩
      unfold leftD
      rw [h]
    · left
      have h0 : lastTo D.2 (fun i => ks.getD i false) (p : Int) D.2.length = some j := lastTo_behind h1 ⟨by
        have := h2
        simp only [hs, if_neg hjr] at this
        exact this, h3⟩ fun i hi hin hh => lastTo_after h i hi hin ⟨by
        have h4 := hh.1
        rw [hs]
        split
        · rfl
        · exact h4, hh.2⟩
      unfold leftD
      rw [h, h0]
end Go.Proofs.Ytgpojnhhcobcbaa
