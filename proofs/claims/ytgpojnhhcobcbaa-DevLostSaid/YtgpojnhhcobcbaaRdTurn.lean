/-
  Words for the document's own Tamper of layer 9: a byte of a disk of the call's own is turned.
-/
import Derived.Test.YtgpojnhhcobcbaaRdAsk
import Derived.Test.YtgpojnhhcobcbaaDevTamper
namespace Go.Proofs.Ytgpojnhhcobcbaa
open Go.RowKit Go.Shelf
set_option maxRecDepth 100000

theorem own_set {w : World} {B g n cap q : Nat} {s : List UInt8} (h : w.ownsRow B 5 1 (.slice (some ⟨g, 0, none⟩) n cap) n (vals s)) (y : UInt8) : (w.setCell ⟨g, q, none⟩ (.int .u8 (y.toNat : Int))).ownsRow B 5 1 (.slice (some ⟨g, 0, none⟩) n cap) n (vals (s.set q y)) := by
  obtain ⟨hl, ⟨e, _⟩ | ⟨g', cap', cur, e, h2, h3, h4, h5, h6, h7⟩⟩ := h
  · cases e
  · cases e
    have hb : Blk w g 5 cur := h3
    refine ⟨by rw [← hl]; simp [vals], .inr ⟨g, cap, _, rfl, h2, hb.set_ q _, h4, h5, by rw [Array.size_setIfInBounds]; exact h6, ?_⟩⟩
    rw [Array.toList_setIfInBounds, List.take_set, h7]
    simp [vals, List.map_set]
theorem getD_in (s : List UInt8) (q : Nat) (h : q < s.length) : s.getD q 0 = s[q] := by
  rw [List.getD_eq_getElem?_getD, List.getElem?_eq_getElem h]
  rfl
/-- The turned byte of a disk of the call's own. -/
theorem TwI.turned {base hb hw k p q : Nat} {D : DkL} {w : World} (h : TwI base hb hw D k w) (hk : D.1.length ≤ k) (hp : p < D.1.length) (hq : q < (D.1.getD p []).length) (b : UInt8) :
    ∃ g c, w.cell? ⟨hb, p, none⟩ = some (.slice (some ⟨g, 0, none⟩) (D.1.getD p []).length c) ∧ base ≤ g ∧ w.cell? ⟨g, q, none⟩ = some (.int .u8 (((D.1.getD p []).getD q 0).toNat : Int)) ∧ w.frozen? ⟨g, q, none⟩ = false ∧
      (∀ f t cs, Blk w f t cs → t ≠ 5 → g ≠ f) ∧ TwI base hb hw (turnedD D p q b) k (w.setCell ⟨g, q, none⟩ (.int .u8 (((D.1.getD p []).getD q 0 ^^^ b).toNat : Int))) := by
  obtain ⟨vs, cb, cw, h1, h2, h3, h4, h5, h6, h7, h8⟩ := h
  have ho := h7 p (by omega)
  have hpp : (pieces D).getD p [] = D.1.getD p [] := pieces_left hp
  rw [hpp] at ho
  obtain ⟨A, c, e, hbs⟩ := own_val ho
  obtain ⟨b0, off, e2, hlt, _, hce⟩ := (hbs 0).2.2.2.2 (by omega)
  have hA : A = some ⟨b0, 0, none⟩ := by
    rw [e, e2] at ho
    obtain ⟨_, ⟨e, _⟩ | ⟨g', _, _, e, _⟩⟩ := ho
    · cases e
    · cases e
      exact e2
  have hoff : off = 0 := by rw [hA] at e2; cases e2; rfl
  subst hoff
  rw [hA] at e
  rw [e] at ho
  obtain ⟨cs, hg⟩ := own_blk ho
  have hne : ∀ f t cs, Blk w f t cs → t ≠ 5 → b0 ≠ f := fun f t cs hf ht => hg.ne hf (Ne.symm ht)
  have hcq := hce q hq
  have hD2 : (turnedD D p q b).2 = D.2 := rfl
  have hD1 : (turnedD D p q b).1.length = D.1.length := List.length_set ..
  have gs : w.grownBy (w.setCell ⟨b0, q, none⟩ (.int .u8 (((D.1.getD p []).getD q 0 ^^^ b).toNat : Int))) (some b0) := only_setCell (World.grownBy.refl w _) (.inl rfl) _
  refine ⟨b0, c, ?_, (own_lt ho).1, ?_, hg.frozen q, hne, vs, cb, cw, h1.far (p := ⟨b0, q, none⟩) (Ne.symm (hne _ _ _ h1 (by decide))) _, by rw [hD1]; exact h2, h3.far (p := ⟨b0, q, none⟩) (Ne.symm (hne _ _ _ h3 (by decide))) _, by rw [hD2]; exact h4, fun i hi => ?_, fun j hj => ?_, fun i hi => ?_, h8⟩
  · rw [h1.cell, h5 p hp, done_yes (by omega), e]
  · rw [Nat.zero_add] at hcq
    rw [hcq, getD_in _ _ hq]
  · rw [hD1] at hi
    exact h5 i hi
  · rw [hD1]
    exact h6 j hj
  · rw [turned_pieces hp, hpp]
    by_cases hip : i = p
    · subst hip
      have : ((pieces D).set i ((D.1.getD i []).set q ((D.1.getD i []).getD q 0 ^^^ b))).getD i [] = (D.1.getD i []).set q ((D.1.getD i []).getD q 0 ^^^ b) := by
        rw [List.getD_eq_getElem?_getD, List.getElem?_set_self (by rw [pieces_length]; omega)]
        rfl
      rw [this, List.length_set, e]
      exact own_set ho _
    · have : ((pieces D).set p ((D.1.getD p []).set q ((D.1.getD p []).getD q 0 ^^^ b))).getD i [] = (pieces D).getD i [] := by
        rw [List.getD_eq_getElem?_getD, List.getElem?_set_ne (Ne.symm hip), ← List.getD_eq_getElem?_getD]
      rw [this]
      refine own_other (h7 i hi) gs fun f hf e3 => ?_
      have hpb : (vs p).ownBlock = some b0 := by rw [e]; rfl
      rw [← e3] at hpb
      rcases Nat.lt_or_gt_of_ne hip with h9 | h9
      · exact h8 i p h9 (by omega) f hf hpb
      · exact h8 p i h9 hi f hpb hf
end Go.Proofs.Ytgpojnhhcobcbaa
