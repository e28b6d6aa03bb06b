/-
  The writes whose mark is true, alone: what they leave is what a crash leaves. Append of a write in a region that draws its order, beside an operation that asks nothing of the world.
-/
import Derived.Test.YtgpojnhhcobcbaaDevLawC
namespace Go.Proofs.Ytgpojnhhcobcbaa
open Go.RowKit Go.Shelf
set_option maxRecDepth 100000

/-- The first i writes' marked ones. -/
def lessW (ws : WrL) (mk : Nat → Bool) : Nat → WrL
  | 0 => []
  | i + 1 => if mk i then lessW ws mk i ++ [wr_ ws i] else lessW ws mk i
theorem less_yes {ws : WrL} {mk : Nat → Bool} {i : Nat} (h : mk i = true) : lessW ws mk (i + 1) = lessW ws mk i ++ [wr_ ws i] := by rw [lessW, if_pos h]
theorem less_no {ws : WrL} {mk : Nat → Bool} {i : Nat} (h : mk i = false) : lessW ws mk (i + 1) = lessW ws mk i := by rw [lessW, h]; rfl
theorem less_len (ws : WrL) (mk : Nat → Bool) : ∀ i, (lessW ws mk i).length ≤ i
  | 0 => Nat.le_refl _
  | i + 1 => by
    have := less_len ws mk i
    cases h : mk i with
    | true => rw [less_yes h, List.length_append]; simp; omega
    | false => rw [less_no h]; omega
theorem less_all {ws : WrL} {mk : Nat → Bool} {P : Int × List UInt8 → Prop} : ∀ i, (∀ k, k < i → P (wr_ ws k)) → ∀ j, j < (lessW ws mk i).length → P (wr_ (lessW ws mk i) j)
  | 0, _, j, hj => absurd hj (Nat.not_lt_zero _)
  | i + 1, h, j, hj => by
    have ih := less_all (ws := ws) (mk := mk) (P := P) i fun k hk => h k (by omega)
    cases hm : mk i with
    | false => rw [less_no hm] at hj ⊢; exact ih j hj
    | true =>
      rw [less_yes hm] at hj ⊢
      obtain ⟨e1, e2⟩ := wr_with (lessW ws mk i) (wr_ ws i).1 (wr_ ws i).2
      rw [List.length_append] at hj
      simp at hj
      by_cases hl : j < (lessW ws mk i).length
      · have := e1 j hl
        rw [this]
        exact ih j hl
      · obtain rfl : j = (lessW ws mk i).length := by omega
        have : wr_ (lessW ws mk i ++ [wr_ ws i]) (lessW ws mk i).length = wr_ ws i := e2
        rw [this]
        exact h i (Nat.lt_succ_self _)
theorem less_may {D : DkL} {mk : Nat → Bool} (h : MayD D) : MayD (D.1, lessW D.2 mk D.2.length) :=
  ⟨h.1, Nat.le_trans (less_len D.2 mk D.2.length) h.2.1, fun j hj => less_all (P := fun y => (0 ≤ y.1 ∧ y.1 < 256) ∧ y.2.length = 256) D.2.length (fun k hk => h.2.2 k hk) j hj⟩
theorem left_more_same (D : DkL) (p : Nat) (s : List UInt8) : leftD (withD D (p : Int) s) (fun _ => true) p = s := by
  obtain ⟨_, e2⟩ := wr_with D.2 (p : Int) s
  have hl : (withD D (p : Int) s).2.length = D.2.length + 1 := by show (D.2 ++ [((p : Int), s)]).length = _; simp
  have hw : wr_ (withD D (p : Int) s).2 D.2.length = ((p : Int), s) := e2
  rw [← leftI_all, hl, leftI_hit ⟨rfl, by rw [hw]⟩, hw]
theorem left_more_other (D : DkL) (p : Int) (q : Nat) (s : List UInt8) (h : p ≠ (q : Int)) : leftD (withD D p s) (fun _ => true) q = leftD D (fun _ => true) q := by
  obtain ⟨e1, e2⟩ := wr_with D.2 p s
  have hl : (withD D p s).2.length = D.2.length + 1 := by show (D.2 ++ [(p, s)]).length = _; simp
  have hw : wr_ (withD D p s).2 D.2.length = (p, s) := e2
  rw [← leftI_all, hl, leftI_miss (by rw [hw]; exact fun hh => h hh.2), ← leftI_all]
  have hlt : lastTo (withD D p s).2 (fun _ => true) (q : Int) D.2.length = lastTo D.2 (fun _ => true) (q : Int) D.2.length := lastTo_congr fun i hi => by
    have : wr_ (withD D p s).2 i = wr_ D.2 i := e1 i hi
    rw [this]
  unfold leftI
  rw [hlt]
  split
  · rename_i j hj
    exact congrArg Prod.snd (e1 j (lastTo_lt hj).1)
  · rfl
theorem less_left (D : DkL) (mk : Nat → Bool) (p : Nat) : ∀ i, leftD (D.1, lessW D.2 mk i) (fun _ => true) p = leftI D mk p i
  | 0 => by rw [leftI_zero]; rfl
  | i + 1 => by
    have ih := less_left D mk p i
    cases hm : mk i with
    | false => rw [less_no hm, leftI_miss (by rw [hm]; exact fun h => by cases h.1)]; exact ih
    | true =>
      rw [less_yes hm]
      show leftD (withD (D.1, lessW D.2 mk i) (wr_ D.2 i).1 (wr_ D.2 i).2) (fun _ => true) p = _
      by_cases hp : (wr_ D.2 i).1 = (p : Int)
      · rw [leftI_hit ⟨hm, hp⟩, hp]
        exact left_more_same _ _ _
      · rw [leftI_miss (fun h => hp h.2), left_more_other _ _ _ _ hp]
        exact ih
theorem less_kept (D : DkL) (mk : Nat → Bool) : keptD (D.1, lessW D.2 mk D.2.length) (fun _ => true) = keptD D mk := by
  unfold keptD
  have : leftD (D.1, lessW D.2 mk D.2.length) (fun _ => true) = leftD D mk := funext fun p => by rw [less_left, leftI_all]
  rw [this]
theorem less_flush {D : DkL} {mk : Nat → Bool} (h : MayD D) : flushO (D.1, lessW D.2 mk D.2.length) = (keptD D mk, 0) := by rw [flushO, if_pos (less_may h), less_kept]
section
variable {l : List Oper} {Q : Exit → Act → World → Prop} {F : Nat → Bool} {md : Region.Mode} {i : Nat} {σ : List Nat} {o : Oper} {listed : Array Bool} {a : Act} {w : World}
/-- append(writes, more...), at its own place in the order. -/
theorem wpF_append_wrow (hi : nthOp l i = some o) (hr : Region.ready md l.toArray listed = [i]) (hl : lastF F md l.toArray i = true) (hgd : o.guard = none) (x y : Operand) (ho : o.op = .call { callee := .builtin .append, args := #[x, y], argTypes := #[23, 23] })
    (base : Nat) {C : Nat} (hC : C ≤ base) (v : Value) (ws : WrL) (hx : a.eval x = v) (hrw : WRowC w C base v ws) (ys : List Value) (ws' : WrL) (ad : Addr) (m c : Nat) (hy : a.eval y = .slice (some ad) m c) (hm : ws'.length = m) (hyl : ys.length = m * 2) (hcell : ∀ j u, ys[j]? = some u → w.cell? (ad.add j) = some u)
    (h3 : ∀ i, i < ws'.length → (Lit.int .i64 (wr_ ws' i).1).wf = true ∧ ys.getD (i * 2) undef = .int .i64 (wr_ ws' i).1 ∧ ∃ A c, ys.getD (i * 2 + 1) undef = .slice A (wr_ ws' i).2.length c ∧ BslO w C A (wr_ ws' i).2.length c (wr_ ws' i).2)
    (hn : ws.length + m ≤ 1000000) (hbase : base ≤ w.heap.size)
    (h : ∀ v' w', WRowC w' C base v' (ws ++ ws') → w.grownBy w' v.ownBlock → (∀ g, v.ownBlock = some g → base ≤ g ∧ ∃ t cs, Blk w g t cs ∧ t = 55) → wpF Try.prog F md l Q σ (listed.setIfInBounds i true) (a.put o.dst v') w') : wpF Try.prog F md l Q (i :: σ) listed a w :=
  wpF_last hi hr hl fun K hK => by
    rw [if_pos (by simp [Region.wanted, hgd])]
    have hty : ∀ g, v.ownBlock = some g → base ≤ g ∧ ∃ t cs, Blk w g t cs ∧ t = 55 := by
      obtain ⟨xs, h1, _⟩ := hrw
      intro g hg
      obtain ⟨_, ⟨rfl, _⟩ | ⟨g', cap, cur, rfl, h2, h3, _⟩⟩ := h1
      · cases hg
      · cases hg
        exact ⟨h2, _, _, h3, rfl⟩
    exact wp_append_wrowC x y ho base hC v ws hx hrw ys ws' ad m c hy hm hyl hcell h3 hn hbase fun v' w' h1 h2 _ => hK _ _ (h v' w' h1 h2 hty)
end
end Go.Proofs.Ytgpojnhhcobcbaa
