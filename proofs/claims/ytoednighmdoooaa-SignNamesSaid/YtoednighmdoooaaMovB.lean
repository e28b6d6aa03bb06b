/-
  In a region that draws its order: an append to a slice of one's own, at its own place in the order.
-/
import Derived.Test.YtoednighmdoooaaByt
import Derived.Test.YtoednighmdoooaaMov
namespace Go.Proofs.Ytoednighmdoooaa
open Go.RowKit Go.Shelf
set_option maxRecDepth 100000

theorem add_mid (b off j : Nat) : (⟨b, off, none⟩ : Addr).add j = ⟨b, off + j, none⟩ := by unfold Addr.add; split <;> simp_all
section
variable {ops : List Oper} {Q : Exit → Act → World → Prop} {md : Region.Mode} {i : Nat} {σ : List Nat} {o : Oper} {listed : Array Bool} {a : Act} {w : World}
/-- An append to a slice of one's own, at its own place in the order. -/
theorem wpS_append (hi : nthOp ops i = some o) (hr : Region.ready md ops.toArray listed = [i]) (hl : lastB md ops.toArray i = true) (hgd : o.guard = none) (x y : Operand)
    (ho : o.op = .call { callee := .builtin .append, args := #[x, y], argTypes := #[22, 22] })
    (base : Nat) (v : Value) (n : Nat) (xs : List UInt8) (hx : a.eval x = v) (hown : w.ownsRow base 5 1 v n (vals xs)) (B : Nat) (A : Option Addr) (m c : Nat) (news : List UInt8) (hy : a.eval y = .slice A m c) (hb : Bsl w B A m c news) (hm : 0 < m)
    (hnm : n + m ≤ 100000) (hbase : base ≤ w.heap.size)
    (h : ∀ v' w', w'.ownsRow base 5 1 v' (n + m) (vals (xs ++ news)) → w.grownBy w' v.ownBlock → wpS Try.prog md ops Q σ (listed.setIfInBounds i true) (a.put o.dst v') w') : wpS Try.prog md ops Q (i :: σ) listed a w :=
  wpS_last hi hr hl fun K hK => by
    rw [if_pos (by simp [Region.wanted, hgd])]
    obtain ⟨i0, hi0, hz0, hz1, hz2⟩ := info_parts infoU8
    obtain ⟨h1, h2, h3, h4, h5⟩ := hb
    obtain ⟨b, off, rfl, _, hc⟩ := h5 hm
    refine wp_append_own w x y 22 ho base 5 i0 (.int .u8 0) 1 1 Try.underlying22 hi0 hz0 hz1 hz2 rfl (by decide) v n (vals xs) hx hown ⟨b, off, none⟩ m c (vals news) hy (by simp [vals, h1]) (fun j u hu => ?_) (fun u hu => ?_) (by unfold maxLen; omega) (by omega) hbase fun v' w' h6 h7 _ => hK _ _ (h v' w' (by rw [← vals_append]; exact h6) h7)
    · obtain ⟨hj, rfl⟩ := vals_get hu
      rw [add_mid]
      exact hc j hj
    · obtain ⟨y, _, rfl⟩ := List.mem_map.1 hu
      rfl
end
end Go.Proofs.Ytoednighmdoooaa
