/-
  In a region that draws its order: a load of sixteen bytes, and a store of them behind all else.
-/
import Derived.Test.YtmlmgnifgcbehaaKeyArr
import Derived.Test.YtmlmgnifgcbehaaMov
namespace Go.Proofs.Ytmlmgnifgcbehaa
open Go.RowKit Go.Shelf
set_option maxRecDepth 100000

section
variable {ops : List Oper} {Q : Exit → Act → World → Prop} {md : Region.Mode} {i : Nat} {σ : List Nat} {o : Oper} {listed : Array Bool} {a : Act} {w : World}
theorem wpS_load_bsl (s : List UInt8) (hi : nthOp ops i = some o) (hsl : Region.noSelect ops.toArray = true) (hf : Region.free md ops.toArray listed i = true) (hr : (Region.ready md ops.toArray listed).contains i = true) (hQ : ∀ c a w, Q (.panic c) (a.put o.dst (.agg (ar s))) w → Q (.panic c) a w) (hgd : o.guard = none)
    (x : Operand) (ho : o.op = .load 41 x) (g off cap : Nat) (hx : a.eval x = .pointer (some ⟨g, off, none⟩)) (hb : Bsl w w.heap.size (some ⟨g, off, none⟩) 16 cap s)
    (h : wpS Try.prog md ops Q σ (listed.setIfInBounds i true) (a.put o.dst (.agg (ar s))) w) (hcl : closedB md ops.toArray listed = true := by kernel_rfl) : wpS Try.prog md ops Q (i :: σ) listed a w :=
  wpS_read hi hsl hf hr hQ (yieldsIf_load_mid (by simp [Region.wanted, hgd]) 41 x ho g off hx (vals s) _ (fun W hW => (hb.step (hW w (Below.refl _ _))).range (by omega)) Try.underlying41 rfl (by rw [infoA]; simp [vals, hb.1])) h hcl
theorem wpS_store_ar (hi : nthOp ops i = some o) (hr : Region.ready md ops.toArray listed = [i]) (hl : lastB md ops.toArray i = true) (hgd : o.guard = none)
    (x y : Operand) (ho : o.op = .store 41 x y) (g : Nat) (s old : List UInt8) (hx : a.eval x = .pointer (some ⟨g, 0, none⟩)) (hy : a.eval y = .agg (ar s)) (hs : s.length = 16) (hb : Blk w g 41 (ar old)) (hold : old.length = 16)
    (h : ∀ w', Blk w' g 41 (ar s) → w.grownBy w' (some g) → wpS Try.prog md ops Q σ (listed.setIfInBounds i true) (a.put o.dst undef) w') : wpS Try.prog md ops Q (i :: σ) listed a w :=
  wpS_last hi hr hl fun K hK => by
    rw [if_pos (by simp [Region.wanted, hgd])]
    exact wp_store_row 41 x y ho g (ar s) hx hy 41 (ar old) hb (by rw [infoA, ar_size, hs]) (by rw [ar_size, ar_size, hs, hold]) (ar_one s)
      (hK _ _ (h _ hb.setRow ⟨rfl, rfl, rfl, by simp, fun k _ hk => setRow_other w g k _ (fun e => hk (by rw [e]))⟩))
/-- An append to a slice of one's own, at its own place in the order. -/
theorem wpS_append (hi : nthOp ops i = some o) (hr : Region.ready md ops.toArray listed = [i]) (hl : lastB md ops.toArray i = true) (hgd : o.guard = none) (x y : Operand)
    (ho : o.op = .call { callee := .builtin .append, args := #[x, y], argTypes := #[22, 22] })
    (base : Nat) (v : Value) (n : Nat) (xs : List UInt8) (hx : a.eval x = v) (hown : w.ownsRow base 5 1 v n (vals xs)) (B : Nat) (A : Option Addr) (m c : Nat) (news : List UInt8) (hy : a.eval y = .slice A m c) (hb : Bsl w B A m c news) (hm : 0 < m)
    (hnm : n + m ≤ 100000) (hbase : base ≤ w.heap.size)
    (h : ∀ v' w', w'.ownsRow base 5 1 v' (n + m) (vals (xs ++ news)) → w.grownBy w' v.ownBlock → wpS Try.prog md ops Q σ (listed.setIfInBounds i true) (a.put o.dst v') w') : wpS Try.prog md ops Q (i :: σ) listed a w :=
  wpS_last hi hr hl fun K hK => by
    rw [if_pos (by simp [Region.wanted, hgd])]
    obtain ⟨i0, hi0, hz0, hz1, hz2⟩ := info_parts infoU8
    obtain ⟨h1, h2, h3, h4, h5⟩ := hb
    obtain ⟨b, off, rfl, _, hc⟩ := h5 hm
    refine wp_append_own w x y 22 ho base 5 i0 (.int .u8 0) 1 1 Try.underlying22 hi0 hz0 hz1 hz2 rfl (by decide) v n (vals xs) hx hown ⟨b, off, none⟩ m c (vals news) hy (by simp [vals, h1]) (fun j u hu => ?_) (fun u hu => ?_) (by unfold maxLen; omega) (by omega) hbase fun v' w' h6 h7 _ => hK _ _ (h v' w' (by rw [← vals_append]; exact h6) h7)
    · obtain ⟨hj, rfl⟩ := vals_get hu
      rw [Addr.add_mid]
      exact hc j hj
    · obtain ⟨y, _, rfl⟩ := List.mem_map.1 hu
      rfl
end
end Go.Proofs.Ytmlmgnifgcbehaa
