/-
  append of bytes to a row of one's own, at any place of a walk; in a region that draws its order.
-/
import Derived.Test.YtennhempdnpobaaDoorOwn
import Derived.Test.YtennhempdnpobaaDoorMovI
namespace Go.Proofs.YtennhempdnpobaaDoor
open Go.RowKit Go.Shelf
set_option maxRecDepth 100000

/-- append(v, nil...), whatever capacity nil is written with. -/
theorem run_app_none {P : Program} {w : World} (base : Nat) (t ty e : TypeId) (i : TypeInfo) (size c : Nat) (ht : P.underlying t = some (.slice e)) (hi : P.info? e = some i)
    (v : Value) (n : Nat) (xs : List Value) (hown : w.ownsRow base e size v n xs) : (Builtin.append_ #[t, t] ty #[v, .slice none 0 c]).run P w = .ok v w := by
  rcases hown.2 with ⟨rfl, rfl⟩ | ⟨g, cap, cur, rfl, _, _, hnc, _⟩
  · simp [Builtin.append_, run_underlying ht, sizeOf, typeInfo, hi, Builtin.lenOf, Builtin.firstCells]
  · simp [Builtin.append_, run_underlying ht, sizeOf, typeInfo, hi, Builtin.lenOf, Builtin.firstCells, hnc, storeCells]
section
variable {w : World} {o : Oper} {a : Act} {K : Act → World → Prop} {Q : Exit → Act → World → Prop}
theorem wp_app_own (s x : Operand)
    (ho : o.op = .call { callee := .builtin .append, args := #[s, x], argTypes := #[28, 28] })
    (base : Nat) (v : Value) (n : Nat) (xs : List UInt8) (hs : a.eval s = v) (hown : w.ownsRow base 5 1 v n (vals xs))
    (B : Nat) (A : Option Addr) (m c : Nat) (news : List UInt8) (hx : a.eval x = .slice A m c) (hr : Bsl w B A m c news)
    (hnm : n + m ≤ 100000000000000) (hbase : base ≤ w.heap.size)
    (h : ∀ v' w', w'.ownsRow base 5 1 v' (n + m) (vals (xs ++ news)) → w.grownBy w' v.ownBlock → K (a.put o.dst v') w') : o.wp Tryd.prog a w K Q := by
  obtain ⟨i0, hi, hz0, hz1, hz2⟩ := info_parts infoU8
  obtain ⟨h1, h2, h3, h4, h5⟩ := hr
  cases A with
  | none =>
    have hc := h4 rfl
    have hm : m = 0 := by omega
    subst hm; subst hc
    obtain rfl : news = [] := List.eq_nil_of_length_eq_zero h1
    have hrun := run_app_none (P := Tryd.prog) (w := w) base 28 o.type 5 i0 1 0 Tryd.underlying28 hi v n (vals xs) hown
    unfold Oper.wp
    simp [execOp, ho, resolve, invoke, builtin, hs, hx, hrun, Result.andThen]
    exact h v w (by simpa using hown) (World.grownBy.refl w _)
  | some ad =>
    refine wp_append_own w s x 28 ho base 5 i0 (.int .u8 0) 1 1 Tryd.underlying28 hi hz0 hz1 hz2 rfl (by decide) v n (vals xs) hs hown ad m c (vals news) hx (by simp [vals, h1]) (fun j u hu => ?_) (fun u hu => ?_) (by unfold maxLen; omega) (by omega) hbase ?_
    · obtain ⟨hj, rfl⟩ := vals_get hu
      obtain ⟨b, off, e, _, hc⟩ := h5 (by omega)
      cases e
      rw [← hc j hj]
      congr 1
      unfold Addr.add
      split <;> simp_all
    · obtain ⟨y, _, rfl⟩ := List.mem_map.1 hu
      rfl
    · intro v' w' h2 h3 _
      exact h v' w' (by rw [← vals_append]; exact h2) h3
end
section
variable {l : List Oper} {Q : Exit → Act → World → Prop} {md : Region.Mode} {S : World → Prop} {i : Nat} {σ : List Nat} {o : Oper} {listed : Array Bool} {a : Act} {w : World}
/-- Where its turn comes alone. -/
theorem wpI_app_own (hi : nthOp l i = some o) (hr : Region.ready md l.toArray listed = [i]) (hgd : o.guard = none) (s x : Operand)
    (ho : o.op = .call { callee := .builtin .append, args := #[s, x], argTypes := #[28, 28] })
    (base : Nat) (v : Value) (n : Nat) (xs : List UInt8) (hs : a.eval s = v) (hown : w.ownsRow base 5 1 v n (vals xs))
    (B : Nat) (A : Option Addr) (m c : Nat) (news : List UInt8) (hx : a.eval x = .slice A m c) (hb : Bsl w B A m c news)
    (hnm : n + m ≤ 100000000000000) (hbase : base ≤ w.heap.size)
    (h : ∀ v' w', w'.ownsRow base 5 1 v' (n + m) (vals (xs ++ news)) → w.grownBy w' v.ownBlock → S w' ∧ wpI Tryd.prog md S l Q σ (listed.setIfInBounds i true) (a.put o.dst v') w') : wpI Tryd.prog md S l Q (i :: σ) listed a w :=
  wpI_lone hi hr fun K hK => by
    rw [if_pos (by simp [Region.wanted, hgd])]
    exact wp_app_own s x ho base v n xs hs hown B A m c news hx hb hnm hbase fun v' w' h1 h2 => hK _ _ (h v' w' h1 h2).1 (h v' w' h1 h2).2
end
/-- A slice literal of one byte. -/
theorem one_own (w : World) (x : UInt8) : (w.alloc (.cells #[.int .u8 (x.toNat : Int)] 5)).ownsRow w.heap.size 5 1 (.slice (some ⟨w.heap.size, 0, none⟩) 1 1) 1 (vals [x]) :=
  ⟨rfl, .inr ⟨w.heap.size, 1, _, rfl, Nat.le_refl _, heap_alloc_new w _, Nat.le_refl _, by unfold maxLen; omega, rfl, rfl⟩⟩
end Go.Proofs.YtennhempdnpobaaDoor
