/-
  Pointers and an error's number that a call answers; append to a row of pointers, and where the new row lies.
-/
import Derived.Test.YtadffkfalclpjaaPRow
import Derived.Deep.AppendLies
namespace Go.Proofs.Ytadffkfalclpjaa
open Go.RowKit Go.Shelf
set_option maxRecDepth 100000

/-- Not below block B. -/
def HiA (B : Nat) (a : Option Addr) : Prop := ∀ p, a = some p → B ≤ p.block
theorem HiA.less {B B' : Nat} {a : Option Addr} (h : HiA B a) (hB : B' ≤ B) : HiA B' a := fun p e => Nat.le_trans hB (h p e)
theorem prow_hi {w : World} {base n c : Nat} {a : Option Addr} {L : List Pt} (h : PRow w base (.slice a n c) L) : HiA base a := by
  obtain ⟨_, ⟨e, _⟩ | ⟨g, cap, cur, e, q1, _⟩⟩ := h.1
  · cases e; exact fun _ e => by cases e
  · cases e; exact fun _ e => by cases e; exact q1
/-- Pointers and an error's number. -/
def OutLs (o : List Pt × Nat) (w : World) (e : Ending) (w' : World) : Prop := ∃ a c, e = .returned (.tuple #[.slice a o.1.length c, .int .i64 o.2]) ∧ Pts w' w'.heap.size a o.1.length c o.1 ∧ HiA w.heap.size a ∧ Below w.heap.size w w'
theorem outLs_no (c : Nat) {w w' : World} (hb : Below w.heap.size w w') : OutLs ([], c) w (.returned (.tuple #[.slice none 0 0, .int .i64 c])) w' := ⟨none, 0, rfl, pts_nil _ _, fun _ e => (by cases e), hb⟩
/-- append of pointers to a row of the call's own: where the new row lies. -/
theorem wpList_append_plie {w : World} {o : Oper} {a : Act} {Q : Exit → Act → World → Prop} {ops : Array Oper} {rest : List Oper} (hgd : o.guard = none) (x y : Operand) (ho : o.op = .call { callee := .builtin .append, args := #[x, y], argTypes := #[22, 22] })
    (base : Nat) (v : Value) (L : List Pt) (hx : a.eval x = v) (hr : PRow w base v L) (B : Nat) (A : Option Addr) (m c : Nat) (M : List Pt) (hy : a.eval y = .slice A m c) (hs : Pts w B A m c M) (hm0 : 0 < m)
    (hn : L.length + m ≤ 1000000) (hbase : base ≤ w.heap.size)
    (h : ∀ g cap w', PRow w' base (.slice (some ⟨g, 0, none⟩) (L.length + m) cap) (L ++ M) → w.grownBy w' v.ownBlock → (v.ownBlock = some g ∨ g = w.heap.size) → g < w'.heap.size → wpList Try.prog ops Q rest (a.put o.dst (.slice (some ⟨g, 0, none⟩) (L.length + m) cap)) w') : wpList Try.prog ops Q (o :: rest) a w := by
  obtain ⟨i0, hi0, hz0, hz1, hz2⟩ := info_parts infoPt
  obtain ⟨h1, h2⟩ := hr
  have hwf : ∀ p ∈ L ++ M, WfP p := fun p hp => by
    rcases List.mem_append.1 hp with hp | hp
    · exact h2 p hp
    · exact hs.wf hp
  have hml := hs.1
  obtain ⟨b, off, rfl, _, _⟩ := hs.2.2.2.2 hm0
  refine wpList_append_lies w hgd x y 22 ho base 25 i0 (.agg #[.int .i64 0, .int .u32 0, .int .u32 0, .int .u32 0, .int .u32 0]) 5 24 Try.underlying22 hi0 hz0 hz1 hz2 rfl (by decide) v L.length (ptCs L) hx h1 ⟨b, off, none⟩ m c (ptCs M) hy (by rw [ptCs_length, hml]) (fun j u hu => ?_) (fun u hu => ptCs_mem hu) hm0 (by unfold maxLen; omega) (by omega) hbase _ rfl fun g cap w' h6 h7 h8 h9 => ?_
  · have e1 : (⟨b, off, none⟩ : Addr).add j = ⟨b, off + j, none⟩ := by unfold Addr.add; split <;> simp_all
    rw [e1]
    exact hs.row j u hu
  · refine h g cap w' ⟨?_, hwf⟩ h7 h8 h9
    rw [List.length_append, hml, ptCs_append]
    exact h6
/-- A slice literal of one pointer, as a row of one's own. -/
theorem prow_one (w : World) (p : Pt) (hp : WfP p) : PRow (w.alloc (.cells (ptC p).toArray 25)) w.heap.size (.slice (some ⟨w.heap.size, 0, none⟩) 1 1) [p] :=
  ⟨⟨rfl, .inr ⟨w.heap.size, 1, _, rfl, Nat.le_refl _, heap_alloc_new w _, Nat.le_refl _, by unfold maxLen; omega, rfl, rfl⟩⟩, fun q hq => by rw [List.mem_singleton.1 hq]; exact hp⟩
end Go.Proofs.Ytadffkfalclpjaa
