/-
  Words for lists of whole numbers (Go's []int with no number below nought): a slice that reads as them; appends to a slice of one's own; a cell of it.
-/
import Derived.Test.YtiekbgfglmfbkaaOwn
namespace Go.Proofs.Ytiekbgfglmfbkaa
open Go.RowKit Go.Shelf
set_option maxRecDepth 100000

/-- The values of numbers. -/
def valsN (s : List Nat) : List Value := s.map fun x : Nat => .int .i64 (x : Int)
theorem valsN_length (s : List Nat) : (valsN s).length = s.length := by simp [valsN]
theorem valsN_append (s t : List Nat) : valsN s ++ valsN t = valsN (s ++ t) := by simp [valsN]
theorem valsN_get {s : List Nat} {j : Nat} {u : Value} (h : (valsN s)[j]? = some u) : ∃ hj : j < s.length, u = .int .i64 ((s[j] : Nat) : Int) := by
  rw [valsN, List.getElem?_map] at h
  rcases Nat.lt_or_ge j s.length with hj | hj
  · rw [List.getElem?_eq_getElem hj] at h
    exact ⟨hj, (Option.some.inj h).symm⟩
  · rw [List.getElem?_eq_none hj] at h; cases h

/-- A slice of numbers that lies below block B reads as s. -/
def Nsl (w : World) (B : Nat) (a : Option Addr) (len cap : Nat) (s : List Nat) : Prop :=
  s.length = len ∧ len ≤ cap ∧ cap ≤ maxLen ∧ (a = none → cap = 0) ∧
    (0 < len → ∃ b off, a = some ⟨b, off, none⟩ ∧ b < B ∧ ∀ i (h : i < s.length), w.cell? ⟨b, off + i, none⟩ = some (.int .i64 ((s[i] : Nat) : Int)))
theorem Nsl.below {w w' : World} {B : Nat} {a : Option Addr} {len cap : Nat} {s : List Nat} (h : Nsl w B a len cap s) (hb : Below B w w') : Nsl w' B a len cap s := by
  obtain ⟨h1, h2, h3, h4, h5⟩ := h
  refine ⟨h1, h2, h3, h4, fun hl => ?_⟩
  obtain ⟨b, off, e, hlt, hc⟩ := h5 hl
  exact ⟨b, off, e, hlt, fun i hi => (hb.cell (p := ⟨b, off + i, none⟩) hlt).trans (hc i hi)⟩
theorem Nsl.more {w : World} {B B' : Nat} {a : Option Addr} {len cap : Nat} {s : List Nat} (h : Nsl w B a len cap s) (hB : B ≤ B') : Nsl w B' a len cap s := by
  obtain ⟨h1, h2, h3, h4, h5⟩ := h
  refine ⟨h1, h2, h3, h4, fun hl => ?_⟩
  obtain ⟨b, off, e, hlt, hc⟩ := h5 hl
  exact ⟨b, off, e, by omega, hc⟩
theorem Nsl.step {w w' : World} {a : Option Addr} {len cap : Nat} {s : List Nat} (h : Nsl w w.heap.size a len cap s) (hb : Below w.heap.size w w') : Nsl w' w'.heap.size a len cap s := (h.below hb).more hb.size
theorem Nsl.cellD {w : World} {B g off len cap : Nat} {s : List Nat} (h : Nsl w B (some ⟨g, off, none⟩) len cap s) (i : Nat) (hi : i < len) : w.cell? ⟨g, off + i, none⟩ = some (.int .i64 ((s.getD i 0 : Nat) : Int)) := by
  obtain ⟨b, o, e, _, hc⟩ := h.2.2.2.2 (by omega)
  cases e
  have hl : i < s.length := by rw [h.1]; exact hi
  rw [hc i hl, List.getD_eq_getElem?_getD, List.getElem?_eq_getElem hl]
  rfl
theorem Nsl.cell0 {w : World} {B g len cap : Nat} {s : List Nat} (h : Nsl w B (some ⟨g, 0, none⟩) len cap s) (i : Nat) (hi : i < len) : w.cell? ⟨g, i, none⟩ = some (.int .i64 ((s.getD i 0 : Nat) : Int)) := by
  have := h.cellD i hi
  rwa [Nat.zero_add] at this

theorem infoInt : (Try.prog.info? 3).map (fun i => (i.zero, i.size, i.bytes)) = some (some (.int .i64 0), 1, 8) := by kernel_rfl

theorem wpList_append_nsl {w : World} {ops : Array Oper} {rest : List Oper} {o : Oper} {a : Act} {Q : Exit → Act → World → Prop} (hgd : o.guard = none) (s x : Operand)
    (ho : o.op = .call { callee := .builtin .append, args := #[s, x], argTypes := #[22, 22] })
    (base : Nat) (v : Value) (n : Nat) (xs : List Nat) (hs : a.eval s = v) (hown : w.ownsRow base 3 1 v n (valsN xs))
    (B : Nat) (A : Option Addr) (m c : Nat) (news : List Nat) (hx : a.eval x = .slice A m c) (hr : Nsl w B A m c news)
    (hnm : n + m ≤ 100000) (hbase : base ≤ w.heap.size)
    (h : ∀ v' w', w'.ownsRow base 3 1 v' (n + m) (valsN (xs ++ news)) → w.grownBy w' v.ownBlock → wpList Try.prog ops Q rest (a.put o.dst v') w') : wpList Try.prog ops Q (o :: rest) a w := by
  obtain ⟨i0, hi, hz0, hz1, hz2⟩ := info_parts infoInt
  obtain ⟨h1, h2, h3, h4, h5⟩ := hr
  have e0 : m = 0 → news = [] := fun e => List.eq_nil_of_length_eq_zero (by omega)
  cases A with
  | none =>
    have hc := h4 rfl
    have hm : m = 0 := by omega
    subst hm; subst hc
    obtain rfl := e0 rfl
    refine wpList_append_own_none hgd s x 22 ho base 3 i0 1 Try.underlying22 hi v n (valsN xs) hs hown hx ?_
    exact h v w (by simpa using hown) (World.grownBy.refl w _)
  | some ad =>
    refine wpList_append_own w hgd s x 22 ho base 3 i0 (.int .i64 0) 1 8 Try.underlying22 hi hz0 hz1 hz2 rfl (by decide) v n (valsN xs) hs hown ad m c (valsN news) hx (by simp [valsN, h1]) (fun j u hu => ?_) (fun u hu => ?_) (by unfold maxLen; omega) (by omega) hbase ?_
    · obtain ⟨hj, rfl⟩ := valsN_get hu
      obtain ⟨b, off, e, _, hc⟩ := h5 (by omega)
      cases e
      rw [← hc j hj]
      congr 1
      unfold Addr.add
      split <;> simp_all
    · obtain ⟨y, _, rfl⟩ := List.mem_map.1 hu
      rfl
    · intro v' w' h2 h3 _
      exact h v' w' (by rw [← valsN_append]; exact h2) h3

/-- Numbers in a row of one's own: where they lie. -/
theorem nsl_of_own {w : World} {base n : Nat} {v : Value} {s : List Nat} (h : w.ownsRow base 3 1 v n (valsN s)) (hn : 0 < n) :
    ∃ g cap, v = .slice (some ⟨g, 0, none⟩) n cap ∧ base ≤ g ∧ g < w.heap.size ∧ Nsl w w.heap.size (some ⟨g, 0, none⟩) n cap s := by
  have hl : s.length = n := by have := h.1; simpa [valsN] using this
  obtain ⟨h1, h2 | ⟨g, cap, cur, rfl, hb, hh, hnc, hcm, hsz, ht⟩⟩ := h
  · omega
  · have hg : g < w.heap.size := (Array.getElem?_eq_some_iff.1 hh).1
    refine ⟨g, cap, rfl, hb, hg, hl, hnc, hcm, fun e => (by cases e), fun _ => ⟨g, 0, rfl, hg, fun i hi => ?_⟩⟩
    rw [Nat.zero_add, cell_of_row w g i cur 3 (0, 0) hh]
    have : (valsN s)[i]? = some (.int .i64 ((s[i] : Nat) : Int)) := by simp [valsN, hi]
    rw [← ht, List.getElem?_take_of_lt (by omega)] at this
    rw [← this, Array.getElem?_toList]
/-- A new block of numbers, as a slice. -/
theorem nsl_blk {w : World} {g : Nat} {s : List Nat} (h : Blk w g 3 (valsN s).toArray) (hs : s.length ≤ 100000) : Nsl w w.heap.size (some ⟨g, 0, none⟩) s.length s.length s :=
  ⟨rfl, Nat.le_refl _, by unfold maxLen; omega, fun e => (by cases e), fun _ => ⟨g, 0, rfl, h.lt, fun i hi => by
    rw [Nat.zero_add, h.cell i]
    simp [valsN, hi]⟩⟩
/-- Behind a new number: the number's own slice. -/
theorem one_nsl (w : World) (x : Nat) : Nsl (w.alloc (.cells #[.int .i64 (x : Int)] 3)) (w.alloc (.cells #[.int .i64 (x : Int)] 3)).heap.size (some ⟨w.heap.size, 0, none⟩) 1 1 [x] :=
  nsl_blk (s := [x]) (Blk.new w _ _) (by simp)
/-- A new list of n numbers s. -/
def NewN (n : Nat) (s : List Nat) (w : World) (e : Ending) (w' : World) : Prop :=
  ∃ v, e = .returned v ∧ w'.ownsRow w.heap.size 3 1 v n (valsN s) ∧ Below w.heap.size w w'
end Go.Proofs.Ytiekbgfglmfbkaa
