/-
  Words for slices of bytes, of any program: what one reads as; the string made of it; a part of it; appends to a slice of one's own.
-/
import Derived.RangeFuncNested
import Derived.RangeFuncBox
import Derived.RangeFuncLeaves
import Derived.RangeFuncBound
import Derived.RangeFuncCalls
import Derived.Shelf.Abstract
import Derived.Shelf.RegionOpen
import Derived.WalkKit
import Derived.OwnWalkIn
import Derived.TacticsInMore
import Derived.LoopNIn
import Derived.LoopIn
import Derived.Outline
import Derived.Lib.Hide
import Derived.Lib.SlBytesRow
import Derived.Lib.QuoteBits
import Derived.WalkSpells
import Derived.Deep.QuietTactic
import Derived.BigQuiet
import Derived.Laws.Rows
import Derived.Laws.AppendOwnNone
import Derived.Test.YtennhempdnpobaaDoorProg
namespace Go.Proofs.YtennhempdnpobaaDoor
open Go.RowKit Go.Shelf
set_option maxRecDepth 100000

/-- The cells of the block g hold the bytes s. -/
def Holds (W : World) (g : Nat) (s : List UInt8) : Prop := ∀ i (h : i < s.length), W.cell? ⟨g, i, none⟩ = some (.int .u8 ((s[i]).toNat : Int))
/-- string(b) of a slice whose cells hold s. -/
def strOf (s : List UInt8) : ByteArray := ⟨s.toArray⟩
theorem strOf_toList (s : List UInt8) : (strOf s).toList = s := by
  rw [ByteArray.toList_eq]; rfl
theorem conv_at (W : World) (g off len cap : Nat) (s : List UInt8) (hs : s.length = len) (hc : ∀ i (h : i < s.length), W.cell? ⟨g, off + i, none⟩ = some (.int .u8 ((s[i]).toNat : Int))) :
    (convert 28 9 (.slice (some ⟨g, off, none⟩) len cap)).run Tryd.prog W = .ok (.string (strOf s)) W := by
  rw [run_convert_bytes_arg (P := Tryd.prog) W 28 5 Tryd.underlying28 Tryd.underlying5 g off len cap (s.map fun x => (x.toNat : Int)) (by simpa using hs) (fun i hi => ?_) 9 Tryd.underlying9]
  · congr 2
    unfold strOfNums strOf
    have e : ((fun n : Int => UInt8.ofNat n.toNat) ∘ fun x : UInt8 => (x.toNat : Int)) = id := by funext x; simp
    rw [List.map_map, e, List.map_id]
  · rw [hc i (by omega)]
    simp [List.getD, hs, hi]
theorem Holds.below {B g : Nat} {W W' : World} {s : List UInt8} (h : Holds W g s) (hb : Below B W W') (hg : g < B) : Holds W' g s := fun i hi => (hb.cell (p := ⟨g, i, none⟩) hg).trans (h i hi)
theorem Holds.conv {W : World} {g cap : Nat} {s : List UInt8} (h : Holds W g s) {len : Nat} (hs : s.length = len) : (convert 28 9 (.slice (some ⟨g, 0, none⟩) len cap)).run Tryd.prog W = .ok (.string (strOf s)) W :=
  conv_at W g 0 len cap s hs fun i hi => by rw [Nat.zero_add]; exact h i hi
theorem wf_le {n : Int} (h : (Lit.int .i64 n).wf = true) : -9223372036854775808 ≤ n ∧ n ≤ 9223372036854775807 := by simpa [Lit.wf, IntKind.min, IntKind.max, IntKind.signed, IntKind.bits] using h
theorem Holds.left {W : World} {g : Nat} {s t : List UInt8} (h : Holds W g (s ++ t)) : Holds W g s := fun i hi => by
  have := h i (by simp; omega)
  rwa [List.getElem_append_left hi] at this
theorem Holds.drewN {W : World} {g : Nat} {s : List UInt8} (h : Holds W g s) (q : Nat) : Holds (W.drewN q) g s := fun i hi => by simpa using h i hi
theorem Holds.last {W : World} {g : Nat} {s : List UInt8} {x : UInt8} (h : Holds W g (s ++ [x])) : W.cell? ⟨g, s.length, none⟩ = some (.int .u8 (x.toNat : Int)) := by
  have := h s.length (by simp)
  simpa using this
theorem below_drewN {B : Nat} {a w : World} (h : Below B a w) (q : Nat) : Below B a (w.drewN q) := ⟨h.os, h.tape, h.output, h.size, h.block⟩
/-- b[:h]. -/
theorem slice_h (W : World) (g off len cap h : Nat) (hh : 0 < h) (hc : h ≤ cap) : (Instr.slice 28 (.slice (some ⟨g, off, none⟩) len cap) none (some (.int .i64 (h : Int))) none).run Tryd.prog W = .ok (.slice (some ⟨g, off, none⟩) h cap) W := by
  rw [run_slice_h W 28 _ _ _ (by kernel_rfl) .i64 _ (by omega) (by omega)]
  have hz : (Go.sizeOf (Tryd.prog.elem 28)).run Tryd.prog W = .ok 1 W := by kernel_rfl
  rw [hz]
  simp [Result.andThen, sliced, Addr.add] <;> omega
/-- The values of bytes. -/
def vals (s : List UInt8) : List Value := s.map fun x => .int .u8 (x.toNat : Int)
theorem vals_append (s t : List UInt8) : vals s ++ vals t = vals (s ++ t) := by simp [vals]
theorem vals_get {s : List UInt8} {j : Nat} {u : Value} (h : (vals s)[j]? = some u) : ∃ hj : j < s.length, u = .int .u8 ((s[j]).toNat : Int) := by
  rw [vals, List.getElem?_map] at h
  rcases Nat.lt_or_ge j s.length with hj | hj
  · rw [List.getElem?_eq_getElem hj] at h
    exact ⟨hj, (Option.some.inj h).symm⟩
  · rw [List.getElem?_eq_none hj] at h; cases h
/-- A slice of bytes that lies below block B reads as s. -/
def Bsl (w : World) (B : Nat) (a : Option Addr) (len cap : Nat) (s : List UInt8) : Prop :=
  s.length = len ∧ len ≤ cap ∧ cap ≤ maxLen ∧ (a = none → cap = 0) ∧
    (0 < len → ∃ b off, a = some ⟨b, off, none⟩ ∧ b < B ∧ ∀ i (h : i < s.length), w.cell? ⟨b, off + i, none⟩ = some (.int .u8 ((s[i]).toNat : Int)))
theorem Bsl.below {w w' : World} {B : Nat} {a : Option Addr} {len cap : Nat} {s : List UInt8} (h : Bsl w B a len cap s) (hb : Below B w w') : Bsl w' B a len cap s := by
  obtain ⟨h1, h2, h3, h4, h5⟩ := h
  refine ⟨h1, h2, h3, h4, fun hl => ?_⟩
  obtain ⟨b, off, e, hlt, hc⟩ := h5 hl
  exact ⟨b, off, e, hlt, fun i hi => (hb.cell (p := ⟨b, off + i, none⟩) hlt).trans (hc i hi)⟩
theorem infoU8 : (Tryd.prog.info? 5).map (fun i => (i.zero, i.size, i.bytes)) = some (some (.int .u8 0), 1, 1) := by kernel_rfl
theorem wpList_append_big {w : World} {ops : Array Oper} {rest : List Oper} {o : Oper} {a : Act} {Q : Exit → Act → World → Prop} (hgd : o.guard = none) (s x : Operand)
    (ho : o.op = .call { callee := .builtin .append, args := #[s, x], argTypes := #[28, 28] })
    (base : Nat) (v : Value) (n : Nat) (xs : List UInt8) (hs : a.eval s = v) (hown : w.ownsRow base 5 1 v n (vals xs))
    (B : Nat) (A : Option Addr) (m c : Nat) (news : List UInt8) (hx : a.eval x = .slice A m c) (hr : Bsl w B A m c news)
    (hnm : n + m ≤ 100000000000000) (hbase : base ≤ w.heap.size)
    (h : ∀ v' w', w'.ownsRow base 5 1 v' (n + m) (vals (xs ++ news)) → w.grownBy w' v.ownBlock → wpList Tryd.prog ops Q rest (a.put o.dst v') w') : wpList Tryd.prog ops Q (o :: rest) a w := by
  obtain ⟨i0, hi, hz0, hz1, hz2⟩ := info_parts infoU8
  obtain ⟨h1, h2, h3, h4, h5⟩ := hr
  have e0 : m = 0 → news = [] := fun e => List.eq_nil_of_length_eq_zero (by omega)
  cases A with
  | none =>
    have hc := h4 rfl
    have hm : m = 0 := by omega
    subst hm; subst hc
    obtain rfl := e0 rfl
    refine wpList_append_own_none hgd s x 28 ho base 5 i0 1 Tryd.underlying28 hi v n (vals xs) hs hown hx ?_
    exact h v w (by simpa using hown) (World.grownBy.refl w _)
  | some ad =>
    refine wpList_append_own w hgd s x 28 ho base 5 i0 (.int .u8 0) 1 1 Tryd.underlying28 hi hz0 hz1 hz2 rfl (by decide) v n (vals xs) hs hown ad m c (vals news) hx (by simp [vals, h1]) (fun j u hu => ?_) (fun u hu => ?_) (by unfold maxLen; omega) (by omega) hbase ?_
    · obtain ⟨hj, rfl⟩ := vals_get hu
      obtain ⟨b, off, e, _, hc⟩ := h5 (by omega)
      cases e
      rw [← hc j hj]
      congr 1
      unfold Addr.add
      split <;> simp_all
    · obtain ⟨y, _, rfl⟩ := List.mem_map.1 hu
      rfl
    · intro v' w' h2 h3 _
      exact h v' w' (by rw [← vals_append]; exact h2) h3
/-- The same, for short lists. -/
theorem wpList_append_bsl {w : World} {ops : Array Oper} {rest : List Oper} {o : Oper} {a : Act} {Q : Exit → Act → World → Prop} (hgd : o.guard = none) (s x : Operand)
    (ho : o.op = .call { callee := .builtin .append, args := #[s, x], argTypes := #[28, 28] })
    (base : Nat) (v : Value) (n : Nat) (xs : List UInt8) (hs : a.eval s = v) (hown : w.ownsRow base 5 1 v n (vals xs))
    (B : Nat) (A : Option Addr) (m c : Nat) (news : List UInt8) (hx : a.eval x = .slice A m c) (hr : Bsl w B A m c news)
    (hnm : n + m ≤ 100000) (hbase : base ≤ w.heap.size)
    (h : ∀ v' w', w'.ownsRow base 5 1 v' (n + m) (vals (xs ++ news)) → w.grownBy w' v.ownBlock → wpList Tryd.prog ops Q rest (a.put o.dst v') w') : wpList Tryd.prog ops Q (o :: rest) a w :=
  wpList_append_big hgd s x ho base v n xs hs hown B A m c news hx hr (by omega) hbase h
theorem bsl_of_own {w : World} {base n : Nat} {v : Value} {s : List UInt8} (h : w.ownsRow base 5 1 v n (vals s)) (hn : 0 < n) :
    ∃ g cap, v = .slice (some ⟨g, 0, none⟩) n cap ∧ base ≤ g ∧ g < w.heap.size ∧ n ≤ cap ∧ cap ≤ maxLen ∧ s.length = n ∧ Holds w g s := by
  have hl : s.length = n := by have := h.1; simpa [vals] using this
  obtain ⟨h1, h2 | ⟨g, cap, cur, rfl, hb, hh, hnc, hcm, hsz, ht⟩⟩ := h
  · omega
  · refine ⟨g, cap, rfl, hb, (Array.getElem?_eq_some_iff.1 hh).1, hnc, hcm, hl, fun i hi => ?_⟩
    rw [cell_of_row w g i cur 5 (0, 0) hh]
    have : (vals s)[i]? = some (.int .u8 ((s[i]).toNat : Int)) := by simp [vals, hi]
    rw [← ht, List.getElem?_take_of_lt (by omega)] at this
    rw [← this, Array.getElem?_toList]
theorem Bsl.more {w : World} {B B' : Nat} {a : Option Addr} {len cap : Nat} {s : List UInt8} (h : Bsl w B a len cap s) (hB : B ≤ B') : Bsl w B' a len cap s := by
  obtain ⟨h1, h2, h3, h4, h5⟩ := h
  refine ⟨h1, h2, h3, h4, fun hl => ?_⟩
  obtain ⟨b, off, e, hlt, hc⟩ := h5 hl
  exact ⟨b, off, e, by omega, hc⟩
theorem Bsl.len_le {w : World} {B len cap : Nat} {a : Option Addr} {s : List UInt8} (h : Bsl w B a len cap s) : (len : Int) ≤ 9223372036854775807 := by have h1 := h.2.1; have h2 := h.2.2.1; unfold maxLen at h2; omega
/-- b[l:h], where it is not empty. -/
theorem slice_lh (W : World) (b off len cap l k : Nat) (hk : 0 < k) (hc : l + k ≤ cap) : (Instr.slice 28 (.slice (some ⟨b, off, none⟩) len cap) (some (.int .i64 (l : Int))) (some (.int .i64 ((l : Int) + k))) none).run Tryd.prog W = .ok (.slice (some ⟨b, off + l, none⟩) k (cap - l)) W := by
  have := Lib.run_slice_window (P := Tryd.prog) W 28 5 Tryd.underlying28 (fun _ => by kernel_rfl) b off len cap l (l + k) (by omega) hc
  rw [show ((l + k : Nat) : Int) = (l : Int) + k by omega, show l + k - l = k by omega] at this
  exact this
theorem win_length {s : List UInt8} {i k : Nat} (h : i + k ≤ s.length) : ((s.drop i).take k).length = k := by simp; omega
theorem conv_window {W : World} {b off cap i k : Nat} {s : List UInt8} (hc : ∀ i (h : i < s.length), W.cell? ⟨b, off + i, none⟩ = some (.int .u8 ((s[i]).toNat : Int))) (h : i + k ≤ s.length) :
    (convert 28 9 (.slice (some ⟨b, off + i, none⟩) k cap)).run Tryd.prog W = .ok (.string (strOf ((s.drop i).take k))) W :=
  conv_at W b (off + i) k cap _ (win_length h) fun j hj => by
    have hj' : j < k := by rw [win_length h] at hj; exact hj
    rw [Nat.add_assoc, hc (i + j) (by omega)]
    simp
end Go.Proofs.YtennhempdnpobaaDoor
