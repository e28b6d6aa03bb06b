/-
  Texts of one seat, one behind the other.
-/
import Derived.RangeFuncNested
import Derived.RangeFuncBox
import Derived.RangeFuncLeaves
import Derived.RangeFuncBound
import Derived.RangeFuncCalls
import Derived.Shelf.Abstract
import Derived.Shelf.RegionOpen
import Derived.WalkKit
import Derived.OwnWalkIn
import Derived.TacticsInMore
import Derived.LoopNIn
import Derived.LoopIn
import Derived.Outline
import Derived.Lib.Hide
import Derived.Lib.SlBytesRow
import Derived.Lib.QuoteBits
import Derived.WalkSpells
import Derived.Deep.QuietTactic
import Derived.BigQuiet
import Derived.Laws.Rows
import Derived.Laws.AppendOwnNone
import Derived.Test.YtldnelimemjaiaaGreatDoorProg
import Derived.Below
import Derived.Laws.OwnMore
import Derived.Deep.AppendLies
import Derived.Deep.Draws
import Derived.StillTailTactics
import Derived.Laws.BitsAllLaws
import Derived.Deep.MidRow
import Derived.CallsIn
import Derived.OrdersIn
import Derived.StillTail
import Derived.StillTactics
import Derived.TacticsIn
import Derived.Laws.StructEq
import Derived.Deep.RegionWith
import Derived.OwnWalk
import Derived.ProofKit
import Derived.OpenShut
import Derived.ShutString
import Derived.ChangeOld
import Derived.Test.YtldnelimemjaiaaGreatDoorRows
import Derived.Test.YtldnelimemjaiaaGreatDoorTie
import Derived.Test.YtldnelimemjaiaaGreatDoorCards
import Derived.Lib.SmallJoins
import Derived.Deep.Matrix
import Derived.Deep.SlicePairs
import Derived.LaidMore
import Derived.Stop.Joined
import Derived.SevenTiedAt
import Derived.Maps.OwnSet
import Derived.Maps.Views
import Derived.Carry
import Derived.Deep.Grids
import Derived.SizedLaws
/-
  Words for slices of bytes, of any program: what one reads as; the string made of it; a part of it; appends to a slice of one's own.
-/
namespace Go.Proofs.YtldnelimemjaiaaGreatDoor
open Go.RowKit Go.Shelf
set_option maxRecDepth 100000

/-- The cells of the block g hold the bytes s. -/
def Holds (W : World) (g : Nat) (s : List UInt8) : Prop := ∀ i (h : i < s.length), W.cell? ⟨g, i, none⟩ = some (.int .u8 ((s[i]).toNat : Int))
/-- string(b) of a slice whose cells hold s. -/
def strOf (s : List UInt8) : ByteArray := ⟨s.toArray⟩
theorem strOf_toList (s : List UInt8) : (strOf s).toList = s := by
  rw [ByteArray.toList_eq]; rfl
theorem conv_at (W : World) (g off len cap : Nat) (s : List UInt8) (hs : s.length = len) (hc : ∀ i (h : i < s.length), W.cell? ⟨g, off + i, none⟩ = some (.int .u8 ((s[i]).toNat : Int))) :
    (convert 45 9 (.slice (some ⟨g, off, none⟩) len cap)).run Tryz.prog W = .ok (.string (strOf s)) W := by
  rw [run_convert_bytes_arg (P := Tryz.prog) W 45 5 Tryz.underlying45 Tryz.underlying5 g off len cap (s.map fun x => (x.toNat : Int)) (by simpa using hs) (fun i hi => ?_) 9 Tryz.underlying9]
  · congr 2
    unfold strOfNums strOf
    have e : ((fun n : Int => UInt8.ofNat n.toNat) ∘ fun x : UInt8 => (x.toNat : Int)) = id := by funext x; simp
    rw [List.map_map, e, List.map_id]
  · rw [hc i (by omega)]
    simp [List.getD, hs, hi]
theorem Holds.below {B g : Nat} {W W' : World} {s : List UInt8} (h : Holds W g s) (hb : Below B W W') (hg : g < B) : Holds W' g s := fun i hi => (hb.cell (p := ⟨g, i, none⟩) hg).trans (h i hi)
theorem Holds.conv {W : World} {g cap : Nat} {s : List UInt8} (h : Holds W g s) {len : Nat} (hs : s.length = len) : (convert 45 9 (.slice (some ⟨g, 0, none⟩) len cap)).run Tryz.prog W = .ok (.string (strOf s)) W :=
  conv_at W g 0 len cap s hs fun i hi => by rw [Nat.zero_add]; exact h i hi
theorem wf_le {n : Int} (h : (Lit.int .i64 n).wf = true) : -9223372036854775808 ≤ n ∧ n ≤ 9223372036854775807 := by simpa [Lit.wf, IntKind.min, IntKind.max, IntKind.signed, IntKind.bits] using h
theorem Holds.left {W : World} {g : Nat} {s t : List UInt8} (h : Holds W g (s ++ t)) : Holds W g s := fun i hi => by
  have := h i (by simp; omega)
  rwa [List.getElem_append_left hi] at this
theorem Holds.drewN {W : World} {g : Nat} {s : List UInt8} (h : Holds W g s) (q : Nat) : Holds (W.drewN q) g s := fun i hi => by simpa using h i hi
theorem Holds.last {W : World} {g : Nat} {s : List UInt8} {x : UInt8} (h : Holds W g (s ++ [x])) : W.cell? ⟨g, s.length, none⟩ = some (.int .u8 (x.toNat : Int)) := by
  have := h s.length (by simp)
  simpa using this
theorem below_drewN {B : Nat} {a w : World} (h : Below B a w) (q : Nat) : Below B a (w.drewN q) := ⟨h.os, h.tape, h.output, h.size, h.block⟩
/-- b[:h]. -/
theorem slice_h (W : World) (g off len cap h : Nat) (hh : 0 < h) (hc : h ≤ cap) : (Instr.slice 45 (.slice (some ⟨g, off, none⟩) len cap) none (some (.int .i64 (h : Int))) none).run Tryz.prog W = .ok (.slice (some ⟨g, off, none⟩) h cap) W := by
  rw [run_slice_h W 45 _ _ _ (by kernel_rfl) .i64 _ (by omega) (by omega)]
  have hz : (Go.sizeOf (Tryz.prog.elem 45)).run Tryz.prog W = .ok 1 W := by kernel_rfl
  rw [hz]
  simp [Result.andThen, sliced, Addr.add] <;> omega
/-- The values of bytes. -/
def vals (s : List UInt8) : List Value := s.map fun x => .int .u8 (x.toNat : Int)
theorem vals_append (s t : List UInt8) : vals s ++ vals t = vals (s ++ t) := by simp [vals]
theorem vals_get {s : List UInt8} {j : Nat} {u : Value} (h : (vals s)[j]? = some u) : ∃ hj : j < s.length, u = .int .u8 ((s[j]).toNat : Int) := by
  rw [vals, List.getElem?_map] at h
  rcases Nat.lt_or_ge j s.length with hj | hj
  · rw [List.getElem?_eq_getElem hj] at h
    exact ⟨hj, (Option.some.inj h).symm⟩
  · rw [List.getElem?_eq_none hj] at h; cases h
/-- A slice of bytes that lies below block B reads as s. -/
def Bsl (w : World) (B : Nat) (a : Option Addr) (len cap : Nat) (s : List UInt8) : Prop :=
  s.length = len ∧ len ≤ cap ∧ cap ≤ maxLen ∧ (a = none → cap = 0) ∧
    (0 < len → ∃ b off, a = some ⟨b, off, none⟩ ∧ b < B ∧ ∀ i (h : i < s.length), w.cell? ⟨b, off + i, none⟩ = some (.int .u8 ((s[i]).toNat : Int)))
theorem Bsl.below {w w' : World} {B : Nat} {a : Option Addr} {len cap : Nat} {s : List UInt8} (h : Bsl w B a len cap s) (hb : Below B w w') : Bsl w' B a len cap s := by
  obtain ⟨h1, h2, h3, h4, h5⟩ := h
  refine ⟨h1, h2, h3, h4, fun hl => ?_⟩
  obtain ⟨b, off, e, hlt, hc⟩ := h5 hl
  exact ⟨b, off, e, hlt, fun i hi => (hb.cell (p := ⟨b, off + i, none⟩) hlt).trans (hc i hi)⟩
theorem infoU8 : (Tryz.prog.info? 5).map (fun i => (i.zero, i.size, i.bytes)) = some (some (.int .u8 0), 1, 1) := by kernel_rfl
theorem wpList_append_big {w : World} {ops : Array Oper} {rest : List Oper} {o : Oper} {a : Act} {Q : Exit → Act → World → Prop} (hgd : o.guard = none) (s x : Operand)
    (ho : o.op = .call { callee := .builtin .append, args := #[s, x], argTypes := #[45, 45] })
    (base : Nat) (v : Value) (n : Nat) (xs : List UInt8) (hs : a.eval s = v) (hown : w.ownsRow base 5 1 v n (vals xs))
    (B : Nat) (A : Option Addr) (m c : Nat) (news : List UInt8) (hx : a.eval x = .slice A m c) (hr : Bsl w B A m c news)
    (hnm : n + m ≤ 100000000000000) (hbase : base ≤ w.heap.size)
    (h : ∀ v' w', w'.ownsRow base 5 1 v' (n + m) (vals (xs ++ news)) → w.grownBy w' v.ownBlock → wpList Tryz.prog ops Q rest (a.put o.dst v') w') : wpList Tryz.prog ops Q (o :: rest) a w := by
  obtain ⟨i0, hi, hz0, hz1, hz2⟩ := info_parts infoU8
  obtain ⟨h1, h2, h3, h4, h5⟩ := hr
  have e0 : m = 0 → news = [] := fun e => List.eq_nil_of_length_eq_zero (by omega)
  cases A with
  | none =>
    have hc := h4 rfl
    have hm : m = 0 := by omega
    subst hm; subst hc
    obtain rfl := e0 rfl
    refine wpList_append_own_none hgd s x 45 ho base 5 i0 1 Tryz.underlying45 hi v n (vals xs) hs hown hx ?_
    exact h v w (by simpa using hown) (World.grownBy.refl w _)
  | some ad =>
    refine wpList_append_own w hgd s x 45 ho base 5 i0 (.int .u8 0) 1 1 Tryz.underlying45 hi hz0 hz1 hz2 rfl (by decide) v n (vals xs) hs hown ad m c (vals news) hx (by simp [vals, h1]) (fun j u hu => ?_) (fun u hu => ?_) (by unfold maxLen; omega) (by omega) hbase ?_
    · obtain ⟨hj, rfl⟩ := vals_get hu
      obtain ⟨b, off, e, _, hc⟩ := h5 (by omega)
      cases e
      rw [← hc j hj]
      congr 1
      unfold Addr.add
      split <;> simp_all
    · obtain ⟨y, _, rfl⟩ := List.mem_map.1 hu
      rfl
    · intro v' w' h2 h3 _
      exact h v' w' (by rw [← vals_append]; exact h2) h3
/-- The same, for short lists. -/
theorem wpList_append_bsl {w : World} {ops : Array Oper} {rest : List Oper} {o : Oper} {a : Act} {Q : Exit → Act → World → Prop} (hgd : o.guard = none) (s x : Operand)
    (ho : o.op = .call { callee := .builtin .append, args := #[s, x], argTypes := #[45, 45] })
    (base : Nat) (v : Value) (n : Nat) (xs : List UInt8) (hs : a.eval s = v) (hown : w.ownsRow base 5 1 v n (vals xs))
    (B : Nat) (A : Option Addr) (m c : Nat) (news : List UInt8) (hx : a.eval x = .slice A m c) (hr : Bsl w B A m c news)
    (hnm : n + m ≤ 100000) (hbase : base ≤ w.heap.size)
    (h : ∀ v' w', w'.ownsRow base 5 1 v' (n + m) (vals (xs ++ news)) → w.grownBy w' v.ownBlock → wpList Tryz.prog ops Q rest (a.put o.dst v') w') : wpList Tryz.prog ops Q (o :: rest) a w :=
  wpList_append_big hgd s x ho base v n xs hs hown B A m c news hx hr (by omega) hbase h
theorem bsl_of_own {w : World} {base n : Nat} {v : Value} {s : List UInt8} (h : w.ownsRow base 5 1 v n (vals s)) (hn : 0 < n) :
    ∃ g cap, v = .slice (some ⟨g, 0, none⟩) n cap ∧ base ≤ g ∧ g < w.heap.size ∧ n ≤ cap ∧ cap ≤ maxLen ∧ s.length = n ∧ Holds w g s := by
  have hl : s.length = n := by have := h.1; simpa [vals] using this
  obtain ⟨h1, h2 | ⟨g, cap, cur, rfl, hb, hh, hnc, hcm, hsz, ht⟩⟩ := h
  · omega
  · refine ⟨g, cap, rfl, hb, (Array.getElem?_eq_some_iff.1 hh).1, hnc, hcm, hl, fun i hi => ?_⟩
    rw [cell_of_row w g i cur 5 (0, 0) hh]
    have : (vals s)[i]? = some (.int .u8 ((s[i]).toNat : Int)) := by simp [vals, hi]
    rw [← ht, List.getElem?_take_of_lt (by omega)] at this
    rw [← this, Array.getElem?_toList]
theorem Bsl.more {w : World} {B B' : Nat} {a : Option Addr} {len cap : Nat} {s : List UInt8} (h : Bsl w B a len cap s) (hB : B ≤ B') : Bsl w B' a len cap s := by
  obtain ⟨h1, h2, h3, h4, h5⟩ := h
  refine ⟨h1, h2, h3, h4, fun hl => ?_⟩
  obtain ⟨b, off, e, hlt, hc⟩ := h5 hl
  exact ⟨b, off, e, by omega, hc⟩
/-- b[l:h], where it is not empty. -/
theorem slice_lh (W : World) (b off len cap l k : Nat) (hk : 0 < k) (hc : l + k ≤ cap) : (Instr.slice 45 (.slice (some ⟨b, off, none⟩) len cap) (some (.int .i64 (l : Int))) (some (.int .i64 ((l : Int) + k))) none).run Tryz.prog W = .ok (.slice (some ⟨b, off + l, none⟩) k (cap - l)) W := by
  have := Lib.run_slice_window (P := Tryz.prog) W 45 5 Tryz.underlying45 (fun _ => by kernel_rfl) b off len cap l (l + k) (by omega) hc
  rw [show ((l + k : Nat) : Int) = (l : Int) + k by omega, show l + k - l = k by omega] at this
  exact this
theorem win_length {s : List UInt8} {i k : Nat} (h : i + k ≤ s.length) : ((s.drop i).take k).length = k := by simp; omega
theorem conv_window {W : World} {b off cap i k : Nat} {s : List UInt8} (hc : ∀ i (h : i < s.length), W.cell? ⟨b, off + i, none⟩ = some (.int .u8 ((s[i]).toNat : Int))) (h : i + k ≤ s.length) :
    (convert 45 9 (.slice (some ⟨b, off + i, none⟩) k cap)).run Tryz.prog W = .ok (.string (strOf ((s.drop i).take k))) W :=
  conv_at W b (off + i) k cap _ (win_length h) fun j hj => by
    have hj' : j < k := by rw [win_length h] at hj; exact hj
    rw [Nat.add_assoc, hc (i + j) (by omega)]
    simp
end Go.Proofs.YtldnelimemjaiaaGreatDoor
/-
  Words for memory: a block that is known whole; draws, new blocks and stores beside it.
-/
namespace Go.Proofs.YtldnelimemjaiaaGreatDoor
open Go.RowKit Go.Shelf
set_option maxRecDepth 100000

/-- Block g is just the cells cs of element type t, none frozen. -/
def Blk (w : World) (g : Nat) (t : TypeId) (cs : Array Value) : Prop := w.heap[g]? = some (.cells cs t (0, 0))
section
variable {w w' : World} {g : Nat} {t : TypeId} {cs : Array Value}
theorem Blk.lt (h : Blk w g t cs) : g < w.heap.size := by
  rcases Nat.lt_or_ge g w.heap.size with hlt | hge
  · exact hlt
  · unfold Blk at h; rw [Array.getElem?_eq_none hge] at h; cases h
theorem Blk.cell (h : Blk w g t cs) (i : Nat) : w.cell? ⟨g, i, none⟩ = cs[i]? := cell_of_row w g i cs t (0, 0) h
theorem Blk.frozen (h : Blk w g t cs) (i : Nat) : w.frozen? ⟨g, i, none⟩ = false := by
  unfold Blk at h
  simp [World.frozen?, h]
theorem Blk.new (w : World) (t : TypeId) (cs : Array Value) : Blk (w.alloc (.cells cs t)) w.heap.size t cs := heap_alloc_new w _
theorem Blk.drew (h : Blk w g t cs) : Blk w.drew g t cs := h
theorem Blk.drewN (h : Blk w g t cs) (n : Nat) : Blk (w.drewN n) g t cs := h
theorem Blk.alloc (h : Blk w g t cs) (o : Obj) : Blk (w.alloc o) g t cs := (Below.heap_alloc w o g h.lt).trans h
theorem Blk.set_ (h : Blk w g t cs) (i : Nat) (u : Value) : Blk (w.setCell ⟨g, i, none⟩ u) g t (cs.setIfInBounds i u) := by
  unfold Blk at h ⊢
  simp [World.setCell, Array.getElem?_modify, h]
theorem Blk.far (h : Blk w g t cs) {p : Addr} (hp : g ≠ p.block) (u : Value) : Blk (w.setCell p u) g t cs := (Below.heap_setCell w p u g hp).trans h
theorem Blk.below {B : Nat} (h : Blk w g t cs) (hb : Below B w w') (hg : g < B) : Blk w' g t cs := (hb.block g hg).trans h
theorem Blk.grown {row : Option Nat} (h : Blk w g t cs) (hb : w.grownBy w' row) (hg : some g ≠ row) : Blk w' g t cs := (hb.block g h.lt hg).trans h
end
/-- Only block g, and what is new, has turned. -/
theorem only_drew {a w : World} {row : Option Nat} (h : a.grownBy w row) : a.grownBy w.drew row := ⟨h.os, h.tape, h.output, h.size, h.block⟩
theorem only_alloc {a w : World} {row : Option Nat} (h : a.grownBy w row) (o : Obj) : a.grownBy (w.alloc o) row :=
  ⟨h.os, h.tape, h.output, Nat.le_trans h.size (by simp), fun i hi hne => (Below.heap_alloc w o i (Nat.lt_of_lt_of_le hi h.size)).trans (h.block i hi hne)⟩
theorem only_setCell {a w : World} {g : Nat} (h : a.grownBy w (some g)) {p : Addr} (hp : p.block = g ∨ a.heap.size ≤ p.block) (u : Value) : a.grownBy (w.setCell p u) (some g) :=
  ⟨h.os, h.tape, h.output, by simpa [World.setCell] using h.size, fun i hi hne => (Below.heap_setCell w p u i (by
    rintro rfl
    rcases hp with hp | hp
    · exact hne (by rw [hp])
    · omega)).trans (h.block i hi hne)⟩
theorem only_below {a w w1 : World} {g : Nat} (h : a.grownBy w (some g)) (hb : Below w.heap.size w w1) : a.grownBy w1 (some g) :=
  ⟨hb.os.trans h.os, hb.tape.trans h.tape, hb.output.trans h.output, Nat.le_trans h.size hb.size, fun i hi hn => (hb.block i (Nat.lt_of_lt_of_le hi h.size)).trans (h.block i hi hn)⟩
theorem below_only {B : Nat} {a w w1 : World} {g : Nat} (h : Below B a w) (hg : B ≤ g) (hb : w.grownBy w1 (some g)) (hB : B ≤ w.heap.size) : Below B a w1 :=
  ⟨hb.os.trans h.os, hb.tape.trans h.tape, hb.output.trans h.output, Nat.le_trans h.size hb.size, fun i hi => (hb.block i (Nat.lt_of_lt_of_le hi hB) (fun e => by injection e; omega)).trans (h.block i hi)⟩

theorem Blk.set4 {w : World} {g : Nat} {t : TypeId} {u0 u1 u2 u3 : Value} (h : Blk w g t #[u0, u1, u2, u3]) (v0 v1 v2 v3 : Value) :
    Blk ((((w.setCell ⟨g, 0, none⟩ v0).setCell ⟨g, 1, none⟩ v1).setCell ⟨g, 2, none⟩ v2).setCell ⟨g, 3, none⟩ v3) g t #[v0, v1, v2, v3] := (((h.set_ 0 v0).set_ 1 v1).set_ 2 v2).set_ 3 v3
theorem below_set4 {B : Nat} {a w : World} {g : Nat} (h : Below B a w) (hg : B ≤ g) (v0 v1 v2 v3 : Value) :
    Below B a ((((w.setCell ⟨g, 0, none⟩ v0).setCell ⟨g, 1, none⟩ v1).setCell ⟨g, 2, none⟩ v2).setCell ⟨g, 3, none⟩ v3) :=
  (((h.setCell (p := ⟨g, 0, none⟩) hg v0).setCell (p := ⟨g, 1, none⟩) hg v1).setCell (p := ⟨g, 2, none⟩) hg v2).setCell (p := ⟨g, 3, none⟩) hg v3
theorem only_set4 {a w : World} {g : Nat} (h : a.grownBy w (some g)) (v0 v1 v2 v3 : Value) :
    a.grownBy ((((w.setCell ⟨g, 0, none⟩ v0).setCell ⟨g, 1, none⟩ v1).setCell ⟨g, 2, none⟩ v2).setCell ⟨g, 3, none⟩ v3) (some g) :=
  only_setCell (only_setCell (only_setCell (only_setCell h (.inl rfl) v0) (.inl rfl) v1) (.inl rfl) v2) (.inl rfl) v3

/-- A region that reads, calls quietly, and ends in one forced order, drawn over all orders: in the world drew, under a name. -/
theorem region_tail {P : Program} {Q : Exit → Act → World → Prop} {id : Nat} {a : Act} {w w1 : World} {l : List Oper} (n : Nat) (hm : P.follows .mixedOrders = true) (hB : Region.lexTailB .any l.toArray n = true) (hw : w.drew = w1)
    (h : wpStill P l.toArray w1 (fun a' => wpList P l.toArray Q (l.drop n) a' w1) (l.take n) a) : (Code.region id l.toArray true).wp P Q a w := by
  subst hw
  exact wp_region_still_tail n hm hB h
end Go.Proofs.YtldnelimemjaiaaGreatDoor
/-
  Words for rows of the call's own and for lists of bytes, of any program: what goes on being read beside what is written; parts of a list; exclusive or of two bytes.
-/
namespace Go.Proofs.YtldnelimemjaiaaGreatDoor
open Go.RowKit Go.Shelf
set_option maxRecDepth 100000

theorem own_below {base : Nat} {e : TypeId} {size : Nat} {v : Value} {n : Nat} {xs : List Value} {w w' : World} (h : w.ownsRow base e size v n xs) (hb : Below w.heap.size w w') : w'.ownsRow base e size v n xs :=
  h.kept (row := none) ⟨hb.os, hb.tape, hb.output, hb.size, fun i hi _ => hb.block i hi⟩ (by cases hv : v.ownBlock <;> simp)
theorem bsl_of_holds {w : World} {g n cap : Nat} {s : List UInt8} (hs : s.length = n) (h1 : n ≤ cap) (h2 : cap ≤ maxLen) (hg : g < w.heap.size) (h : Holds w g s) : Bsl w w.heap.size (some ⟨g, 0, none⟩) n cap s :=
  ⟨hs, h1, h2, fun e => (by cases e), fun _ => ⟨g, 0, rfl, hg, fun i hi => by rw [Nat.zero_add]; exact h i hi⟩⟩
/-- A new list that holds s. -/
def NewL (n : Nat) (s : List UInt8) (w : World) (e : Ending) (w' : World) : Prop :=
  ∃ g cap, e = .returned (.slice (some ⟨g, 0, none⟩) n cap) ∧ w.heap.size ≤ g ∧ Bsl w' w'.heap.size (some ⟨g, 0, none⟩) n cap s ∧ Below w.heap.size w w'
/-- An append to a slice of the call's own writes nothing below the call. -/
theorem app_below {base n : Nat} {e : TypeId} {size : Nat} {v : Value} {xs : List Value} {w W W' : World} (hb : Below base w W) (ho : W.ownsRow base e size v n xs) (hg : W.grownBy W' v.ownBlock) (hs : base ≤ W.heap.size) : Below base w W' :=
  hb.grown hg hs (fun _ h => (ho.lt _ h).1)
theorem own_nil (w : World) (B : Nat) : w.ownsRow B 5 1 (.slice none 0 0) 0 (vals []) := World.ownsRow_nil _ _ _ _
theorem own_empty (w : World) : (w.alloc (.cells #[] 5)).ownsRow w.heap.size 5 1 (.slice (some ⟨w.heap.size, 0, none⟩) 0 0) 0 (vals []) :=
  ⟨rfl, .inr ⟨w.heap.size, 0, #[], rfl, Nat.le_refl _, heap_alloc_new w _, Nat.le_refl _, by unfold maxLen; omega, rfl, rfl⟩⟩
theorem Bsl.step {w w' : World} {a : Option Addr} {len cap : Nat} {s : List UInt8} (h : Bsl w w.heap.size a len cap s) (hb : Below w.heap.size w w') : Bsl w' w'.heap.size a len cap s := (h.below hb).more hb.size
theorem Bsl.beside {w w' : World} {b off len cap g : Nat} {s : List UInt8} (h : Bsl w w.heap.size (some ⟨b, off, none⟩) len cap s) (hg : w.grownBy w' (some g)) (hne : b ≠ g) : Bsl w' w'.heap.size (some ⟨b, off, none⟩) len cap s := by
  obtain ⟨h1, h2, h3, h4, h5⟩ := h
  refine ⟨h1, h2, h3, h4, fun hl => ?_⟩
  obtain ⟨b', off', e, hlt, hc⟩ := h5 hl
  cases e
  refine ⟨b, off, rfl, Nat.lt_of_lt_of_le hlt hg.size, fun i hi => ?_⟩
  rw [← hc i hi]
  exact World.cell?_of_block (a := ⟨b, off + i, none⟩) (hg.block b hlt (fun e => hne (Option.some.inj e)))
theorem bsl_one (w : World) (g : Nat) (x : UInt8) (h : Blk w g 5 #[.int .u8 (x.toNat : Int)]) (hg : g < w.heap.size) : Bsl w w.heap.size (some ⟨g, 0, none⟩) 1 1 [x] :=
  ⟨rfl, Nat.le_refl _, by unfold maxLen; omega, fun e => (by cases e), fun _ => ⟨g, 0, rfl, hg, fun i hi => by
    have : i = 0 := by simpa using hi
    subst this
    exact h.cell 0⟩⟩
/-- Behind a new byte: the byte's own slice. -/
theorem one_bsl (w : World) (x : UInt8) : Bsl (w.alloc (.cells #[.int .u8 (x.toNat : Int)] 5)) (w.alloc (.cells #[.int .u8 (x.toNat : Int)] 5)).heap.size (some ⟨w.heap.size, 0, none⟩) 1 1 [x] :=
  bsl_one _ _ x (Blk.new w _ _) (by simp)
/-- The cells of an array of bytes. -/
def ar (s : List UInt8) : Array Value := (vals s).toArray
theorem ar_size (s : List UInt8) : (ar s).size = s.length := by simp [ar, vals]
theorem ar_get (s : List UInt8) (i : Nat) (h : i < s.length) : (ar s)[i]? = some (.int .u8 ((s[i]).toNat : Int)) := by simp [ar, vals, h]
/-- The first bytes of a list; a part of it. -/
theorem Bsl.pre {w : World} {B len cap : Nat} {a : Option Addr} {s : List UInt8} (h : Bsl w B a len cap s) (k : Nat) (hk : k ≤ len) : Bsl w B a k cap (s.take k) := by
  obtain ⟨h1, h2, h3, h4, h5⟩ := h
  refine ⟨by simp; omega, by omega, h3, h4, fun h0 => ?_⟩
  obtain ⟨b, off, e, hb, hc⟩ := h5 (by omega)
  refine ⟨b, off, e, hb, fun i hi => ?_⟩
  have hi' : i < s.length := by simp at hi; omega
  rw [hc i hi', List.getElem_take]
theorem Bsl.win {w : World} {B b off len cap : Nat} {s : List UInt8} (h : Bsl w B (some ⟨b, off, none⟩) len cap s) (l k : Nat) (hk : l + k ≤ len) : Bsl w B (some ⟨b, off + l, none⟩) k (cap - l) ((s.drop l).take k) := by
  obtain ⟨h1, h2, h3, h4, h5⟩ := h
  refine ⟨by simp; omega, by omega, by omega, fun e => (by cases e), fun h0 => ?_⟩
  obtain ⟨b', off', e, hb, hc⟩ := h5 (by omega)
  cases e
  refine ⟨b, off + l, rfl, hb, fun i hi => ?_⟩
  have hi' : l + i < s.length := by simp at hi; omega
  rw [Nat.add_assoc, hc (l + i) hi', List.getElem_take, List.getElem_drop]
/-- The first n bytes of k turned by m. -/
def xorTo (k m : List UInt8) : Nat → List UInt8
  | 0 => k
  | n + 1 => (xorTo k m n).set n (k.getD n 0 ^^^ m.getD n 0)
theorem xorTo_length (k m : List UInt8) : ∀ n, (xorTo k m n).length = k.length
  | 0 => rfl
  | n + 1 => by rw [xorTo, List.length_set, xorTo_length k m n]
theorem xorTo_get (k m : List UInt8) : ∀ (n i : Nat), i < k.length → (xorTo k m n).getD i 0 = if i < n then k.getD i 0 ^^^ m.getD i 0 else k.getD i 0
  | 0, i, _ => by simp [xorTo]
  | n + 1, i, hi => by
    have ih := xorTo_get k m n i hi
    have hl : i < (xorTo k m n).length := by rw [xorTo_length]; exact hi
    rw [xorTo, List.getD_eq_getElem?_getD, List.getElem?_set]
    by_cases e : n = i
    · subst e
      rw [if_pos rfl, if_pos hl, if_pos (show n < n + 1 by omega)]
      rfl
    · rw [if_neg e, ← List.getD_eq_getElem?_getD, ih]
      by_cases h : i < n
      · rw [if_pos h, if_pos (by omega)]
      · rw [if_neg h, if_neg (by omega)]
theorem xor8 (x y : UInt8) : bits .xor .u8 (x.toNat : Int) (y.toNat : Int) = ((x ^^^ y).toNat : Int) := by
  rw [u8_xor_nat _ _ x.toNat_lt y.toNat_lt, UInt8.toNat_xor]
theorem Bsl.cellD {w : World} {B g off len cap : Nat} {s : List UInt8} (h : Bsl w B (some ⟨g, off, none⟩) len cap s) (i : Nat) (hi : i < len) : w.cell? ⟨g, off + i, none⟩ = some (.int .u8 ((s.getD i 0).toNat : Int)) := by
  obtain ⟨b, o, e, _, hc⟩ := h.2.2.2.2 (by omega)
  cases e
  have hl : i < s.length := by rw [h.1]; exact hi
  rw [hc i hl, List.getD_eq_getElem?_getD, List.getElem?_eq_getElem hl]
  rfl
theorem bsl_noughts (n : Nat) (hn : n ≤ 1000) (w : World) : Bsl (w.alloc (.cells (Array.replicate n (.int .u8 0)) 5)) (w.alloc (.cells (Array.replicate n (.int .u8 0)) 5)).heap.size (some ⟨w.heap.size, 0, none⟩) n n (List.replicate n 0) := by
  refine bsl_of_holds (by simp) (Nat.le_refl _) (by unfold maxLen; omega) (Blk.new w 5 _).lt fun i hi => ?_
  have hi' : i < n := by simpa using hi
  rw [(Blk.new w 5 (Array.replicate n (.int .u8 0))).cell i]
  simp [hi']
theorem Blk.bsl {w : World} {g t n : Nat} {s : List UInt8} (h : Blk w g t (ar s)) (hs : s.length = n) (hn : n ≤ 1000) : Bsl w w.heap.size (some ⟨g, 0, none⟩) n n s :=
  bsl_of_holds hs (Nat.le_refl _) (by unfold maxLen; omega) h.lt fun i hi => by rw [h.cell i, ar_get s i hi]
theorem Bsl.range {w : World} {B g off len cap : Nat} {s : List UInt8} (h : Bsl w B (some ⟨g, off, none⟩) len cap s) (h0 : 0 < len) : w.rangeAt g off (vals s) := fun j v hv => by
  obtain ⟨hj, rfl⟩ := vals_get hv
  obtain ⟨b, o, e, _, hc⟩ := h.2.2.2.2 h0
  cases e
  exact hc j hj
theorem Blk.setRow {w : World} {g t : Nat} {old cs : Array Value} (h : Blk w g t old) : Blk (w.setRow g cs) g t cs := setRow_heap w g old cs t (0, 0) h
theorem own_slice {w : World} {B n : Nat} {v : Value} {xs : List Value} (h : w.ownsRow B 5 1 v n xs) : ∃ a cap, v = .slice a n cap := by
  rcases h.2 with ⟨rfl, h0⟩ | ⟨g, cap, cur, rfl, _⟩
  · exact ⟨none, 0, by rw [h0]⟩
  · exact ⟨_, _, rfl⟩
theorem own_bsl {w : World} {B n cap : Nat} {a : Option Addr} {s : List UInt8} (h : w.ownsRow B 5 1 (.slice a n cap) n (vals s)) : Bsl w w.heap.size a n cap s := by
  have hl : s.length = n := by have := h.1; simpa [vals] using this
  obtain ⟨h1, ⟨h2, h3⟩ | ⟨g, cap', cur, h2, hb, hh, hnc, hcm, hsz, ht⟩⟩ := h
  · cases h2
    exact ⟨hl, Nat.le_refl _, Nat.zero_le _, fun _ => rfl, fun h => absurd h (by omega)⟩
  · cases h2
    refine ⟨hl, hnc, hcm, fun e => (by cases e), fun _ => ⟨g, 0, rfl, (Array.getElem?_eq_some_iff.1 hh).1, fun i hi => ?_⟩⟩
    rw [Nat.zero_add, cell_of_row w g i cur 5 (0, 0) hh]
    have : (vals s)[i]? = some (.int .u8 ((s[i]).toNat : Int)) := by simp [vals, hi]
    rw [← ht, List.getElem?_take_of_lt (by omega)] at this
    rw [← this, Array.getElem?_toList]
/-- A list of the call's own. -/
def OwnV (n : Nat) (s : List UInt8) (w : World) (e : Ending) (w' : World) : Prop := ∃ v, e = .returned v ∧ w'.ownsRow w.heap.size 5 1 v n (vals s) ∧ Below w.heap.size w w'
theorem own_to {w : World} {B n : Nat} {v : Value} {s : List UInt8} (h : w.ownsRow B 5 1 v n (vals s)) : ∃ a cap, v = .slice a n cap ∧ Bsl w w.heap.size a n cap s := by
  obtain ⟨a, cap, rfl⟩ := own_slice h
  exact ⟨a, cap, rfl, own_bsl h⟩
theorem own_mono {w : World} {B B' : Nat} {e : TypeId} {size : Nat} {v : Value} {n : Nat} {xs : List Value} (h : w.ownsRow B e size v n xs) (hB : B' ≤ B) : w.ownsRow B' e size v n xs :=
  ⟨h.1, h.2.imp id fun ⟨g, cap, cur, h1, h2, h3⟩ => ⟨g, cap, cur, h1, Nat.le_trans hB h2, h3⟩⟩
theorem own_other {w w' : World} {B g : Nat} {e : TypeId} {size : Nat} {v : Value} {n : Nat} {xs : List Value} (h : w.ownsRow B e size v n xs) (hg : w.grownBy w' (some g)) (hne : ∀ k, v.ownBlock = some k → k ≠ g) : w'.ownsRow B e size v n xs :=
  h.kept hg (by
    cases hv : v.ownBlock with
    | none => exact .inl rfl
    | some k => exact .inr fun e => hne k hv (Option.some.inj e))
/-- A cell of a row of one's own. -/
theorem own_cell {w : World} {B g n cap : Nat} {e : TypeId} {xs : List Value} (h : w.ownsRow B e 1 (.slice (some ⟨g, 0, none⟩) n cap) n xs) (i : Nat) (hi : i < n) : w.cell? ⟨g, i, none⟩ = some (xs.getD i undef) := by
  obtain ⟨h1, ⟨h2, h3⟩ | ⟨g', cap', cur, h2, hb, hh, hnc, hcm, hsz, ht⟩⟩ := h
  · cases h2
  · cases h2
    have hl : i < xs.length := by rw [h1]; omega
    rw [cell_of_row w g i cur e (0, 0) hh, List.getD_eq_getElem?_getD, List.getElem?_eq_getElem hl, ← Array.getElem?_toList]
    have : cur.toList[i]? = xs[i]? := by rw [← ht, List.getElem?_take_of_lt (by omega)]
    rw [this, List.getElem?_eq_getElem hl]
    rfl
theorem own_lt {w : World} {B g n cap : Nat} {e : TypeId} {xs : List Value} (h : w.ownsRow B e 1 (.slice (some ⟨g, 0, none⟩) n cap) n xs) : B ≤ g ∧ g < w.heap.size := h.lt g rfl
theorem own_room {w : World} {B g n cap : Nat} {e : TypeId} {xs : List Value} (h : w.ownsRow B e 1 (.slice (some ⟨g, 0, none⟩) n cap) n xs) : n ≤ cap ∧ cap ≤ maxLen := by
  obtain ⟨h1, ⟨h2, h3⟩ | ⟨g', cap', cur, h2, hb, hh, hnc, hcm, hsz, ht⟩⟩ := h
  · cases h2
  · cases h2
    exact ⟨hnc, hcm⟩
theorem blk_kept {w w' : World} {b : Nat} {t : TypeId} {cs : Array Value} {row : Option Nat} (h : Blk w b t cs) (hg : w.grownBy w' row) (hk : ∀ r, row = some r → ∃ o : Obj, w.heap[r]? = some o ∧ o.isCells = false) : Blk w' b t cs :=
  h.grown hg (fun e' => by obtain ⟨o, ho, hc⟩ := hk b e'.symm; rw [show w.heap[b]? = _ from h] at ho; cases ho; cases hc)
theorem own_kept {w w' : World} {B g n cap : Nat} {e : TypeId} {xs : List Value} {row : Option Nat} (h : w.ownsRow B e 1 (.slice (some ⟨g, 0, none⟩) n cap) n xs) (hg : w.grownBy w' row) (hk : ∀ r, row = some r → ∃ o : Obj, w.heap[r]? = some o ∧ o.isCells = false) : w'.ownsRow B e 1 (.slice (some ⟨g, 0, none⟩) n cap) n xs := by
  refine h.kept hg (.inr fun er => ?_)
  obtain ⟨o, ho, hc⟩ := hk g (by simpa [Value.ownBlock] using er.symm)
  obtain ⟨h1, ⟨h2, h3⟩ | ⟨g', cap', cur, h2, hb, hh, _⟩⟩ := h
  · cases h2
  · cases h2
    rw [hh] at ho; cases ho; cases hc
theorem own_blk {w : World} {B g n cap : Nat} {e : TypeId} {xs : List Value} (h : w.ownsRow B e 1 (.slice (some ⟨g, 0, none⟩) n cap) n xs) : ∃ cs, Blk w g e cs := by
  obtain ⟨h1, ⟨h2, h3⟩ | ⟨g', cap', cur, h2, hb, hh, _⟩⟩ := h
  · cases h2
  · cases h2
    exact ⟨_, hh⟩
theorem keepsOthers_grown {W W' : World} {g : Nat} {t : TypeId} {cs : Array Value} (h : W.grownBy W' (some g)) (hb : Blk W g t cs) : KeepsOthers W W' :=
  ⟨h.size, fun k o hk ho => (h.block k (Array.getElem?_eq_some_iff.1 hk).1 (fun e => by
    obtain rfl : k = g := Option.some.inj e
    rw [show W.heap[k]? = _ from hb] at hk
    cases hk
    cases ho)).trans hk⟩
theorem only_two (w : World) (g : Nat) (u v : Value) : w.grownBy ((w.setCell ⟨g, 0, none⟩ u).setCell ⟨g, 1, none⟩ v) (some g) :=
  only_setCell (p := ⟨g, 1, none⟩) (only_setCell (p := ⟨g, 0, none⟩) (World.grownBy.refl w (some g)) (.inl rfl) u) (.inl rfl) v
theorem below_alloc3' (w : World) (o1 o2 o3 : Obj) : Below w.heap.size w (((w.alloc o1).alloc o2).alloc o3) := (((Below.refl _ w).alloc (Nat.le_refl _) _).alloc (by simp) _).alloc (by simp; omega) _
end Go.Proofs.YtldnelimemjaiaaGreatDoor
/-
  slices.Backward over a slice of bytes hands its places and bytes to the loop from behind, whatever the loop does that keeps the slice readable; code.isSize and code.fits answer as the chapter asks.
-/
namespace Go.Proofs.YtldnelimemjaiaaGreatDoor
open Go.RowKit Go.Shelf
set_option maxRecDepth 100000
attribute [local go_sem] Oper.semAt_some

theorem isSize_yes (s : Int) (h1 : 1 ≤ s) (h2 : s ≤ 4) (w : World) : Calls Tryz.prog 90 #[.int .i64 s] w fun e w' => e = .returned (.bool true) ∧ w = w' := by
  go_enter Tryz.func90, Tryz.ntmps90
  go_wp2
  go_ret
  exact ⟨rfl, rfl⟩
theorem isSize_no (s : Int) (h : s < 1 ∨ 4 < s) (w : World) : Calls Tryz.prog 90 #[.int .i64 s] w fun e w' => e = .returned (.bool false) ∧ w = w' := by
  rcases h with h | h
  · go_enter Tryz.func90, Tryz.ntmps90
    go_wp2
    go_ret
    exact ⟨rfl, rfl⟩
  · have h0 : 1 ≤ s := by omega
    have h3 : ¬ s ≤ 4 := by omega
    go_enter Tryz.func90, Tryz.ntmps90
    go_wp2
    go_ret
    exact ⟨rfl, rfl⟩
theorem fits_neg (n s : Int) (h : n < 0) (w : World) : Calls Tryz.prog 91 #[.int .i64 n, .int .i64 s] w fun e w' => e = .returned (.bool false) ∧ w = w' := by
  go_enter Tryz.func91, Tryz.ntmps91
  go_wp2
  go_ret
  exact ⟨rfl, rfl⟩
theorem fits_yes (n k : Nat) (hm : n < 256 ^ k) (h1 : 1 ≤ k) (h2 : k ≤ 4) (w : World) : Calls Tryz.prog 91 #[.int .i64 n, .int .i64 k] w fun e w' => e = .returned (.bool true) ∧ w = w' := by
  have hs : k = 1 ∨ k = 2 ∨ k = 3 ∨ k = 4 := by omega
  rcases hs with rfl | rfl | rfl | rfl
  all_goals
    simp at hm
    have h0 : (0 : Int) ≤ n := by omega
    have h9 : (n : Int) ≤ 4294967295 := by omega
    go_enter Tryz.func91, Tryz.ntmps91
    go_wp2
    go_ret
    refine ⟨?_, rfl⟩
    show Ending.returned (.bool ((n : Int) / _ == 0)) = _
    congr 2
    simp
    omega
theorem fits_no (n k : Nat) (hm : 256 ^ k ≤ n) (hn : n ≤ 9223372036854775807) (h1 : 1 ≤ k) (h2 : k ≤ 4) (w : World) : Calls Tryz.prog 91 #[.int .i64 n, .int .i64 k] w fun e w' => e = .returned (.bool false) ∧ w = w' := by
  have hs : k = 1 ∨ k = 2 ∨ k = 3 ∨ k = 4 := by omega
  rcases hs with rfl | rfl | rfl | rfl
  all_goals
    simp at hm
    have h0 : (0 : Int) ≤ n := by omega
    have h9 : (n : Int) ≤ 9223372036854775807 := by omega
    go_enter Tryz.func91, Tryz.ntmps91
    go_wp2
    go_ret
    refine ⟨?_, rfl⟩
    show Ending.returned (.bool ((n : Int) / _ == 0)) = _
    congr 2
    simp
    omega

/-- What the walk backward goes on reading: the box of the slice, and a number in each cell of it, of which V tells. -/
def Reach (Bs b off len cap : Nat) (V : Nat → UInt8 → Prop) (W : World) : Prop :=
  W.cell? ⟨Bs, 0, none⟩ = some (.slice (some ⟨b, off, none⟩) len cap) ∧ ∀ j, j < len → ∃ v : UInt8, W.cell? ⟨b, off + j, none⟩ = some (.int .u8 (v.toNat : Int)) ∧ V j v

theorem back_in (F : Fence) (n : Nat) (h : F.fn 92) (hro : F.round = none) (a : Option Addr) (len cap : Nat) (w : World) :
    CallsIn F n Tryz.prog 92 #[.slice a len cap] w fun e w' => e = .returned (.func (.func 105) #[] #[.pointer (some ⟨w.heap.size, 0, none⟩)]) ∧ w' = w.alloc (.cells #[.slice a len cap] 45) := by
  refine callsIn_of_wp Tryz.func92 rfl h ?_ hro
  simp only [Tryz.ntmps92, List.size_toArray, List.length_cons, List.length_nil, Nat.reduceAdd, Nat.reduceSub, Array.replicate_succ, Array.replicate_zero, List.push_toArray, List.append_toArray, List.nil_append, List.cons_append]
  gi_wp2
  go_ret
  exact ⟨rfl, rfl⟩


/-- What has come when k rounds are over is so: the places from behind, and V of each. -/
def Came (len : Nat) (V : Nat → UInt8 → Prop) (pre : List (Fin len × UInt8)) : Prop :=
  pre.length ≤ len ∧ ∀ i (h : i < pre.length), (pre[i]).1.val = len - 1 - i ∧ V (pre[i]).1.val (pre[i]).2
theorem came_nil (len V) : Came len V [] := ⟨Nat.zero_le _, fun i h => by simp at h⟩
theorem came_snoc {len V pre} (h : Came len V pre) {j : Nat} (hl : j < len) {v : UInt8} (hj : j + pre.length + 1 = len) (hv : V j v) : Came len V (pre ++ [(⟨j, hl⟩, v)]) := by
  refine ⟨by simp; omega, fun i hi => ?_⟩
  by_cases hlt : i < pre.length
  · rw [List.getElem_append_left hlt]; exact h.2 i hlt
  · have : i = pre.length := by simp at hi; omega
    subst this
    simp only [List.getElem_append_right (Nat.le_refl _), Nat.sub_self, List.getElem_cons_zero]
    exact ⟨by omega, hv⟩

set_option maxHeartbeats 2000000 in
theorem backward_in (F : Fence) (n : Nat) (h19 : F.fn 105) (hro : F.round = none) (hn : 1 ≤ n) (l Bs b off len cap : Nat) (V : Nat → UInt8 → Prop) (hlen : len ≤ 9223372036854775807) (J Jx : List (Fin len × UInt8) → World → Prop)
    (hY : ∀ pre x W, J pre W → pre.length < len → YieldAt F (n - 1) Tryz.prog l #[.int .i64 ((x.1.val : Nat) : Int), .int .u8 ((x.2 : UInt8).toNat : Int)] W fun e W' =>
      (e = .returned (.bool true) ∧ J (pre ++ [x]) W' ∧ (Reach Bs b off len cap V W → Reach Bs b off len cap V W')) ∨ (e = .returned (.bool false) ∧ Jx (pre ++ [x]) W'))
    (W : World) (hR : Reach Bs b off len cap V W) (h0 : J [] W) :
    CallsIn F n Tryz.prog 105 #[.func (.yield l) #[] #[], .pointer (some ⟨Bs, 0, none⟩)] W fun e W' => (∃ v, e = .returned v) ∧
      ((∃ ys, (Came len V ys ∧ ys.length = len) ∧ J ys W') ∨ (∃ pre, Came len V pre ∧ Jx pre W')) := by
  refine callsIn_of_wp Tryz.func105 rfl h19 ?_ hro
  simp only [Tryz.ntmps105, List.size_toArray, List.length_cons, List.length_nil, Nat.reduceAdd, Nat.reduceSub, Array.replicate_succ, Array.replicate_zero, List.push_toArray, List.append_toArray, List.nil_append, List.cons_append]
  have hbox := hR.1
  have HR := Lib.hid hR
  clear hR
  have hll : (0 : Int) ≤ len := by omega
  have hlm : (len : Int) ≤ 9223372036854775807 := by omega
  gi_wp2
  gi_loopw [3] (fun i wr => ∃ pre : List (Fin len × UInt8), Came len V pre ∧ i = .int .i64 ((len : Int) - 1 - pre.length) ∧ J pre wr ∧ Reach Bs b off len cap V wr)
    (fun i _ => (intOf i + 1).toNat)
  case atStart => exact ⟨[], came_nil _ _, by simp, h0, HR.out⟩
  case round =>
    obtain ⟨pre, hC, rfl, hJs, hRs⟩ := hrel
    by_cases hlt : pre.length < len
    · obtain ⟨j, hj⟩ : ∃ j : Nat, j + pre.length + 1 = len := ⟨len - 1 - pre.length, by omega⟩
      have hjl : j < len := by omega
      obtain ⟨v, hv, hV⟩ := hRs.2 j hjl
      have hb := hRs.1
      have ej : (len : Int) - 1 - pre.length = (j : Int) := by omega
      rw [ej]
      obtain ⟨fn, tmps, assign, body, hy, hR⟩ := hY pre (⟨j, hjl⟩, v) wr hJs hlt
      dsimp only at hy
      have HV := Lib.hid hV; clear hV
      have HJ := Lib.hid hj; clear hj
      have HE := Lib.hid ej; clear ej
      have HC := Lib.hid hC; clear hC
      have HRs := Lib.hid hRs; clear hRs
      have hj0 : (0 : Int) ≤ j := by omega
      have hj1 : (j : Int) < len := by have := HJ.out; omega
      gi_wp2
      refine hR.mono ?_
      rintro e W3 (⟨rfl, hJ3, hk3⟩ | ⟨rfl, hJx3⟩)
      · gi_wp2
        go_roundw
        case rel => exact ⟨pre ++ [(⟨j, hjl⟩, v)], came_snoc HC.out hjl HJ.out HV.out, by have := HJ.out; simp; omega, hJ3, hk3 HRs.out⟩
        case measure => simp [intOf]
      · gi_wp2
        refine bodyPost_ret (results_none rfl _ _ _) rfl ?_
        exact ⟨⟨_, rfl⟩, .inr ⟨_, came_snoc HC.out hjl HJ.out HV.out, hJx3⟩⟩
    · have := hC.1
      have el : pre.length = len := by omega
      have ej : (len : Int) - 1 - pre.length = -1 := by omega
      rw [ej]
      gi_wp2
      go_end0
      exact ⟨⟨_, rfl⟩, .inl ⟨pre, ⟨hC, el⟩, hJs⟩⟩

theorem reach_putObj {Bs b off len cap : Nat} {V : Nat → UInt8 → Prop} {W : World} (l : Nat) (o o' : Obj) (h : W.heap[l]? = some o) (ho : o.isCells = false) (hR : Reach Bs b off len cap V W) : Reach Bs b off len cap V (W.putObj l o') := by
  have hk : ∀ r, some l = some r → ∃ o : Obj, W.heap[r]? = some o ∧ o.isCells = false := fun r e => by cases e; exact ⟨_, h, ho⟩
  exact ⟨cell_kept hR.1 (grownBy_putObj' W l o') hk, fun j hj => let ⟨v, hv, hV⟩ := hR.2 j hj; ⟨v, cell_kept hv (grownBy_putObj' W l o') hk, hV⟩⟩

theorem stops (F : Fence) (n : Nat) (h19 : F.fn 105) (hro : F.round = none) (hn : 1 ≤ n) (Bs b off len cap : Nat) (V : Nat → UInt8 → Prop) (hlen : len ≤ 9223372036854775807) (w : World) (hBs : Bs < w.heap.size) (hb : b < w.heap.size) (hR : Reach Bs b off len cap V w) :
    SeqStopsK F n Tryz.prog 105 #[.pointer (some ⟨Bs, 0, none⟩)] (fun x : Fin len × UInt8 => #[Value.int .i64 (x.1.val : Int), Value.int .u8 (x.2.toNat : Int)]) (fun A B => Reach Bs b off len cap V A → Reach Bs b off len cap V B)
      (fun ys => Came len V ys ∧ ys.length = len) (fun pre => Came len V pre) len w := fun l J Jx W hW _ _ hY h0 => by
  refine backward_in F n h19 hro hn l Bs b off len cap V hlen J Jx hY W ⟨(hW.cell (p := ⟨Bs, 0, none⟩) hBs).trans hR.1, fun j hj => ?_⟩ h0
  obtain ⟨v, hv, hV⟩ := hR.2 j hj
  exact ⟨v, (hW.cell (p := ⟨b, off + j, none⟩) hb).trans hv, hV⟩
end Go.Proofs.YtldnelimemjaiaaGreatDoor
/-
  A region that draws its order, in a round of a range over a function, is walked as it is everywhere, where nothing in it is deferred.
-/
namespace Go.Proofs.YtldnelimemjaiaaGreatDoor
open Go
set_option maxRecDepth 100000

def noDefer (ops : List Oper) : Bool := ops.all fun o => match o.op with | .defer _ => false | _ => true
theorem noDefer_spec {ops : List Oper} (h : noDefer ops = true) {o : Oper} (ho : o ∈ ops) : ∀ c, o.op ≠ .defer c := by
  intro c e
  have := List.all_eq_true.1 h o ho
  rw [e] at this
  cases this

section
variable {P : Program} {Q : Exit → Act → World → Prop} {md : Region.Mode} {l m : Nat}

theorem rowsIn_of_rows {row : String} {args : Array Value} {w : World} {R : Value → World → Prop} (h : Rows P row args w R) : RowsIn (Fence.wide.inRound l) m P row args w R :=
  fun c cs _ => let ⟨v, w', r, s⟩ := h c cs; ⟨v, w', r, stepsIn_wide.2 s⟩

theorem uponIn_of_upon {o : Oper} {a : Act} {K K' : Act → World → Prop} (hK : ∀ a w, K a w → K' a w) {r : Result Next} (h : o.upon P a K Q r) : o.uponIn (Fence.wide.inRound l) m P a K' Q r := by
  cases r with
  | ok x w' =>
    cases x <;> simp only [Oper.upon, Oper.uponIn] at h ⊢
    case value => exact hK _ _ h
    case skip => exact hK _ _ h
    case defer => exact hK _ _ h
    case enter f args =>
      refine ⟨fun h => by simp [Fence.wide] at h, CallsIn.mono (CallsIn.inRound l (callsIn_wide.2 h)) fun e w'' he => ?_⟩
      cases e <;> first | exact hK _ _ he | exact he
    case row row args => exact ⟨fun h => by simp [Fence.wide] at h, (rowsIn_of_rows h).mono fun _ _ he => hK _ _ he⟩
  | halt x w' => cases x <;> simp only [Oper.upon, Oper.uponIn] at h ⊢ <;> exact h

theorem wpAnyIn_of_wpAny {ops : List Oper} (hnd : noDefer ops = true) (hlo : ¬ LetsOut Q) : ∀ (fuel : Nat) (listed : Array Bool) (a : Act) (w : World), wpAny P md ops.toArray Q fuel listed a w → wpAnyIn (Fence.wide.inRound l) m P md ops.toArray Q fuel listed a w
  | 0, _, _, _, h => h
  | fuel + 1, listed, a, w, h => by
    refine ⟨h.1, fun i hi => ?_⟩
    have hop := h.2 i hi
    have ih : ∀ a w, wpAny P md ops.toArray Q fuel (listed.setIfInBounds i true) a w → wpAnyIn (Fence.wide.inRound l) m P md ops.toArray Q fuel (listed.setIfInBounds i true) a w := fun a w => wpAnyIn_of_wpAny hnd hlo fuel _ a w
    unfold wpOp at hop
    unfold wpOpIn
    cases ho : ops.toArray[i]? with
    | none => rw [ho] at hop; exact ih _ _ hop
    | some o =>
      rw [ho] at hop
      have hmem : o ∈ ops := by
        rw [List.getElem?_toArray] at ho
        exact List.mem_of_getElem? ho
      simp only at hop ⊢
      split
      · rename_i hw
        rw [if_pos hw] at hop
        rcases hop with hop | ⟨_, hl⟩
        · refine ⟨fun _ _ => trivial, ?_⟩
          show Oper.uponIn _ _ _ _ _ _ _ (Sem.run P (o.semAt (some l) a.eval) w)
          rw [Oper.semAt_some l _ _ (noDefer_spec hnd hmem)]
          exact uponIn_of_upon ih hop
        · exact absurd hl hlo
      · rename_i hw
        rw [if_neg hw] at hop
        exact ⟨fun _ _ => trivial, ih _ _ hop⟩

/-- A region that draws its order, in a round: as everywhere, where nothing is deferred. -/
theorem region_round {ops : List Oper} {id : Nat} {a : Act} {w : World} (hm : P.follows .mixedOrders = true) (hnd : noDefer ops = true) (hlo : ¬ LetsOut Q)
    (h : wpAny P .any ops.toArray Q ops.length (Array.replicate ops.length false) a w.drew) : (Code.region id ops.toArray true).wpIn (Fence.wide.inRound l) m P Q a w :=
  wpIn_region_any hm (by simpa using wpAnyIn_of_wpAny (l := l) (m := m) hnd hlo _ _ _ _ h)

/-- Reads, and one write at the end: the reads in the text's order, then the write. -/
theorem region_round_tail {ops : List Oper} {id : Nat} {a : Act} {w : World} (n : Nat) (hm : P.follows .mixedOrders = true) (hnd : noDefer ops = true) (hlo : ¬ LetsOut Q) (hB : Region.lexTailB .any ops.toArray n = true)
    (h : wpStill P ops.toArray w.drew (fun a' => wpList P ops.toArray Q (ops.drop n) a' w.drew) (ops.take n) a) : (Code.region id ops.toArray true).wpIn (Fence.wide.inRound l) m P Q a w := by
  refine region_round hm hnd hlo ?_
  simp only [Region.lexTailB, Bool.and_eq_true, decide_eq_true_eq] at hB
  obtain ⟨⟨⟨⟨hsel, hn⟩, hs⟩, hc⟩, hlex⟩ := hB
  have hn' : n < ops.length := by simpa using hn
  have ht : (ops.take n).length = n := by simp; omega
  have hst : HeadInv .any ops.toArray n (Array.replicate ops.toArray.size false) :=
    ⟨by simp, fun j oj _ hl => (by rw [getD_replicate_false] at hl; cases hl), fun t _ ht => getD_in (by simpa using ht) (getD_replicate_false _ _)⟩
  have H := wpAnyL_lex (md := .any) (g := ops.toArray.size - n) hsel hs hc hn (ops.take n) 0 _ a (fun j hj => by rw [ht] at hj; simp [hj]) (by omega) hst (by rw [ht]; exact hlex) h
  have G := wpAny_of_head (Q' := Q) (g := ops.toArray.size - n) (fun listed a' hL => by
    have := wpAny_of_seq (md := .any) (Q' := Q) (ops.drop n) n listed a' w.drew (fun j => by simp) (by simpa using hL.1) hL.2
    simpa using this) _ _ _ H
  have e : (ops.take n).length + (ops.toArray.size - n) = ops.length := by simp; omega
  rw [e] at G
  simpa using G
end
end Go.Proofs.YtldnelimemjaiaaGreatDoor
/-
  code.Put, of a number and a size that may be, returns a new slice of the number's bytes, the lowest first, and OK; nothing that was there is written.
-/
namespace Go.Proofs.YtldnelimemjaiaaGreatDoor
open Go.RowKit Go.Shelf
set_option maxRecDepth 100000
attribute [local go_sem] Oper.semAt_some

theorem make1 (w : World) : (Instr.makeSlice 45 (.int .i64 1) (.int .i64 1)).run Tryz.prog w = .ok (.slice (some ⟨w.heap.size, 0, none⟩) 1 1) (w.alloc (.cells #[.int .u8 0] 5)) := by kernel_rfl
theorem make2 (w : World) : (Instr.makeSlice 45 (.int .i64 2) (.int .i64 2)).run Tryz.prog w = .ok (.slice (some ⟨w.heap.size, 0, none⟩) 2 2) (w.alloc (.cells #[.int .u8 0, .int .u8 0] 5)) := by kernel_rfl
theorem make3 (w : World) : (Instr.makeSlice 45 (.int .i64 3) (.int .i64 3)).run Tryz.prog w = .ok (.slice (some ⟨w.heap.size, 0, none⟩) 3 3) (w.alloc (.cells #[.int .u8 0, .int .u8 0, .int .u8 0] 5)) := by kernel_rfl
theorem make4 (w : World) : (Instr.makeSlice 45 (.int .i64 4) (.int .i64 4)).run Tryz.prog w = .ok (.slice (some ⟨w.heap.size, 0, none⟩) 4 4) (w.alloc (.cells #[.int .u8 0, .int .u8 0, .int .u8 0, .int .u8 0] 5)) := by kernel_rfl
theorem make_any (k : Nat) (h1 : 1 ≤ k) (h2 : k ≤ 4) (w : World) : (Instr.makeSlice 45 (.int .i64 k) (.int .i64 k)).run Tryz.prog w = .ok (.slice (some ⟨w.heap.size, 0, none⟩) k k) (w.alloc (.cells (Array.replicate k (.int .u8 0)) 5)) := by
  have hs : k = 1 ∨ k = 2 ∨ k = 3 ∨ k = 4 := by omega
  rcases hs with rfl | rfl | rfl | rfl
  · exact make1 w
  · exact make2 w
  · exact make3 w
  · exact make4 w


/-- The byte at place i of n. -/
def byteAt (n i : Nat) : UInt8 := UInt8.ofNat (n / 256 ^ i % 256)

/-- What the loop of Put keeps: the box of n, the box of the slice, and each cell: the byte where it has come, else nought. -/
def PutI (g n k : Nat) (w : World) (pre : List (Fin k × UInt8)) (W : World) : Prop :=
  (W.cell? ⟨g, 0, none⟩ = some (.int .i64 n) ∧ W.cell? ⟨g + 2, 0, none⟩ = some (.slice (some ⟨g + 1, 0, none⟩) k k) ∧
    ∀ j, j < k → W.cell? ⟨g + 1, j, none⟩ = some (.int .u8 ((if j ∈ pre.map (·.1.val) then byteAt n j else 0 : UInt8).toNat : Int)) ∧ W.frozen? ⟨g + 1, j, none⟩ = false) ∧ Below g w W

theorem byteAt_toNat (n i : Nat) : (byteAt n i).toNat = n / 256 ^ i % 256 := by simp [byteAt]
theorem byteAt_0 (n : Nat) : (((byteAt n 0).toNat : Nat) : Int) = (n : Int) % 256 := by rw [byteAt_toNat]; simp
theorem byteAt_1 (n : Nat) : (((byteAt n 1).toNat : Nat) : Int) = (n : Int) / 256 % 256 := by rw [byteAt_toNat]; simp
theorem byteAt_2 (n : Nat) : (((byteAt n 2).toNat : Nat) : Int) = (n : Int) / 65536 % 256 := by rw [byteAt_toNat]; simp
theorem byteAt_3 (n : Nat) : (((byteAt n 3).toNat : Nat) : Int) = (n : Int) / 16777216 % 256 := by rw [byteAt_toNat]; simp

theorem putI_all {k : Nat} {V : Nat → UInt8 → Prop} {ys : List (Fin k × UInt8)} (hC : Came k V ys) (hl : ys.length = k) (j : Nat) (hj : j < k) : j ∈ ys.map (·.1.val) := by
  have hi : k - 1 - j < ys.length := by omega
  have := (hC.2 (k - 1 - j) hi).1
  exact List.mem_map.2 ⟨ys[k - 1 - j], List.getElem_mem hi, by omega⟩

theorem putI_step {g n k i B : Nat} {w W : World} {pre : List (Fin k × UInt8)} {v : UInt8} {x : Int} (hi : i < k) (hI : PutI g n k w pre W) (hx : x = (((byteAt n i).toNat : Nat) : Int)) :
    KeepsFrom B W (W.setCell ⟨g + 1, i, none⟩ (.int .u8 x)).drew ∧ (Reach (g + 1 + 1 + 1) (g + 1) 0 k k (fun _ _ => True) W → Reach (g + 1 + 1 + 1) (g + 1) 0 k k (fun _ _ => True) (W.setCell ⟨g + 1, i, none⟩ (.int .u8 x)).drew) ∧
      PutI g n k w (pre ++ [(⟨i, hi⟩, v)]) (W.setCell ⟨g + 1, i, none⟩ (.int .u8 x)).drew := by
  subst hx
  obtain ⟨⟨h0, h2, h1⟩, hB⟩ := hI
  refine ⟨((KeepsOthers.setCell _ _ _).trans (KeepsOthers.drew _)).from _, fun hR => ⟨?_, fun j hj => ?_⟩, ⟨⟨?_, ?_, fun j hj => ⟨?_, ?_⟩⟩, ?_⟩⟩
  · exact (World.cell?_setCell_other W _ _ _ (by simp)).trans hR.1
  · rw [Nat.zero_add]
    by_cases e : j = i
    · subst e
      exact ⟨_, World.cell?_setCell_same' W _ _ (by rw [(h1 j hj).1]; rfl), trivial⟩
    · obtain ⟨v', hv', _⟩ := hR.2 j hj
      rw [Nat.zero_add] at hv'
      exact ⟨v', (World.cell?_setCell_other W _ _ _ (by simp; first | done | exact fun h => e h.symm)).trans hv', trivial⟩
  · exact (World.cell?_setCell_other W _ _ _ (by simp)).trans h0
  · exact (World.cell?_setCell_other W _ _ _ (by simp)).trans h2
  · by_cases e : j = i
    · subst e
      rw [if_pos (by simp)]
      exact World.cell?_setCell_same' W _ _ (by rw [(h1 j hj).1]; rfl)
    · have : (j ∈ (pre ++ [((⟨i, hi⟩ : Fin k), v)]).map (·.1.val)) ↔ j ∈ pre.map (·.1.val) := by simp [e]
      simp only [this]
      exact (World.cell?_setCell_other W _ _ _ (by simp; first | done | exact fun h => e h.symm)).trans (h1 j hj).1
  · exact (World.frozen?_setCell _ _ _ _).trans (h1 j hj).2
  · exact (hB.setCell (p := ⟨g + 1, i, none⟩) (by simp) _).drew

set_option maxHeartbeats 2000000 in
theorem put_in (m : Nat) (hn : 3 ≤ m) (n k : Nat) (h1 : 1 ≤ k) (h2 : k ≤ 4) (hm : n < 256 ^ k) (w : World) :
    CallsIn Fence.wide m Tryz.prog 64 #[.int .i64 n, .int .i64 k] w fun e W' => e = .returned (.tuple #[.slice (some ⟨w.heap.size + 1, 0, none⟩) k k, .int .i64 0]) ∧
      (∀ j, j < k → W'.cell? ⟨w.heap.size + 1, j, none⟩ = some (.int .u8 ((byteAt n j).toNat : Int))) ∧ Below w.heap.size w W' ∧ w.heap.size + 1 < W'.heap.size := by
  have hro : Fence.wide.round = none := rfl
  have hk1 : (1:Int) ≤ k := by omega
  have hk2 : (k:Int) ≤ 4 := by omega
  have hmk := make_any k h1 h2
  have HM := Lib.hid hm; clear hm
  refine callsIn_of_wp_marks Tryz.func64 rfl trivial ?_ hro
  simp only [Tryz.ntmps64, List.size_toArray, List.length_cons, List.length_nil, Nat.reduceAdd, Nat.reduceSub, Array.replicate_succ, Array.replicate_zero, List.push_toArray, List.append_toArray, List.nil_append, List.cons_append]
  have hd : 1 ≤ m := by omega
  gi_wp2_with (refine ⟨trivial, ?_⟩; first | (gi_at_call 90; refine (callsIn_wide.2 (isSize_yes _ (by omega) (by omega) _)).mono ?_; rintro e w' ⟨rfl, rfl⟩) | (gi_at_call 91; refine (callsIn_wide.2 (fits_yes n k HM.out h1 h2 _)).mono ?_; rintro e w' ⟨rfl, rfl⟩) | (gi_at_call 92; refine (back_in Fence.wide (m - 1) trivial hro _ _ _ _).mono ?_; rintro e w' ⟨rfl, rfl⟩))
  obtain ⟨g, hg⟩ : ∃ g, w.heap.size = g := ⟨_, rfl⟩
  obtain ⟨W0, hW0⟩ : ∃ W0, ((((w.alloc (Obj.cells #[Value.int IntKind.i64 ↑n] 3)).alloc (Obj.cells (Array.replicate k (Value.int IntKind.u8 0)) 5)).alloc (Obj.cells #[Value.slice (some { block := w.heap.size + 1, off := 0 }) k k] 45)).alloc (Obj.cells #[Value.slice (some { block := w.heap.size + 1, off := 0 }) k k] 45)) = W0 := ⟨_, rfl⟩
  have hsz : W0.heap.size = g + 4 := by rw [← hW0]; simp [hg]
  have hB0 : Below g w W0 := by rw [← hW0, ← hg]; exact ((((Below.refl _ w).alloc (Nat.le_refl _) _).alloc (by simp) _).alloc (by simp; omega) _).alloc (by simp; omega) _
  have c0 : W0.cell? ⟨g, 0, none⟩ = some (.int .i64 n) := by rw [← hW0, ← hg]; exact ((((Boxed.new w 3 _).alloc _).alloc _).alloc _).cell
  have c1 : ∀ j, j < k → W0.cell? ⟨g + 1, j, none⟩ = some (.int .u8 0) ∧ W0.frozen? ⟨g + 1, j, none⟩ = false := by
    intro j hj
    have hh : W0.heap[g + 1]? = some (.cells (Array.replicate k (Value.int IntKind.u8 0)) 5 (0, 0)) := by
      rw [← hW0, ← hg, Below.heap_alloc _ _ _ (by simp), Below.heap_alloc _ _ _ (by simp)]
      have := World.alloc_heap_new (w.alloc (Obj.cells #[Value.int IntKind.i64 ↑n] 3)) (Obj.cells (Array.replicate k (Value.int IntKind.u8 0)) 5)
      rwa [World.size_alloc] at this
    exact ⟨by simp [World.cell?, hh, hj], by simp [World.frozen?, hh]⟩
  have c2 : W0.cell? ⟨g + 2, 0, none⟩ = some (.slice (some ⟨g + 1, 0, none⟩) k k) := by
    rw [← hW0, ← hg]
    have := (Boxed.new ((w.alloc (Obj.cells #[Value.int IntKind.i64 ↑n] 3)).alloc (Obj.cells (Array.replicate k (Value.int IntKind.u8 0)) 5)) 45 (Value.slice (some { block := w.heap.size + 1, off := 0 }) k k)).alloc (Obj.cells #[Value.slice (some { block := w.heap.size + 1, off := 0 }) k k] 45)
    rw [World.size_alloc, World.size_alloc] at this
    exact this.cell
  have c3 : W0.cell? ⟨g + 3, 0, none⟩ = some (.slice (some ⟨g + 1, 0, none⟩) k k) := by
    rw [← hW0, ← hg]
    have := Boxed.new (((w.alloc (Obj.cells #[Value.int IntKind.i64 ↑n] 3)).alloc (Obj.cells (Array.replicate k (Value.int IntKind.u8 0)) 5)).alloc (Obj.cells #[Value.slice (some { block := w.heap.size + 1, off := 0 }) k k] 45)) 45 (Value.slice (some { block := w.heap.size + 1, off := 0 }) k k)
    rw [World.size_alloc, World.size_alloc, World.size_alloc] at this
    exact this.cell
  rw [hW0, hg]
  have hR : Reach (g + 3) (g + 1) 0 k k (fun _ _ => True) W0 := ⟨c3, fun j hj => ⟨0, by simpa using (c1 j hj).1, trivial⟩⟩
  refine wpIn_rangeFunc_ownG hro hd (gf := 105) (lb := #[.pointer (some ⟨g + 1 + 1 + 1, 0, none⟩)]) rfl trivial (enters_of Tryz.func105 (by kernel_rfl) rfl)
    (stops Fence.wide (m - 1) trivial hro (by omega) (g + 1 + 1 + 1) (g + 1) 0 k k (fun _ _ => True) (by omega) W0 (by omega) (by omega) hR) (fun h k r => k (h r)) (fun W l o o' _ h ho _ => reach_putObj l o o' h ho) (Below.refl _ _) (fun _ => rfl)
    (PutI g n k w) (fun _ _ _ => False) ?hI (fun _ _ _ _ _ hs _ _ => hs) ⟨⟨c0, c2, fun j hj => by simpa using c1 j hj⟩, hB0⟩
    (fun x => { tmps := #[Value.int IntKind.i64 ↑n, Value.int IntKind.i64 ↑k, Value.pointer (some { block := g, off := 0 }), undef, Value.slice none 0 0, Value.int IntKind.i64 0, Value.pointer (some { block := g + 1 + 1, off := 0 }), .int .i64 (x.1.val : Int), Value.int IntKind.i64 ↑k, Value.bool true, Value.bool false, Value.bool false, Value.int IntKind.i64 ↑n, Value.int IntKind.i64 ↑k, Value.bool true, Value.bool false, Value.bool false, Value.int IntKind.i64 ↑k, Value.slice (some { block := g + 1, off := 0 }) k k, Value.slice (some { block := g + 1, off := 0 }) k k, Value.func (Fn.func 105) #[] #[Value.pointer (some { block := g + 1 + 1 + 1, off := 0 })], .int .i64 (x.1.val : Int), .int .u8 (x.2.toNat : Int), undef, undef, undef, undef, undef, undef, undef, undef, undef], defers := [] }) ?assign ?body ?done ?stop
  case hI =>
    refine OwnFrom.and (Own.from (fun s A B row hs hg hr => ?_) _) (ownFrom_below (by omega) (by omega))
    obtain ⟨h0, h2, h1⟩ := hs
    exact ⟨cell_kept h0 hg hr, cell_kept h2 hg hr, fun j hj => ⟨cell_kept (h1 j hj).1 hg hr, (frozen_kept (h1 j hj).1 hg hr).trans (h1 j hj).2⟩⟩
  case assign =>
    intro l x W K hK
    gi_wp2
    exact hK
  case body =>
    rintro l pre ⟨⟨i, hi⟩, v⟩ W ⟨⟨hcn, hcs, hcj⟩, hB⟩ _
    obtain ⟨hci, hfi⟩ := hcj i hi
    have H := Lib.hid hcj; clear hcj
    have hi4 : i = 0 ∨ i = 1 ∨ i = 2 ∨ i = 3 := by omega
    have hmx : Tryz.prog.follows Departure.mixedOrders = true := by kernel_rfl
    have e0 : IntKind.i64.wrap 0 = 0 := by decide
    have e8 : IntKind.i64.wrap 8 = 8 := by decide
    have e16 : IntKind.i64.wrap 16 = 16 := by decide
    have e24 : IntKind.i64.wrap 24 = 24 := by decide
    have step := fun x (hx : x = (((byteAt n i).toNat : Nat) : Int)) => putI_step (B := W0.heap.size) (v := v) (x := x) hi ⟨⟨hcn, hcs, H.out⟩, hB⟩ hx
    have HS := Lib.hid step; clear step
    have HB := Lib.hid hB; clear hB
    rcases hi4 with rfl | rfl | rfl | rfl
    · have hi0 : (0 : Int) < k := by omega
      dsimp only
      gi_wp2
      refine region_round_tail 8 hmx (by kernel_rfl) (fun h => by obtain ⟨_, _, h⟩ := h; exact h) (by kernel_rfl) ?_
      simp only [List.take_succ_cons, List.take_zero, List.drop_succ_cons, List.drop_zero]
      repeat still_step
      refine wpStill_nil ?_
      go_wp2
      exact HS.out _ (by rw [byteAt_0])
    · have hi0 : (1 : Int) < k := by omega
      dsimp only
      gi_wp2
      refine region_round_tail 8 hmx (by kernel_rfl) (fun h => by obtain ⟨_, _, h⟩ := h; exact h) (by kernel_rfl) ?_
      simp only [List.take_succ_cons, List.take_zero, List.drop_succ_cons, List.drop_zero]
      repeat still_step
      refine wpStill_nil ?_
      go_wp2
      exact HS.out _ (by rw [byteAt_1])
    · have hi0 : (2 : Int) < k := by omega
      dsimp only
      gi_wp2
      refine region_round_tail 8 hmx (by kernel_rfl) (fun h => by obtain ⟨_, _, h⟩ := h; exact h) (by kernel_rfl) ?_
      simp only [List.take_succ_cons, List.take_zero, List.drop_succ_cons, List.drop_zero]
      repeat still_step
      refine wpStill_nil ?_
      go_wp2
      exact HS.out _ (by rw [byteAt_2])
    · have hi0 : (3 : Int) < k := by omega
      dsimp only
      gi_wp2
      refine region_round_tail 8 hmx (by kernel_rfl) (fun h => by obtain ⟨_, _, h⟩ := h; exact h) (by kernel_rfl) ?_
      simp only [List.take_succ_cons, List.take_zero, List.drop_succ_cons, List.drop_zero]
      repeat still_step
      refine wpStill_nil ?_
      go_wp2
      exact HS.out _ (by rw [byteAt_3])
  case done =>
    rintro D ys W hD ⟨hC, hl⟩ ⟨⟨h0, h2, h1⟩, hB⟩ hK
    have hD' : g + 4 ≤ D := by omega
    have H1 := Lib.hid h1; clear h1
    have HC := Lib.hid hC; clear hC
    have HL := Lib.hid hl; clear hl
    have h2' : W.cell? ⟨g + 1 + 1, 0, none⟩ = some (.slice (some ⟨g + 1, 0, none⟩) k k) := h2
    gi_wp2
    refine ⟨by simp, .inl ⟨_, _, rfl, run_takeDeferred hK, ?_⟩⟩
    subst hg
    refine ⟨.tuple #[.slice (some ⟨w.heap.size + 1, 0, none⟩) k k, .int .i64 0], by simp [results, Tryz.f64, go_sem], rfl, fun j hj => ?_, hB.trans (belowK_b (w := w) (by omega) W D _ _ (by omega) hK rfl rfl), ?_⟩
    · have := putI_all HC.out HL.out j hj
      have hc := (H1.out j hj).1
      rw [if_pos this] at hc
      exact cell_kept hc (grownBy_putObj' _ D (.deferred none)) (fun r e => by cases e; exact ⟨_, hK, rfl⟩)
    · have := (Array.getElem?_eq_some_iff.1 hK).1
      simp; omega
  case stop =>
    rintro D c pre W _ _ h _
    exact h.elim
end Go.Proofs.YtldnelimemjaiaaGreatDoor
/-
  code.Get, of a slice that has the bytes, returns the number whose bytes they are, and OK; else 0 and the error of the chapter; nothing that was there is written.
-/
namespace Go.Proofs.YtldnelimemjaiaaGreatDoor
open Go.RowKit Go.Shelf
set_option maxRecDepth 100000
attribute [local go_sem] Oper.semAt_some

theorem get_size (a : Option Addr) (len cap : Nat) (i s : Int) (h : s < 1 ∨ 4 < s) (w : World) : Calls Tryz.prog 70 #[.slice a len cap, .int .i64 i, .int .i64 s] w fun e w' => e = .returned (.tuple #[.int .i64 0, .int .i64 2]) ∧ w = w' := by
  go_enter Tryz.func70, Tryz.ntmps70
  go_wp2_with (go_at_call 90; refine (isSize_no _ h _).mono ?_; rintro e w' ⟨rfl, rfl⟩)
  go_ret2
  exact ⟨rfl, rfl⟩
theorem get_neg (a : Option Addr) (len cap : Nat) (i s : Int) (h1 : 1 ≤ s) (h2 : s ≤ 4) (hi : i < 0) (w : World) : Calls Tryz.prog 70 #[.slice a len cap, .int .i64 i, .int .i64 s] w fun e w' => e = .returned (.tuple #[.int .i64 0, .int .i64 2]) ∧ w = w' := by
  go_enter Tryz.func70, Tryz.ntmps70
  go_wp2_with (go_at_call 90; refine (isSize_yes _ h1 h2 _).mono ?_; rintro e w' ⟨rfl, rfl⟩)
  go_ret2
  exact ⟨rfl, rfl⟩
theorem get_far (a : Option Addr) (len cap : Nat) (i s : Int) (h1 : 1 ≤ s) (h2 : s ≤ 4) (hi : len < i) (w : World) : Calls Tryz.prog 70 #[.slice a len cap, .int .i64 i, .int .i64 s] w fun e w' => e = .returned (.tuple #[.int .i64 0, .int .i64 2]) ∧ w = w' := by
  have h0 : 0 ≤ i := by omega
  go_enter Tryz.func70, Tryz.ntmps70
  go_wp2_with (go_at_call 90; refine (isSize_yes _ h1 h2 _).mono ?_; rintro e w' ⟨rfl, rfl⟩)
  go_ret2
  exact ⟨rfl, rfl⟩
theorem get_short (a : Option Addr) (len cap : Nat) (_hl : len ≤ 9223372036854775807) (i s : Int) (h1 : 1 ≤ s) (h2 : s ≤ 4) (h0 : 0 ≤ i) (hi : i ≤ len) (hs : len - i < s) (w : World) : Calls Tryz.prog 70 #[.slice a len cap, .int .i64 i, .int .i64 s] w fun e w' => e = .returned (.tuple #[.int .i64 0, .int .i64 8]) ∧ w = w' := by
  go_enter Tryz.func70, Tryz.ntmps70
  go_wp2_with (go_at_call 90; refine (isSize_yes _ h1 h2 _).mono ?_; rintro e w' ⟨rfl, rfl⟩)
  go_ret2
  exact ⟨rfl, rfl⟩

/-- The number whose bytes these are, the lowest first. -/
def leN : List UInt8 → Nat
  | [] => 0
  | x :: r => x.toNat + 256 * leN r

/-- What the loop of Get has in its box when these have come. -/
def accN {k : Nat} (pre : List (Fin k × UInt8)) : Nat := pre.foldl (fun a x => a * 256 + x.2.toNat) 0
theorem accN_snoc {k : Nat} (pre : List (Fin k × UInt8)) (x : Fin k × UInt8) : accN (pre ++ [x]) = accN pre * 256 + x.2.toNat := by simp [accN]
theorem accN_eq {k : Nat} (pre : List (Fin k × UInt8)) : accN pre = leN (pre.map (·.2)).reverse := by
  have h : ∀ l : List UInt8, leN l.reverse = l.foldl (fun a x => a * 256 + x.toNat) 0 := by
    intro l
    have : ∀ l : List UInt8, l.foldr (fun x a => a * 256 + x.toNat) 0 = leN l := by
      intro l
      induction l with
      | nil => rfl
      | cons x r ih => simp only [List.foldr_cons, leN, ih]; omega
    rw [← this, List.foldr_reverse]
  rw [h, List.foldl_map]
  rfl
theorem leN_lt : ∀ l, leN l < 256 ^ l.length
  | [] => by simp [leN]
  | x :: r => by
    have h1 := leN_lt r
    have h2 := x.toNat_lt
    simp only [leN, List.length_cons, Nat.pow_succ]; omega
theorem accN_lt {k : Nat} (pre : List (Fin k × UInt8)) : accN pre < 256 ^ pre.length := by
  rw [accN_eq]
  have := leN_lt (pre.map (·.2)).reverse
  simpa using this
theorem accN_all {k i : Nat} {s : List UInt8} {ys : List (Fin k × UInt8)} (hC : Came k (fun j v => s[i + j]? = some v) ys) (hl : ys.length = k) (hk : i + k ≤ s.length) : accN ys = leN ((s.drop i).take k) := by
  rw [accN_eq]
  congr 1
  apply List.ext_getElem
  · simp; omega
  · intro j h1 h2
    have hj : j < k := by simp at h1; omega
    have hm : k - 1 - j < ys.length := by omega
    obtain ⟨e1, e2⟩ := hC.2 (k - 1 - j) hm
    have e3 : (ys[k - 1 - j]).1.val = j := by omega
    rw [e3] at e2
    have hx : i + j < s.length := by omega
    rw [List.getElem?_eq_getElem hx] at e2
    simp only [List.getElem_reverse, List.getElem_map, List.getElem_take, List.getElem_drop, List.length_map]
    have e4 : ys.length - 1 - j = k - 1 - j := by omega
    simp only [e4]
    exact (Option.some.inj e2).symm
theorem or_byte (a b : Nat) (ha : a ≤ 16777215) (hb : b < 256) : bits .or .i64 ((a : Int) * 256) (b : Int) = ((a * 256 + b : Nat) : Int) := by
  have e : (a : Int) * 256 = ((a * 256 : Nat) : Int) := by omega
  rw [e]
  show IntKind.i64.wrap ((BitVec.ofInt 64 ((a * 256 : Nat) : Int) ||| BitVec.ofInt 64 (b : Int)).toNat : Int) = _
  have h := Nat.two_pow_add_eq_or_of_lt (i := 8) (b := b) (by omega) a
  rw [BitVec.toNat_or, ofInt_u64 _ (by omega), ofInt_u64 _ (by omega), show a * 256 = 2 ^ 8 * a by omega, ← h, show 2 ^ 8 * a + b = 256 * a + b by omega]
  exact Lib.wrap_i64_small _ (by omega)
def GetI (g k : Nat) (w : World) (pre : List (Fin k × UInt8)) (W : World) : Prop :=
  (W.cell? ⟨g, 0, none⟩ = some (.int .i64 (accN pre : Nat)) ∧ W.frozen? ⟨g, 0, none⟩ = false) ∧ Below g w W

set_option maxHeartbeats 2000000 in
theorem get_in (m : Nat) (hn : 3 ≤ m) (b off len cap at_ k : Nat) (s : List UInt8) (hs : s.length = len) (hlc : len ≤ cap) (hcm : cap ≤ 9223372036854775807) (h1 : 1 ≤ k) (h2 : k ≤ 4) (hk : at_ + k ≤ len) (w : World) (hb : b < w.heap.size)
    (hc : ∀ i (h : i < s.length), w.cell? ⟨b, off + i, none⟩ = some (.int .u8 ((s[i]).toNat : Int))) :
    CallsIn Fence.wide m Tryz.prog 70 #[.slice (some ⟨b, off, none⟩) len cap, .int .i64 at_, .int .i64 k] w fun e W' => e = .returned (.tuple #[.int .i64 (leN ((s.drop at_).take k) : Nat), .int .i64 0]) ∧ Below w.heap.size w W' := by
  have hro : Fence.wide.round = none := rfl
  have hd : 1 ≤ m := by omega
  have hk1 : (1:Int) ≤ k := by omega
  have hk2 : (k:Int) ≤ 4 := by omega
  have a0 : (0:Int) ≤ at_ := by omega
  have a1 : (at_:Int) ≤ len := by omega
  have a2 : (k:Int) ≤ len - at_ := by omega
  have hlm : (len:Int) ≤ 9223372036854775807 := by omega
  have ea : (at_ : Int) + k = ((at_ + k : Nat) : Int) := by omega
  have HS := Lib.hid hs; clear hs
  have HC := Lib.hid hc; clear hc
  have hsl := fun W => Lib.run_slice_window (P := Tryz.prog) W 45 5 Tryz.underlying45 (fun _ => by kernel_rfl) b off len cap at_ (at_ + k) (by omega) (by omega)
  simp only [← ea] at hsl
  have HE := Lib.hid ea; clear ea
  refine callsIn_of_wp_marks Tryz.func70 rfl trivial ?_ hro
  simp only [Tryz.ntmps70, List.size_toArray, List.length_cons, List.length_nil, Nat.reduceAdd, Nat.reduceSub, Array.replicate_succ, Array.replicate_zero, List.push_toArray, List.append_toArray, List.nil_append, List.cons_append]
  gi_wp2_with (refine ⟨trivial, ?_⟩; first | (gi_at_call 90; refine (callsIn_wide.2 (isSize_yes _ (by omega) (by omega) _)).mono ?_; rintro e w' ⟨rfl, rfl⟩) | (gi_at_call 92; refine (back_in Fence.wide (m - 1) trivial hro _ _ _ _).mono ?_; rintro e w' ⟨rfl, rfl⟩))
  obtain ⟨g, hg⟩ : ∃ g, w.heap.size = g := ⟨_, rfl⟩
  obtain ⟨W0, hW0⟩ : ∃ W0, ((w.alloc (Obj.cells #[Value.int IntKind.i64 0] 3)).alloc (Obj.cells #[Value.slice (some { block := b, off := off + at_ }) k (cap - at_)] 45)) = W0 := ⟨_, rfl⟩
  have hsz : W0.heap.size = g + 2 := by rw [← hW0]; simp [hg]
  have hB0 : Below g w W0 := by rw [← hW0, ← hg]; exact ((Below.refl _ w).alloc (Nat.le_refl _) _).alloc (by simp) _
  have c0 : W0.cell? ⟨g, 0, none⟩ = some (.int .i64 0) ∧ W0.frozen? ⟨g, 0, none⟩ = false := by rw [← hW0, ← hg]; exact ⟨((Boxed.new w 3 _).alloc _).cell, ((Boxed.new w 3 _).alloc _).frozen⟩
  have c1 : W0.cell? ⟨g + 1, 0, none⟩ = some (.slice (some ⟨b, off + at_, none⟩) k (cap - at_)) := by
    rw [← hW0, ← hg]
    have := Boxed.new (w.alloc (Obj.cells #[Value.int IntKind.i64 0] 3)) 45 (Value.slice (some { block := b, off := off + at_ }) k (cap - at_))
    rw [World.size_alloc] at this
    exact this.cell
  rw [hW0, hg]
  have hR : Reach (g + 1) b (off + at_) k (cap - at_) (fun j v => s[at_ + j]? = some v) W0 := ⟨c1, fun j hj => by
    have hl : at_ + j < s.length := by have := HS.out; omega
    exact ⟨s[at_ + j], (hB0.cell (p := ⟨b, off + at_ + j, none⟩) (by simp <;> omega)).trans (by rw [Nat.add_assoc]; exact HC.out _ hl), List.getElem?_eq_getElem hl⟩⟩
  refine wpIn_rangeFunc_ownG hro hd (gf := 105) (lb := #[.pointer (some ⟨g + 1, 0, none⟩)]) rfl trivial (enters_of Tryz.func105 (by kernel_rfl) rfl)
    (stops Fence.wide (m - 1) trivial hro (by omega) (g + 1) b (off + at_) k (cap - at_) (fun j v => s[at_ + j]? = some v) (by omega) W0 (by omega) (by omega) hR) (fun h k r => k (h r)) (fun W l o o' _ h ho _ => reach_putObj l o o' h ho) (Below.refl _ _) (fun _ => rfl)
    (GetI g k w) (fun _ _ _ => False) ?hI (fun _ _ _ _ _ hs _ _ => hs) ⟨c0, hB0⟩
    (fun x => { tmps := #[Value.slice (some { block := b, off := off }) len cap, Value.int IntKind.i64 ↑at_, Value.int IntKind.i64 ↑k,
          undef, undef, undef, Value.int IntKind.i64 0, Value.int IntKind.i64 0,
          Value.pointer (some { block := g, off := 0 }), undef, .int .u8 (x.2.toNat : Int), Value.int IntKind.i64 ↑k,
          Value.bool true, Value.bool false, Value.bool false, Value.int IntKind.i64 ↑at_,
          Value.bool (decide ((at_ : Int) < 0)), Value.bool (decide ((at_ : Int) < 0)), Value.bool (decide ((at_ : Int) < 0)),
          Value.int IntKind.i64 ↑at_, Value.slice (some { block := b, off := off }) len cap, Value.int IntKind.i64 ↑len,
          Value.bool false, Value.bool (decide ((at_ : Int) < 0)), Value.slice (some { block := b, off := off }) len cap,
          Value.int IntKind.i64 ↑len, Value.int IntKind.i64 ↑at_, Value.int IntKind.i64 (↑len - ↑at_),
          Value.int IntKind.i64 ↑k, Value.bool (decide ((len : Int) - at_ < k)),
          Value.slice (some { block := b, off := off }) len cap, Value.int IntKind.i64 ↑at_, Value.int IntKind.i64 ↑at_,
          Value.int IntKind.i64 ↑k, Value.int IntKind.i64 (↑at_ + ↑k),
          Value.slice (some { block := b, off := off + at_ }) k (cap - at_),
          Value.func (Fn.func 105) #[] #[Value.pointer (some { block := g + 1, off := 0 })], .int .i64 (x.1.val : Int), .int .u8 (x.2.toNat : Int),
          undef, undef, undef, undef, undef, undef], defers := [] }) ?assign ?body ?done ?stop
  case hI => exact OwnFrom.and (Own.from (fun s A B row hs hg hr => ⟨cell_kept hs.1 hg hr, (frozen_kept hs.1 hg hr).trans hs.2⟩) _) (ownFrom_below (by omega) (by omega))
  case assign =>
    intro l x W K hK
    gi_wp2
    exact hK
  case body =>
    rintro l pre ⟨⟨i, hi⟩, v⟩ W ⟨⟨hcn, hfn⟩, hB⟩ hlt
    have hv0 : (0 : Int) ≤ v.toNat := by omega
    have hv1 : (v.toNat : Int) ≤ 255 := by have := v.toNat_lt; omega
    have hA0 : (0 : Int) ≤ accN pre := by omega
    have hA1 : (accN pre : Int) ≤ 16777215 := by
      have h3 : pre.length ≤ 3 := by omega
      have h4 := accN_lt pre
      have h5 : 256 ^ pre.length ≤ 256 ^ 3 := Nat.pow_le_pow_right (by omega) h3
      omega
    have hor := or_byte (accN pre) v.toNat (by omega) (by omega)
    have HO := Lib.hid hor; clear hor
    dsimp only
    gi_wp2
    rw [HO.out]
    refine ⟨(KeepsOthers.setCell _ _ _).from _, fun hR => ⟨(World.cell?_setCell_other W _ _ _ (by simp)).trans hR.1, fun j hj => ?_⟩, ⟨⟨?_, (World.frozen?_setCell _ _ _ _).trans hfn⟩, hB.setCell (p := ⟨g, 0, none⟩) (Nat.le_refl _) _⟩⟩
    · obtain ⟨v', hv', hV⟩ := hR.2 j hj
      exact ⟨v', (World.cell?_setCell_other W _ _ _ (by simp <;> omega)).trans hv', hV⟩
    · rw [accN_snoc]; exact World.cell?_setCell_same' W _ _ (by rw [hcn]; rfl)
  case done =>
    rintro D ys W hD ⟨hC, hl⟩ ⟨⟨h0, _⟩, hB⟩ hK
    have hD' : g + 2 ≤ D := by omega
    have hfin := accN_all hC hl (by have := HS.out; omega)
    have HF := Lib.hid hfin; clear hfin
    have HCm := Lib.hid hC; clear hC
    have HL := Lib.hid hl; clear hl
    gi_wp2
    refine ⟨by simp, .inl ⟨_, _, rfl, run_takeDeferred hK, ?_⟩⟩
    subst hg
    exact ⟨.tuple #[.int .i64 (accN ys : Nat), .int .i64 0], by simp [results, Tryz.f70, go_sem], by rw [HF.out], hB.trans (belowK_b (w := w) (by omega) W D _ _ (by omega) hK rfl rfl)⟩
  case stop =>
    rintro D c pre W _ _ h _
    exact h.elim
end Go.Proofs.YtldnelimemjaiaaGreatDoor
/-
  What code.Put and code.Get answer, in one word each, for every number, size, place and slice of bytes; slices of bytes, windows of them, and strings made of them.
-/
namespace Go.Proofs.YtldnelimemjaiaaGreatDoor
open Go.RowKit Go.Shelf
set_option maxRecDepth 100000

theorem put_size (n s : Int) (h : s < 1 ∨ 4 < s) (w : World) : Calls Tryz.prog 64 #[.int .i64 n, .int .i64 s] w fun e w' => e = .returned (.tuple #[.slice none 0 0, .int .i64 2]) ∧ Below w.heap.size w w' := by
  go_enter Tryz.func64, Tryz.ntmps64
  go_wp2_with (go_at_call 90; refine (isSize_no _ h _).mono ?_; rintro e w' ⟨rfl, rfl⟩)
  go_ret2
  exact ⟨rfl, (Below.refl _ _).alloc (Nat.le_refl _) _⟩
theorem put_neg (n s : Int) (h1 : 1 ≤ s) (h2 : s ≤ 4) (hn : n < 0) (w : World) : Calls Tryz.prog 64 #[.int .i64 n, .int .i64 s] w fun e w' => e = .returned (.tuple #[.slice none 0 0, .int .i64 2]) ∧ Below w.heap.size w w' := by
  go_enter Tryz.func64, Tryz.ntmps64
  go_wp2_with (first | (go_at_call 90; refine (isSize_yes _ h1 h2 _).mono ?_; rintro e w' ⟨rfl, rfl⟩) | (go_at_call 91; refine (fits_neg _ _ hn _).mono ?_; rintro e w' ⟨rfl, rfl⟩))
  go_ret2
  exact ⟨rfl, (Below.refl _ _).alloc (Nat.le_refl _) _⟩
theorem put_big (n k : Nat) (h1 : 1 ≤ k) (h2 : k ≤ 4) (hn : 256 ^ k ≤ n) (hm : n ≤ 9223372036854775807) (w : World) : Calls Tryz.prog 64 #[.int .i64 n, .int .i64 k] w fun e w' => e = .returned (.tuple #[.slice none 0 0, .int .i64 2]) ∧ Below w.heap.size w w' := by
  have hs1 : (1 : Int) ≤ k := by omega
  have hs2 : (k : Int) ≤ 4 := by omega
  have HN := Lib.hid hn; clear hn
  go_enter Tryz.func64, Tryz.ntmps64
  go_wp2_with (first | (go_at_call 90; refine (isSize_yes _ hs1 hs2 _).mono ?_; rintro e w' ⟨rfl, rfl⟩) | (go_at_call 91; refine (fits_no n k HN.out hm h1 h2 _).mono ?_; rintro e w' ⟨rfl, rfl⟩))
  go_ret2
  exact ⟨rfl, (Below.refl _ _).alloc (Nat.le_refl _) _⟩

/-- The bytes of n, so many as k says, the lowest first. -/
def leB (k n : Nat) : List UInt8 := (List.range k).map (byteAt n)
theorem leB_length (k n : Nat) : (leB k n).length = k := by simp [leB]

theorem put_ok (n k : Nat) (h1 : 1 ≤ k) (h2 : k ≤ 4) (hm : n < 256 ^ k) (w : World) :
    Calls Tryz.prog 64 #[.int .i64 n, .int .i64 k] w fun e W' => e = .returned (.tuple #[.slice (some ⟨w.heap.size + 1, 0, none⟩) k k, .int .i64 0]) ∧ Holds W' (w.heap.size + 1) (leB k n) ∧ Below w.heap.size w W' ∧ w.heap.size + 1 < W'.heap.size :=
  (callsIn_wide.1 (put_in 3 (Nat.le_refl _) n k h1 h2 hm w)).mono fun e W' ⟨he, hc, hb, hs⟩ => ⟨he, fun i hi => by
    have hi' : i < k := by simpa [leB] using hi
    rw [hc i hi']; simp [leB], hb, hs⟩

theorem get_ok (b off len cap i k : Nat) (s : List UInt8) (hs : s.length = len) (hlc : len ≤ cap) (hcm : cap ≤ 9223372036854775807) (h1 : 1 ≤ k) (h2 : k ≤ 4) (hk : i + k ≤ len) (w : World) (hb : b < w.heap.size)
    (hc : ∀ i (h : i < s.length), w.cell? ⟨b, off + i, none⟩ = some (.int .u8 ((s[i]).toNat : Int))) :
    Calls Tryz.prog 70 #[.slice (some ⟨b, off, none⟩) len cap, .int .i64 i, .int .i64 k] w fun e W' => e = .returned (.tuple #[.int .i64 (leN ((s.drop i).take k) : Nat), .int .i64 0]) ∧ Below w.heap.size w W' :=
  callsIn_wide.1 (get_in 3 (Nat.le_refl _) b off len cap i k s hs hlc hcm h1 h2 hk w hb hc)

/-- The numbers that Put refuses. -/
def PutBad (n s : Int) : Prop := (s < 1 ∨ 4 < s) ∨ (1 ≤ s ∧ s ≤ 4 ∧ n < 0) ∨ ∃ N k : Nat, n = N ∧ s = k ∧ 1 ≤ k ∧ k ≤ 4 ∧ 256 ^ k ≤ N
theorem putCase (n s : Int) : (∃ N k : Nat, n = N ∧ s = k ∧ 1 ≤ k ∧ k ≤ 4 ∧ N < 256 ^ k) ∨ PutBad n s := by
  by_cases hs : s < 1 ∨ 4 < s
  · exact .inr (.inl hs)
  · by_cases hn : n < 0
    · exact .inr (.inr (.inl ⟨by omega, by omega, hn⟩))
    · obtain ⟨N, rfl⟩ := Int.eq_ofNat_of_zero_le (show 0 ≤ n by omega)
      obtain ⟨k, rfl⟩ := Int.eq_ofNat_of_zero_le (show 0 ≤ s by omega)
      by_cases hb : N < 256 ^ k
      · exact .inl ⟨N, k, rfl, rfl, by omega, by omega, hb⟩
      · exact .inr (.inr (.inr ⟨N, k, rfl, rfl, by omega, by omega, by omega⟩))
theorem put_bad (n s : Int) (h : PutBad n s) (hm : n ≤ 9223372036854775807) (w : World) : Calls Tryz.prog 64 #[.int .i64 n, .int .i64 s] w fun e w' => e = .returned (.tuple #[.slice none 0 0, .int .i64 2]) ∧ Below w.heap.size w w' := by
  rcases h with h | ⟨h1, h2, h3⟩ | ⟨N, k, rfl, rfl, h1, h2, h3⟩
  · exact put_size _ _ h w
  · exact put_neg _ _ h1 h2 h3 w
  · exact put_big _ _ h1 h2 h3 (by omega) w
theorem put_at (n k : Nat) (s : Int) (hs : s = k) (h1 : 1 ≤ k) (h2 : k ≤ 4) (hm : n < 256 ^ k) (w : World) :
    Calls Tryz.prog 64 #[.int .i64 n, .int .i64 s] w fun e W' => e = .returned (.tuple #[.slice (some ⟨w.heap.size + 1, 0, none⟩) k k, .int .i64 0]) ∧ Holds W' (w.heap.size + 1) (leB k n) ∧ Below w.heap.size w W' ∧ w.heap.size + 1 < W'.heap.size := by
  subst hs; exact put_ok n k h1 h2 hm w
theorem leB_take (k N : Nat) : leB (k + 1) N = leB k N ++ [byteAt N k] := by simp [leB, List.range_succ]
theorem byteAt_over {N k : Nat} (h : N < 256 ^ k) : byteAt N k = 0 := by unfold byteAt; rw [Nat.div_eq_of_lt h]; rfl
theorem byteAt_succ (n i : Nat) : byteAt n (i + 1) = byteAt (n / 256) i := by
  unfold byteAt; rw [Nat.pow_succ, Nat.mul_comm, ← Nat.div_div_eq_div_mul]
theorem leB_succ (k n : Nat) : leB (k + 1) n = byteAt n 0 :: leB k (n / 256) := by
  unfold leB
  rw [List.range_succ_eq_map, List.map_cons, List.map_map]
  congr 1
  apply List.map_congr_left
  intro i _
  exact byteAt_succ n i
theorem leN_leB : ∀ (k n : Nat), n < 256 ^ k → leN (leB k n) = n
  | 0, n, h => by simp at h; simp [leB, leN, h]
  | k + 1, n, h => by
    have h' : n / 256 < 256 ^ k := by rw [Nat.pow_succ] at h; omega
    rw [leB_succ, leN, leN_leB k _ h', byteAt_toNat]
    simp <;> omega
theorem leB_leN : ∀ l : List UInt8, leB l.length (leN l) = l
  | [] => rfl
  | x :: r => by
    have h2 := x.toNat_lt
    rw [List.length_cons, leB_succ, leN, show (x.toNat + 256 * leN r) / 256 = leN r by omega, leB_leN r]
    congr 1
    apply UInt8.toNat_inj.1
    rw [byteAt_toNat]
    simp <;> omega

/-- What Get refuses, and what it lacks. -/
theorem getCase (len : Nat) (i s : Int) : (∃ j k : Nat, i = j ∧ s = k ∧ 1 ≤ k ∧ k ≤ 4 ∧ j + k ≤ len) ∨ ((s < 1 ∨ 4 < s) ∨ (1 ≤ s ∧ s ≤ 4 ∧ (i < 0 ∨ len < i))) ∨ (1 ≤ s ∧ s ≤ 4 ∧ 0 ≤ i ∧ i ≤ len ∧ len - i < s) := by
  by_cases hs : s < 1 ∨ 4 < s
  · exact .inr (.inl (.inl hs))
  · by_cases hi : i < 0 ∨ (len : Int) < i
    · exact .inr (.inl (.inr ⟨by omega, by omega, hi⟩))
    · by_cases hl : (len : Int) - i < s
      · exact .inr (.inr ⟨by omega, by omega, by omega, by omega, hl⟩)
      · obtain ⟨j, rfl⟩ := Int.eq_ofNat_of_zero_le (show 0 ≤ i by omega)
        obtain ⟨k, rfl⟩ := Int.eq_ofNat_of_zero_le (show 0 ≤ s by omega)
        exact .inl ⟨j, k, rfl, rfl, by omega, by omega, by omega⟩
theorem get_arg (a : Option Addr) (len cap : Nat) (i s : Int) (h : (s < 1 ∨ 4 < s) ∨ (1 ≤ s ∧ s ≤ 4 ∧ (i < 0 ∨ len < i))) (w : World) : Calls Tryz.prog 70 #[.slice a len cap, .int .i64 i, .int .i64 s] w fun e w' => e = .returned (.tuple #[.int .i64 0, .int .i64 2]) ∧ w = w' := by
  rcases h with h | ⟨h1, h2, h3 | h3⟩
  · exact get_size a len cap i s h w
  · exact get_neg a len cap i s h1 h2 h3 w
  · exact get_far a len cap i s h1 h2 h3 w
theorem get_bsl {w : World} {a : Option Addr} {len cap : Nat} {s : List UInt8} (h : Bsl w w.heap.size a len cap s) (i k : Nat) (h1 : 1 ≤ k) (h2 : k ≤ 4) (hk : i + k ≤ len) :
    Calls Tryz.prog 70 #[.slice a len cap, .int .i64 i, .int .i64 k] w fun e W' => e = .returned (.tuple #[.int .i64 (leN ((s.drop i).take k) : Nat), .int .i64 0]) ∧ Below w.heap.size w W' := by
  obtain ⟨e1, e2, e3, _, e5⟩ := h
  obtain ⟨b, off, rfl, hb, hc⟩ := e5 (by omega)
  exact get_ok b off len cap i k s e1 e2 (by unfold maxLen at e3; omega) h1 h2 hk w hb hc
end Go.Proofs.YtldnelimemjaiaaGreatDoor
/-
  Words for pointers by value (api.Ptr): five numbers; two of them compared; a row of them in memory.
-/
namespace Go.Proofs.YtldnelimemjaiaaGreatDoor
open Go.RowKit Go.Shelf
set_option maxRecDepth 100000

/-- A pointer: At, Birth, Iv, Tag, Sum. -/
abbrev Pt := Int × Nat × Nat × Nat × Nat
/-- The pointer as a value. -/
@[reducible] def ptV (p : Pt) : Value := .agg #[.int .i64 p.1, .int .u32 (p.2.1 : Int), .int .u32 (p.2.2.1 : Int), .int .u32 (p.2.2.2.1 : Int), .int .u32 (p.2.2.2.2 : Int)]
/-- Its cells. -/
def ptC (p : Pt) : List Value := [.int .i64 p.1, .int .u32 (p.2.1 : Int), .int .u32 (p.2.2.1 : Int), .int .u32 (p.2.2.2.1 : Int), .int .u32 (p.2.2.2.2 : Int)]
/-- Each of its numbers is one of its kind. -/
def WfP (p : Pt) : Prop := (-9223372036854775808 ≤ p.1 ∧ p.1 ≤ 9223372036854775807) ∧ p.2.1 < 4294967296 ∧ p.2.2.1 < 4294967296 ∧ p.2.2.2.1 < 4294967296 ∧ p.2.2.2.2 < 4294967296
/-- None. -/
abbrev p0 : Pt := (0, 0, 0, 0, 0)
theorem wf_p0 : WfP p0 := ⟨⟨by decide, by decide⟩, by decide, by decide, by decide, by decide⟩
/-- A pointer may be. -/
def MayP (p : Pt) : Prop := p = p0 ∨ ((12 ≤ p.1 ∧ p.1 < 256) ∧ 1 ≤ p.2.1 ∧ p.2.1 ≤ 16777215)
instance (p : Pt) : Decidable (MayP p) := by unfold MayP; exact inferInstance
theorem may_p0 : MayP p0 := .inl rfl

/-- Two pointers are the same just where their numbers are. -/
def eqP (p q : Pt) : Bool := decide (p = q)
theorem eqP_iff (p q : Pt) : eqP p q = true ↔ p = q := by simp [eqP]
theorem eqP_parts (p q : Pt) : eqP p q = ((p.1 == q.1) && (((p.2.1 : Nat) : Int) == ((q.2.1 : Nat) : Int) && (((p.2.2.1 : Nat) : Int) == ((q.2.2.1 : Nat) : Int) && (((p.2.2.2.1 : Nat) : Int) == ((q.2.2.2.1 : Nat) : Int) && ((p.2.2.2.2 : Nat) : Int) == ((q.2.2.2.2 : Nat) : Int))))) := by
  obtain ⟨a, b, c, d, e⟩ := p
  obtain ⟨a', b', c', d', e'⟩ := q
  rw [Bool.eq_iff_iff]
  simp [eqP]
  omega
theorem eqF_step {P : Program} {w : World} {d : Nat} {xs ys : Array Value} {f : Field} {fs : List Field} {a b : Value} {r R : Bool} (hn : f.name ≠ "_") (ha : (part f.type xs f.offset).run P w = .ok a w) (hb : (part f.type ys f.offset).run P w = .ok b w)
    (he : (Op.equalIn d f.type a b).run P w = .ok r w) (hr : (Op.eqFields d xs ys fs).run P w = .ok R w) : (Op.eqFields d xs ys (f :: fs)).run P w = .ok (r && R) w := by
  simp only [Op.eqFields, if_pos hn, Sem.run_bind, ha, hb, he, Result.andThen_ok]
  cases r <;> simp [hr]
theorem eqPt (p q : Pt) (w : World) : (Op.equalIn 10000 28 (ptV p) (ptV q)).run Tryz.prog w = .ok (eqP p q) w := by
  have hu : Tryz.prog.underlying 28 = some (.struct (Tryz.prog.fieldsOf 28)) := by kernel_rfl
  have hs : Tryz.prog.stoodInHeld 28 = false := by kernel_rfl
  obtain ⟨f0, f1, f2, f3, f4, hf, n0, n1, n2, n3, n4, t0, t1, t2, t3, t4, o0, o1, o2, o3, o4⟩ : ∃ f0 f1 f2 f3 f4 : Field, (Tryz.prog.fieldsOf 28).toList = [f0, f1, f2, f3, f4] ∧ f0.name ≠ "_" ∧ f1.name ≠ "_" ∧ f2.name ≠ "_" ∧ f3.name ≠ "_" ∧ f4.name ≠ "_" ∧ f0.type = 3 ∧ f1.type = 26 ∧ f2.type = 26 ∧ f3.type = 26 ∧ f4.type = 26 ∧ f0.offset = 0 ∧ f1.offset = 1 ∧ f2.offset = 2 ∧ f3.offset = 3 ∧ f4.offset = 4 :=
    ⟨_, _, _, _, _, rfl, by decide, by decide, by decide, by decide, by decide, rfl, rfl, rfl, rfl, rfl, rfl, rfl, rfl, rfl, rfl⟩
  rw [ptV, ptV, run_equalIn_struct w 9999 28 _ _ hu hs, hf]
  have pI : ∀ (cs : Array Value) (i : Nat) (v : Value) (_ : cs[i]? = some v) (w : World), (part 3 cs i).run Tryz.prog w = .ok v w := fun cs i v h w => run_part_plain w (by kernel_rfl) h
  have pU : ∀ (cs : Array Value) (i : Nat) (v : Value) (_ : cs[i]? = some v) (w : World), (part 26 cs i).run Tryz.prog w = .ok v w := fun cs i v h w => run_part_plain w (by kernel_rfl) h
  have eI : ∀ (a b : Int) (w : World), (Op.equalIn 9999 3 (.int .i64 a) (.int .i64 b)).run Tryz.prog w = .ok (a == b) w := fun a b w => run_equalIn_int w 9998 3 .i64 .i64 a b Tryz.underlying3
  have eU : ∀ (a b : Int) (w : World), (Op.equalIn 9999 26 (.int .u32 a) (.int .u32 b)).run Tryz.prog w = .ok (a == b) w := fun a b w => run_equalIn_int w 9998 26 .u32 .u32 a b Tryz.underlying26
  have nil : (Op.eqFields 9999 #[.int .i64 p.1, .int .u32 (p.2.1 : Int), .int .u32 (p.2.2.1 : Int), .int .u32 (p.2.2.2.1 : Int), .int .u32 (p.2.2.2.2 : Int)] #[.int .i64 q.1, .int .u32 (q.2.1 : Int), .int .u32 (q.2.2.1 : Int), .int .u32 (q.2.2.2.1 : Int), .int .u32 (q.2.2.2.2 : Int)] []).run Tryz.prog w = .ok true w := rfl
  have h4 := eqF_step n4 (by rw [t4, o4]; exact pU _ 4 _ rfl w) (by rw [t4, o4]; exact pU _ 4 _ rfl w) (by rw [t4]; exact eU _ _ w) nil
  have h3 := eqF_step n3 (by rw [t3, o3]; exact pU _ 3 _ rfl w) (by rw [t3, o3]; exact pU _ 3 _ rfl w) (by rw [t3]; exact eU _ _ w) h4
  have h2 := eqF_step n2 (by rw [t2, o2]; exact pU _ 2 _ rfl w) (by rw [t2, o2]; exact pU _ 2 _ rfl w) (by rw [t2]; exact eU _ _ w) h3
  have h1 := eqF_step n1 (by rw [t1, o1]; exact pU _ 1 _ rfl w) (by rw [t1, o1]; exact pU _ 1 _ rfl w) (by rw [t1]; exact eU _ _ w) h2
  have h0 := eqF_step n0 (by rw [t0, o0]; exact pI _ 0 _ rfl w) (by rw [t0, o0]; exact pI _ 0 _ rfl w) (by rw [t0]; exact eI _ _ w) h1
  rw [h0, eqP_parts, Bool.and_true]
/-- As the walk meets it. -/
theorem eqPt_lit (x : Int) (a b c d : Nat) (x' : Int) (a' b' c' d' : Nat) (w : World) : (Op.equalIn 10000 28 (.agg #[.int .i64 x, .int .u32 (a : Int), .int .u32 (b : Int), .int .u32 (c : Int), .int .u32 (d : Int)]) (.agg #[.int .i64 x', .int .u32 (a' : Int), .int .u32 (b' : Int), .int .u32 (c' : Int), .int .u32 (d' : Int)])).run Tryz.prog w = .ok (eqP (x, a, b, c, d) (x', a', b', c', d')) w := eqPt (x, a, b, c, d) (x', a', b', c', d') w
theorem eqPt_zero (x : Int) (a b c d : Nat) (w : World) : (Op.equalIn 10000 28 (.agg #[.int .i64 x, .int .u32 (a : Int), .int .u32 (b : Int), .int .u32 (c : Int), .int .u32 (d : Int)]) (.agg #[.int .i64 0, .int .u32 0, .int .u32 0, .int .u32 0, .int .u32 0])).run Tryz.prog w = .ok (eqP (x, a, b, c, d) p0) w := eqPt (x, a, b, c, d) p0 w

/-- A slice of pointers that lies below block B reads as L. -/
def Pts (w : World) (B : Nat) (a : Option Addr) (len cap : Nat) (L : List Pt) : Prop :=
  L.length = len ∧ len ≤ cap ∧ cap ≤ maxLen ∧ (a = none → cap = 0) ∧
    (0 < len → ∃ b off, a = some ⟨b, off, none⟩ ∧ b < B ∧ ∀ i (h : i < L.length), WfP L[i] ∧ ∀ j u, (ptC L[i])[j]? = some u → w.cell? ⟨b, off + i * 5 + j, none⟩ = some u)
theorem pts_nil (w : World) (B : Nat) : Pts w B none 0 0 [] := ⟨rfl, Nat.le_refl _, Nat.zero_le _, fun _ => rfl, fun h => absurd h (Nat.lt_irrefl _)⟩
section
variable {w w' : World} {B len cap : Nat} {a : Option Addr} {L : List Pt}
theorem Pts.below (h : Pts w B a len cap L) (hb : Below B w w') : Pts w' B a len cap L := by
  obtain ⟨h1, h2, h3, h4, h5⟩ := h
  refine ⟨h1, h2, h3, h4, fun hl => ?_⟩
  obtain ⟨b, off, e, hlt, hc⟩ := h5 hl
  exact ⟨b, off, e, hlt, fun i hi => ⟨(hc i hi).1, fun j u hu => (hb.cell (p := ⟨b, off + i * 5 + j, none⟩) hlt).trans ((hc i hi).2 j u hu)⟩⟩
theorem Pts.more {B' : Nat} (h : Pts w B a len cap L) (hB : B ≤ B') : Pts w B' a len cap L := by
  obtain ⟨h1, h2, h3, h4, h5⟩ := h
  refine ⟨h1, h2, h3, h4, fun hl => ?_⟩
  obtain ⟨b, off, e, hlt, hc⟩ := h5 hl
  exact ⟨b, off, e, by omega, hc⟩
theorem Pts.step (h : Pts w w.heap.size a len cap L) (hb : Below w.heap.size w w') : Pts w' w'.heap.size a len cap L := (h.below hb).more hb.size
theorem Pts.wf (h : Pts w B a len cap L) {p : Pt} (hp : p ∈ L) : WfP p := by
  obtain ⟨i, hi, rfl⟩ := List.getElem_of_mem hp
  obtain ⟨b, off, _, _, hc⟩ := h.2.2.2.2 (by rw [← h.1]; omega)
  exact (hc i hi).1
/-- The five cells of a pointer. -/
theorem Pts.cells (h : Pts w B a len cap L) (i : Nat) (hi : i < len) : ∃ b off, a = some ⟨b, off, none⟩ ∧ b < B ∧ WfP (L.getD i p0) ∧ w.cell? ⟨b, off + i * 5, none⟩ = some (.int .i64 (L.getD i p0).1) ∧ w.cell? ⟨b, off + i * 5 + 1, none⟩ = some (.int .u32 ((L.getD i p0).2.1 : Int)) ∧ w.cell? ⟨b, off + i * 5 + 2, none⟩ = some (.int .u32 ((L.getD i p0).2.2.1 : Int)) ∧
    w.cell? ⟨b, off + i * 5 + 3, none⟩ = some (.int .u32 ((L.getD i p0).2.2.2.1 : Int)) ∧ w.cell? ⟨b, off + i * 5 + 4, none⟩ = some (.int .u32 ((L.getD i p0).2.2.2.2 : Int)) := by
  obtain ⟨b, off, e, hb, hc⟩ := h.2.2.2.2 (by omega)
  have hl : i < L.length := by rw [h.1]; exact hi
  obtain ⟨hw, hx⟩ := hc i hl
  have hg : L.getD i p0 = L[i] := by rw [List.getD_eq_getElem?_getD, List.getElem?_eq_getElem hl]; rfl
  rw [hg]
  exact ⟨b, off, e, hb, hw, hx 0 _ rfl, hx 1 _ rfl, hx 2 _ rfl, hx 3 _ rfl, hx 4 _ rfl⟩
end
/-- The cells of pointers. -/
def ptCs (L : List Pt) : List Value := L.flatMap ptC
theorem ptCs_length : ∀ L : List Pt, (ptCs L).length = L.length * 5
  | [] => rfl
  | p :: L => by
    show (ptC p ++ ptCs L).length = _
    rw [List.length_append, ptCs_length L, List.length_cons]
    show 5 + _ = _
    omega
theorem ptCs_append (L M : List Pt) : ptCs (L ++ M) = ptCs L ++ ptCs M := by simp [ptCs]
theorem ptCs_get : ∀ (L : List Pt) (i : Nat) (h : i < L.length) (j : Nat) (u : Value), (ptC L[i])[j]? = some u → (ptCs L)[i * 5 + j]? = some u
  | p :: L, 0, _, j, u, hu => by
    show (ptC p ++ ptCs L)[_]? = _
    have hj : j < (ptC p).length := by
      rcases Nat.lt_or_ge j (ptC p).length with hj | hj
      · exact hj
      · rw [show ((p :: L)[0]) = p from rfl, List.getElem?_eq_none hj] at hu; cases hu
    rw [List.getElem?_append_left (by omega), Nat.zero_mul, Nat.zero_add]
    exact hu
  | p :: L, i + 1, h, j, u, hu => by
    show (ptC p ++ ptCs L)[_]? = _
    have hl : (ptC p).length = 5 := rfl
    rw [List.getElem?_append_right (by omega), hl, show (i + 1) * 5 + j - 5 = i * 5 + j by omega]
    exact ptCs_get L i (by simpa using h) j u hu
/-- A row of the call's own, of pointers. -/
def PRow (w : World) (base : Nat) (v : Value) (L : List Pt) : Prop := w.ownsRow base 28 5 v L.length (ptCs L) ∧ ∀ p ∈ L, WfP p
theorem PRow.pts {w : World} {base : Nat} {v : Value} {L : List Pt} (h : PRow w base v L) : ∃ a c, v = .slice a L.length c ∧ Pts w w.heap.size a L.length c L := by
  obtain ⟨⟨hl, ⟨rfl, h0⟩ | ⟨g, cap, cur, rfl, _, h3, h4, h5, h6, h7⟩⟩, hw⟩ := h
  · have : L = [] := List.eq_nil_of_length_eq_zero h0
    subst this
    exact ⟨none, 0, rfl, pts_nil _ _⟩
  · refine ⟨_, _, rfl, rfl, h4, h5, fun e => (by cases e), fun _ => ⟨g, 0, rfl, (Array.getElem?_eq_some_iff.1 h3).1, fun i hi => ⟨hw _ (List.getElem_mem hi), fun j u hu => ?_⟩⟩⟩
    have hg := ptCs_get L i hi j u hu
    have hj : i * 5 + j < L.length * 5 := by
      rcases Nat.lt_or_ge (i * 5 + j) (ptCs L).length with hj | hj
      · rw [ptCs_length] at hj; exact hj
      · rw [List.getElem?_eq_none hj] at hg; cases hg
    rw [Nat.zero_add, cell_of_row w g _ cur 28 (0, 0) h3, ← Array.getElem?_toList, ← hg, ← h7, List.getElem?_take_of_lt hj]
theorem PRow.below {w w' : World} {base : Nat} {v : Value} {L : List Pt} (h : PRow w base v L) (hb : Below w.heap.size w w') : PRow w' base v L := ⟨own_below h.1 hb, h.2⟩
theorem prow_nil (w : World) (base : Nat) : PRow w base (.slice none 0 0) [] := ⟨World.ownsRow_nil _ _ _ _, fun _ h => (by cases h)⟩
theorem PRow.mono {w : World} {B B' : Nat} {v : Value} {L : List Pt} (h : PRow w B v L) (hB : B' ≤ B) : PRow w B' v L := ⟨own_mono h.1 hB, h.2⟩
/-- The cells of a block that is a pointer. -/
theorem Blk.five {w : World} {g : Nat} {t : TypeId} {a : Int} {b c d e : Nat} (h : Blk w g t #[.int .i64 a, .int .u32 (b : Int), .int .u32 (c : Int), .int .u32 (d : Int), .int .u32 (e : Int)]) : w.cell? ⟨g, 0, none⟩ = some (.int .i64 a) ∧ w.cell? ⟨g, 1, none⟩ = some (.int .u32 (b : Int)) ∧ w.cell? ⟨g, 2, none⟩ = some (.int .u32 (c : Int)) ∧ w.cell? ⟨g, 3, none⟩ = some (.int .u32 (d : Int)) ∧ w.cell? ⟨g, 4, none⟩ = some (.int .u32 (e : Int)) :=
  ⟨h.cell 0, h.cell 1, h.cell 2, h.cell 3, h.cell 4⟩
/-- Five cells are written. -/
@[reducible] def set5 (w : World) (g : Nat) (v0 v1 v2 v3 v4 : Value) : World := ((((w.setCell ⟨g, 0, none⟩ v0).setCell ⟨g, 1, none⟩ v1).setCell ⟨g, 2, none⟩ v2).setCell ⟨g, 3, none⟩ v3).setCell ⟨g, 4, none⟩ v4
theorem Blk.set5 {w : World} {g : Nat} {t : TypeId} {u0 u1 u2 u3 u4 : Value} (h : Blk w g t #[u0, u1, u2, u3, u4]) (v0 v1 v2 v3 v4 : Value) : Blk (set5 w g v0 v1 v2 v3 v4) g t #[v0, v1, v2, v3, v4] :=
  ((((h.set_ 0 v0).set_ 1 v1).set_ 2 v2).set_ 3 v3).set_ 4 v4
theorem below_set5 {B : Nat} {a w : World} {g : Nat} (h : Below B a w) (hg : B ≤ g) (v0 v1 v2 v3 v4 : Value) : Below B a (set5 w g v0 v1 v2 v3 v4) :=
  ((((h.setCell (p := ⟨g, 0, none⟩) hg v0).setCell (p := ⟨g, 1, none⟩) hg v1).setCell (p := ⟨g, 2, none⟩) hg v2).setCell (p := ⟨g, 3, none⟩) hg v3).setCell (p := ⟨g, 4, none⟩) hg v4
theorem only_set5 {a w : World} {g : Nat} (h : a.grownBy w (some g)) (v0 v1 v2 v3 v4 : Value) : a.grownBy (set5 w g v0 v1 v2 v3 v4) (some g) :=
  only_setCell (only_setCell (only_setCell (only_setCell (only_setCell h (.inl rfl) v0) (.inl rfl) v1) (.inl rfl) v2) (.inl rfl) v3) (.inl rfl) v4
theorem size_set5 (w : World) (g : Nat) (v0 v1 v2 v3 v4 : Value) : (set5 w g v0 v1 v2 v3 v4).heap.size = w.heap.size := by simp [set5, World.setCell]
end Go.Proofs.YtldnelimemjaiaaGreatDoor
/-
  A row of the call's own that holds a text, and is written byte by byte.
-/
namespace Go.Proofs.YtldnelimemjaiaaGreatDoor
open Go.RowKit Go.Shelf
set_option maxRecDepth 100000

/-- A row of the call's own that holds a text. -/
def RowI (W : World) (g len cap : Nat) (t : List UInt8) : Prop := ∃ cur : Array Value, Blk W g 5 cur ∧ cur.size = cap ∧ t.length = len ∧ len ≤ cap ∧ cur.toList.take len = vals t
theorem RowI.get {W : World} {g len cap : Nat} {t : List UInt8} (h : RowI W g len cap t) {j : Nat} (hj : j < len) : ∃ u, W.cell? ⟨g, j, none⟩ = some u := by
  obtain ⟨cur, hb, hs, _, hl, _⟩ := h
  rw [hb.cell j]
  exact ⟨_, Array.getElem?_eq_getElem (by omega)⟩
theorem RowI.holds {W : World} {g len cap : Nat} {t : List UInt8} (h : RowI W g len cap t) : Holds W g t := by
  obtain ⟨cur, hb, hs, ht, hl, hc⟩ := h
  intro i hi
  rw [hb.cell i]
  have : (vals t)[i]? = some (.int .u8 ((t[i]).toNat : Int)) := by simp [vals, hi]
  rw [← hc, List.getElem?_take_of_lt (by omega)] at this
  rw [← this, Array.getElem?_toList]
theorem RowI.set_ {W : World} {g len cap : Nat} {t : List UInt8} (h : RowI W g len cap t) {j : Nat} (_hj : j < len) (y : UInt8) : RowI (W.setCell ⟨g, j, none⟩ (.int .u8 (y.toNat : Int))) g len cap (t.set j y) := by
  obtain ⟨cur, hb, hs, ht, hl, hc⟩ := h
  refine ⟨_, hb.set_ j _, by simpa using hs, by rw [List.length_set]; exact ht, hl, ?_⟩
  rw [Array.toList_setIfInBounds, List.take_set, hc, vals, vals, List.map_set]
theorem RowI.below {W W1 : World} {g len cap B : Nat} {t : List UInt8} (h : RowI W g len cap t) (hb : Below B W W1) (hg : g < B) : RowI W1 g len cap t := by
  obtain ⟨cur, h1, h2⟩ := h
  exact ⟨cur, h1.below hb hg, h2⟩
theorem rowI_of_own {w : World} {base n : Nat} {v : Value} {s : List UInt8} (h : w.ownsRow base 5 1 v n (vals s)) (hn : 0 < n) :
    ∃ g cap, v = .slice (some ⟨g, 0, none⟩) n cap ∧ base ≤ g ∧ g < w.heap.size ∧ cap ≤ maxLen ∧ RowI w g n cap s := by
  have hl : s.length = n := by have := h.1; simpa [vals] using this
  obtain ⟨h1, h2 | ⟨g, cap, cur, rfl, hb, hh, hnc, hcm, hsz, ht⟩⟩ := h
  · omega
  · exact ⟨g, cap, rfl, hb, (Array.getElem?_eq_some_iff.1 hh).1, hcm, cur, hh, by omega, hl, hnc, by simpa using ht⟩
end Go.Proofs.YtldnelimemjaiaaGreatDoor
/-
  ptr.mayBe, ptr.put and ptr.get, whatever pointer and whichever sixteen bytes they are handed; nothing that was there is written.
-/
namespace Go.Proofs.YtldnelimemjaiaaGreatDoor
open Go.RowKit Go.Shelf
set_option maxRecDepth 100000

/-- The sizes lie where the program's initialiser laid them. -/
def Szs (w : World) : Prop := 0 < w.heap.size ∧ w.cell? ⟨0, 0, none⟩ = some (.int .i64 1) ∧ w.cell? ⟨0, 1, none⟩ = some (.int .i64 3) ∧ w.cell? ⟨0, 2, none⟩ = some (.int .i64 4) ∧ w.cell? ⟨0, 3, none⟩ = some (.int .i64 4) ∧ w.cell? ⟨0, 4, none⟩ = some (.int .i64 4)
theorem Szs.below {B : Nat} {w w' : World} (h : Szs w) (hb : Below B w w') (hB : 0 < B) : Szs w' := by
  obtain ⟨h0, h1, h2, h3, h4, h5⟩ := h
  exact ⟨Nat.lt_of_lt_of_le h0 hb.size, (hb.cell (p := ⟨0, 0, none⟩) hB).trans h1, (hb.cell (p := ⟨0, 1, none⟩) hB).trans h2, (hb.cell (p := ⟨0, 2, none⟩) hB).trans h3, (hb.cell (p := ⟨0, 3, none⟩) hB).trans h4, (hb.cell (p := ⟨0, 4, none⟩) hB).trans h5⟩
theorem Szs.step {w w' : World} (h : Szs w) (hb : Below w.heap.size w w') : Szs w' := h.below hb h.1

theorem szIdx0 (W : World) : (Instr.index 115 (.agg #[.int .i64 1, .int .i64 3, .int .i64 4, .int .i64 4, .int .i64 4]) (.int .i64 0)).run Tryz.prog W = .ok (.int .i64 1) W := by kernel_rfl
theorem szIdx1 (W : World) : (Instr.index 115 (.agg #[.int .i64 1, .int .i64 3, .int .i64 4, .int .i64 4, .int .i64 4]) (.int .i64 1)).run Tryz.prog W = .ok (.int .i64 3) W := by kernel_rfl
theorem szIdx2 (W : World) : (Instr.index 115 (.agg #[.int .i64 1, .int .i64 3, .int .i64 4, .int .i64 4, .int .i64 4]) (.int .i64 2)).run Tryz.prog W = .ok (.int .i64 4) W := by kernel_rfl
theorem szIdx3 (W : World) : (Instr.index 115 (.agg #[.int .i64 1, .int .i64 3, .int .i64 4, .int .i64 4, .int .i64 4]) (.int .i64 3)).run Tryz.prog W = .ok (.int .i64 4) W := by kernel_rfl
theorem szIdx4 (W : World) : (Instr.index 115 (.agg #[.int .i64 1, .int .i64 3, .int .i64 4, .int .i64 4, .int .i64 4]) (.int .i64 4)).run Tryz.prog W = .ok (.int .i64 4) W := by kernel_rfl
/-- A pointer's bytes. -/
def bytesP (p : Pt) : List UInt8 := leB 1 p.1.toNat ++ leB 3 p.2.1 ++ leB 4 p.2.2.1 ++ leB 4 p.2.2.2.1 ++ leB 4 p.2.2.2.2
theorem bytesP_length (p : Pt) : (bytesP p).length = 16 := by simp [bytesP, leB_length]
/-- The pointer whose bytes these are. -/
def getP (s : List UInt8) : Pt := (((leN ((s.drop 0).take 1) : Nat) : Int), leN ((s.drop 1).take 3), leN ((s.drop 4).take 4), leN ((s.drop 8).take 4), leN ((s.drop 12).take 4))
theorem leN_le (s : List UInt8) (i k : Nat) : leN ((s.drop i).take k) < 256 ^ k :=
  Nat.lt_of_lt_of_le (leN_lt _) (Nat.pow_le_pow_right (by omega) (by simp; omega))
theorem wf_getP (s : List UInt8) : WfP (getP s) := by
  have h0 := leN_le s 0 1
  have h1 := leN_le s 1 3
  have h2 := leN_le s 4 4
  have h3 := leN_le s 8 4
  have h4 := leN_le s 12 4
  refine ⟨⟨?_, ?_⟩, ?_, ?_, ?_, ?_⟩ <;> simp only [getP] <;> omega
/-- A pointer that may be has numbers that have room. -/
theorem MayP.room {p : Pt} (h : MayP p) : (0 ≤ p.1 ∧ p.1 < 256) ∧ p.2.1 < 16777216 := by
  rcases h with rfl | ⟨⟨h1, h2⟩, h3, h4⟩
  · decide
  · omega
theorem getP_bytesP {p : Pt} (h : MayP p) (hw : WfP p) : getP (bytesP p) = p := by
  obtain ⟨⟨h1, h2⟩, h3⟩ := h.room
  obtain ⟨_, _, h4, h5, h6⟩ := hw
  obtain ⟨a, b, c, d, e⟩ := p
  dsimp only at h1 h2 h3 h4 h5 h6
  have e0 : ((bytesP (a, b, c, d, e)).drop 0).take 1 = leB 1 a.toNat := by simp [bytesP, leB_length]
  have l1 := leB_length 1 a.toNat
  have l2 := leB_length 3 b
  have l3 := leB_length 4 c
  have l4 := leB_length 4 d
  have l5 := leB_length 4 e
  have cut : ∀ (A B C : List UInt8) (i k : Nat), A.length = i → B.length = k → ((A ++ (B ++ C)).drop i).take k = B := fun A B C i k h1 h2 => by
    subst h1; subst h2; simp
  have e1 : ((bytesP (a, b, c, d, e)).drop 1).take 3 = leB 3 b := by
    have := cut (leB 1 a.toNat) (leB 3 b) (leB 4 c ++ leB 4 d ++ leB 4 e) 1 3 l1 l2
    simpa [bytesP] using this
  have e2 : ((bytesP (a, b, c, d, e)).drop 4).take 4 = leB 4 c := by
    have := cut (leB 1 a.toNat ++ leB 3 b) (leB 4 c) (leB 4 d ++ leB 4 e) 4 4 (by simp [leB_length]) l3
    simpa [bytesP] using this
  have e3 : ((bytesP (a, b, c, d, e)).drop 8).take 4 = leB 4 d := by
    have := cut (leB 1 a.toNat ++ leB 3 b ++ leB 4 c) (leB 4 d) (leB 4 e) 8 4 (by simp [leB_length]) l4
    simpa [bytesP] using this
  have e4 : ((bytesP (a, b, c, d, e)).drop 12).take 4 = leB 4 e := by
    have := cut (leB 1 a.toNat ++ leB 3 b ++ leB 4 c ++ leB 4 d) (leB 4 e) [] 12 4 (by simp [leB_length]) l5
    simpa [bytesP] using this
  rw [getP, e0, e1, e2, e3, e4, leN_leB 1 _ (by omega), leN_leB 3 _ (by omega), leN_leB 4 _ (by omega), leN_leB 4 _ (by omega), leN_leB 4 _ (by omega)]
  have : ((a.toNat : Nat) : Int) = a := by omega
  rw [this]
theorem bytesP_getP {s : List UInt8} (h : s.length = 16) : bytesP (getP s) = s := by
  have back : ∀ (i k : Nat), i + k ≤ 16 → leB k (leN ((s.drop i).take k)) = (s.drop i).take k := fun i k hk => by
    have := leB_leN ((s.drop i).take k)
    rwa [win_length (by omega)] at this
  have e0 : (((leN ((s.drop 0).take 1) : Nat) : Int)).toNat = leN ((s.drop 0).take 1) := by omega
  simp only [bytesP, getP]
  rw [e0, back 0 1 (by omega), back 1 3 (by omega), back 4 4 (by omega), back 8 4 (by omega), back 12 4 (by omega)]
  have j : ∀ i k, s.take i ++ (s.drop i).take k = s.take (i + k) := fun i k => List.take_add.symm
  rw [List.drop_zero, j 1 3, j 4 4, j 8 4, j 12 4]
  exact List.take_of_length_le (by omega)

theorem isTaken_any (a : Int) (w : World) : Calls Tryz.prog 88 #[.int .i64 a] w fun e w' => e = .returned (.bool (decide (12 ≤ a ∧ a < 256))) ∧ w = w' := by
  by_cases h : 12 ≤ a
  · by_cases h2 : a < 256
    · rw [decide_eq_true (And.intro h h2)]
      go_enter Tryz.func88, Tryz.ntmps88
      go_wp2_with fail
      go_ret
      exact ⟨rfl, rfl⟩
    · rw [decide_eq_false (fun hh : 12 ≤ a ∧ a < 256 => h2 hh.2)]
      go_enter Tryz.func88, Tryz.ntmps88
      go_wp2_with fail
      go_ret
      exact ⟨rfl, rfl⟩
  · rw [decide_eq_false (fun hh : 12 ≤ a ∧ a < 256 => h hh.1)]
    go_enter Tryz.func88, Tryz.ntmps88
    go_wp2_with fail
    go_ret
    exact ⟨rfl, rfl⟩
theorem isSync_any (b : Nat) (w : World) : Calls Tryz.prog 89 #[.int .u32 (b : Int)] w fun e w' => e = .returned (.bool (decide (1 ≤ b ∧ b ≤ 16777215))) ∧ w = w' := by
  by_cases h : 1 ≤ b
  · by_cases h2 : b ≤ 16777215
    · rw [decide_eq_true (And.intro h h2)]
      have i1 : (1 : Int) ≤ (b : Int) := by omega
      have i2 : (b : Int) ≤ 16777215 := by omega
      go_enter Tryz.func89, Tryz.ntmps89
      go_wp2_with fail
      go_ret
      exact ⟨rfl, rfl⟩
    · rw [decide_eq_false (fun hh : 1 ≤ b ∧ b ≤ 16777215 => h2 hh.2)]
      have i1 : (1 : Int) ≤ (b : Int) := by omega
      have i2 : ¬ (b : Int) ≤ 16777215 := by omega
      go_enter Tryz.func89, Tryz.ntmps89
      go_wp2_with fail
      go_ret
      exact ⟨rfl, rfl⟩
  · rw [decide_eq_false (fun hh : 1 ≤ b ∧ b ≤ 16777215 => h hh.1)]
    have i1 : ¬ (1 : Int) ≤ (b : Int) := by omega
    go_enter Tryz.func89, Tryz.ntmps89
    go_wp2_with fail
    go_ret
    exact ⟨rfl, rfl⟩
theorem mayBe_any (p : Pt) (w : World) : Calls Tryz.prog 61 #[ptV p] w fun e w' => e = .returned (.bool (decide (MayP p))) ∧ Below w.heap.size w w' := by
  obtain ⟨a, b, c, d, e⟩ := p
  have heq := eqPt_zero a b c d e
  by_cases h0 : eqP (a, b, c, d, e) p0 = true
  · have hm : decide (MayP (a, b, c, d, e)) = true := decide_eq_true (.inl ((eqP_iff _ _).1 h0))
    rw [hm]
    rw [h0] at heq
    go_enter Tryz.func61, Tryz.ntmps61
    go_wp2_with fail
    go_ret
    exact ⟨rfl, (Below.refl _ w).alloc (Nat.le_refl _) _⟩
  · have h0' : eqP (a, b, c, d, e) p0 = false := by simpa using h0
    rw [h0'] at heq
    have hne : (a, b, c, d, e) ≠ p0 := fun hh => h0 ((eqP_iff _ _).2 hh)
    by_cases h1 : 12 ≤ a ∧ a < 256
    · have hm : decide (MayP (a, b, c, d, e)) = decide (1 ≤ b ∧ b ≤ 16777215) := by
        rw [decide_eq_decide]
        exact ⟨fun hh => (hh.resolve_left hne).2, fun hh => .inr ⟨h1, hh⟩⟩
      rw [hm]
      have ht := isTaken_any a
      rw [decide_eq_true h1] at ht
      have hs := isSync_any b
      obtain ⟨r, hr⟩ : ∃ r, decide (1 ≤ b ∧ b ≤ 16777215) = r := ⟨_, rfl⟩
      rw [hr] at hs ⊢
      clear hm hr h1 hne h0 h0'
      go_enter Tryz.func61, Tryz.ntmps61
      go_wp2_with (first | (go_at_call 88; refine (ht _).mono ?_; rintro e w' ⟨rfl, rfl⟩) | (go_at_call 89; refine (hs _).mono ?_; rintro e w' ⟨rfl, rfl⟩))
      go_ret
      exact ⟨rfl, (Below.refl _ w).alloc (Nat.le_refl _) _⟩
    · have hm : decide (MayP (a, b, c, d, e)) = false := decide_eq_false fun hh => h1 (hh.resolve_left hne).1
      rw [hm]
      have ht := isTaken_any a
      rw [decide_eq_false h1] at ht
      clear hm h1 hne h0 h0'
      go_enter Tryz.func61, Tryz.ntmps61
      go_wp2_with (go_at_call 88; refine (ht _).mono ?_; rintro e w' ⟨rfl, rfl⟩)
      go_ret
      exact ⟨rfl, (Below.refl _ w).alloc (Nat.le_refl _) _⟩
end Go.Proofs.YtldnelimemjaiaaGreatDoor
/-
  What an array of integers that came in by value is: so many integers, each fitting its kind.
-/
namespace Go.Proofs.YtldnelimemjaiaaGreatDoor
open Go.ChangeShapes Go.WideShapes Go.ChangeAt Go.RowKit

theorem mapM_mem {α β : Type} {f : α → Option β} : ∀ (L : List α) (ys : List β), L.mapM f = some ys → ∀ i ∈ L, ∃ y, f i = some y
  | [], _, _, i, hi => by cases hi
  | j :: L, ys, h, i, hi => by
    rw [List.mapM_cons] at h
    simp only [bind, Option.bind_eq_some_iff, pure, Option.some.injEq] at h
    obtain ⟨y, hy, ys', hys, rfl⟩ := h
    rcases List.mem_cons.1 hi with rfl | hi
    · exact ⟨y, hy⟩
    · exact mapM_mem L ys' hys i hi
def intIn : Value → Int
  | .int _ z => z
  | _ => 0
theorem open_ints_arr {H : Type} {enc : TypeId × Value → H} {P : Program} {W : World} {base n : Nat} {sp : Nat → Bool} {held : Bool} {k e : TypeId} {q : IntKind} (hu : P.underlying k = some (.array n e)) (he : P.underlying e = some (.int q)) (h1 : P.cellsOf e = 1) (hk : P.cellsOf k = n)
    {r : Go.Reach} {b0 : Nat} {v : Value} (ho : Value.okWide P W r b0 k v) {d : DataW H} {ps : List MemPlace} (hd : DataW.Trod enc P W base sp held k v d ps) :
    ∃ zs : List Int, v = .agg (zs.map (Value.int q)).toArray ∧ zs.length = n ∧ ∀ z ∈ zs, (Lit.int q z).wf = true := by
  obtain ⟨xs, rfl, hn⟩ : ∃ xs, v = .agg xs ∧ xs.size = n := by
    simp only [Value.okWide, hu] at ho
    obtain ⟨cs, h1, h2, _⟩ := ho
    exact ⟨cs, h1, by rw [h2, hk]⟩
  obtain ⟨fuel, hf⟩ := hd
  cases fuel with
  | zero => simp [DataW.trod] at hf
  | succ m =>
    rw [DataW.trod_step] at hf
    unfold DataW.trodStep at hf
    simp only [hu, Value.cells] at hf
    rw [if_pos (by rw [hk]; simpa using hn)] at hf
    simp only [Option.map_eq_some_iff] at hf
    obtain ⟨ys, hy, _⟩ := hf
    have hc : ∀ i (h : i < xs.size), xs[i] = .int q (intIn xs[i]) ∧ (Lit.int q (intIn xs[i])).wf = true := by
      intro i h
      obtain ⟨y, hy'⟩ := mapM_mem _ _ hy i (by simpa using (by omega : i < n))
      rw [h1, Nat.mul_one, List.take_one, List.head?_drop] at hy'
      rw [show xs.toList[i]? = some xs[i] by simp [h]] at hy'
      obtain ⟨a, ea, _, wa⟩ := DataW.trod_int he hy'
      have ea' : xs[i] = .int q a := by simpa using ea
      rw [ea']
      exact ⟨rfl, wa⟩
    refine ⟨xs.toList.map intIn, ?_, by simpa using hn, ?_⟩
    · congr 1
      apply Array.ext
      · simp
      · intro i h1 h2
        simp only [List.getElem_toArray, List.getElem_map, Array.getElem_toList]
        exact (hc i h1).1
    · intro z hz
      obtain ⟨v, hv, rfl⟩ := List.mem_map.1 hz
      obtain ⟨i, hi, rfl⟩ := List.getElem_of_mem hv
      have := (hc i (by simpa using hi)).2
      simpa using this
end Go.Proofs.YtldnelimemjaiaaGreatDoor
/-
  What a slice of bytes that came in is: it reads as bytes; the string made of it.
-/
namespace Go.Proofs.YtldnelimemjaiaaGreatDoor
open Go.RowKit Go.Shelf
set_option maxRecDepth 100000

/-- An empty slice reads as no bytes. -/
theorem bsl_nil (w : World) : Bsl w w.heap.size none 0 0 [] := ⟨rfl, Nat.le_refl _, by unfold maxLen; omega, fun _ => rfl, fun h => absurd h (by omega)⟩
theorem Bsl.conv {w : World} {B : Nat} {a : Option Addr} {len cap : Nat} {s : List UInt8} (h : Bsl w B a len cap s) : (convert 45 9 (.slice a len cap)).run Tryz.prog w = .ok (.string (strOf s)) w := by
  obtain ⟨h1, h2, h3, h4, h5⟩ := h
  cases a with
  | none =>
    have hc := h4 rfl
    have hl : len = 0 := by omega
    subst hl
    obtain rfl : s = [] := List.eq_nil_of_length_eq_zero h1
    exact run_convert_bytes_nil w 45 5 Tryz.underlying45 Tryz.underlying5 0 cap 9 Tryz.underlying9
  | some x =>
    rcases Nat.eq_zero_or_pos len with hl | hl
    · subst hl
      obtain rfl : s = [] := List.eq_nil_of_length_eq_zero h1
      have hcs : (loadCells x 0).run Tryz.prog w = .ok (([] : List Int).map (Value.int .u8)).toArray w := by
        have := run_loadCells_list (P := Tryz.prog) w x [] (fun j v hj => by simp at hj)
        simpa using this
      rw [run_convert_bytes_string w 45 9 5 _ 0 cap Tryz.underlying45 Tryz.underlying5 Tryz.underlying9, run_bytesToString w x 0 cap [] hcs]
      rfl
    · obtain ⟨b, off, e, hb, hc⟩ := h5 hl
      cases e
      exact conv_at w b off len cap s h1 hc

/-- WHAT THE WALK IS TOLD OF A SLICE OF INTEGERS THAT CAME IN: it is nil; or it leads to a row of 'cap' cells, the numbers 'zs' (the first 'len' are its elements, the rest its spare room), each fitting its kind. -/
def IsRow (k : IntKind) (w : World) (a : Option Addr) (len cap : Nat) (zs : List Int) : Prop :=
  (a = none ∧ len = 0 ∧ cap = 0 ∧ zs = []) ∨
  ∃ x, a = some x ∧ len ≤ cap ∧ cap ≤ maxLen ∧ zs.length = cap ∧ (∀ i, i < zs.length → w.cell? (x.add i) = some (.int k (zs.getD i 0))) ∧ ∀ n ∈ zs, (Lit.int k n).wf = true

/-- A slice of bytes that came in reads as bytes. -/
theorem bsl_of_row {w : World} {a : Option Addr} {len cap : Nat} {zs : List Int} (h : IsRow .u8 w a len cap zs) : Bsl w w.heap.size a len cap ((zs.take len).map fun z => UInt8.ofNat z.toNat) := by
  rcases h with ⟨rfl, rfl, rfl, rfl⟩ | ⟨x, rfl, hl, hm, hz, hcell, hwf⟩
  · exact bsl_nil w
  · have hsz : ((zs.take len).map fun z => UInt8.ofNat z.toNat).length = len := by simp; omega
    refine ⟨hsz, hl, hm, fun e => (by cases e), fun h0 => ?_⟩
    obtain ⟨b, off, spot⟩ := x
    have h00 := hcell 0 (by omega)
    have hspot : spot = none := by simpa [Addr.add] using World.cell?_spot h00
    subst hspot
    have hadd : ∀ i, (⟨b, off, none⟩ : Addr).add i = ⟨b, off + i, none⟩ := fun i => by unfold Addr.add; split <;> simp_all
    obtain ⟨o, ho, _⟩ := cells_of_cell h00
    refine ⟨b, off, rfl, ?_, fun i hi => ?_⟩
    · rw [hadd] at ho
      exact (Array.getElem?_eq_some_iff.1 ho).1
    · rw [hsz] at hi
      have hc := hcell i (by omega)
      rw [hadd] at hc
      have hiz : i < zs.length := by omega
      rw [hc]
      have hw := hwf zs[i] (List.getElem_mem hiz)
      have hr : 0 ≤ zs[i] ∧ zs[i] ≤ 255 := by simpa [Lit.wf, IntKind.min, IntKind.max, IntKind.signed, IntKind.bits] using hw
      simp only [List.getD, List.getElem?_eq_getElem hiz, Option.getD_some, List.getElem_map, List.getElem_take]
      congr 2
      have : (UInt8.ofNat zs[i].toNat).toNat = zs[i].toNat := by simp; omega
      rw [this]
      omega
end Go.Proofs.YtldnelimemjaiaaGreatDoor
/-
  What a pointer that came in by value is; what a slice of pointers that came in is; what the program's sizes are where they lie as they were laid.
-/
namespace Go.Proofs.YtldnelimemjaiaaGreatDoor
open Go.RowKit Go.Shelf Go.Joins Go.ChangeShapes Go.WideShapes Go.ChangeAt
set_option maxRecDepth 100000

theorem gSizes : Tryz.prog.globalNamed "charterhouse/ptr.sizes" = some 0 := by kernel_rfl
theorem tSizes : (Tryz.prog.globals[0]?).map (·.type) = some 115 := by kernel_rfl
/-- The door's own heap meets the condition: closed facts. -/
theorem door_met (os : Os) (args : Array Value) : laidMetH Tryz.prog [("charterhouse/ptr.sizes", Rows.laid_charterhouse_ptr_sizes)] ((World.doorLaid Tryz.prog 400 os).forCall (fun _ _ => 0) ⟨#[], args, []⟩).memory :=
  laidMetH_of_parts3 (fuel := 8) (laidMet_of_run' 8 (by kernel_rfl) (by kernel_rfl)) (by kernel_rfl) (by kernel_rfl)
theorem szs_of_laid {W : World} (h : laidMetH Tryz.prog [("charterhouse/ptr.sizes", Rows.laid_charterhouse_ptr_sizes)] W) : Szs W := by
  rw [MakeChecks.laidMetH_plain _ _ _ (by kernel_rfl)] at h
  obtain ⟨ps, ⟨g0, t0, cs0, f0, q0, r0, hg0, ht0, hv0, hd0, _⟩, _⟩ := h
  obtain rfl := Option.some.inj (gSizes.symm.trans hg0)
  obtain rfl := Option.some.inj (tSizes.symm.trans ht0)
  obtain ⟨xs, m1, rfl, hx1, hlen, hn5, hel⟩ := DataW.trod_array Tryz.underlying115 hd0
  have c3 : Tryz.prog.cellsOf 3 = 1 := by kernel_rfl
  simp only [Prod.mk.injEq, Rows.laid_charterhouse_ptr_sizes, DataW.agg.injEq] at hx1
  have one : ∀ (i : Nat) (x : DataW Unit × List MemPlace) (n : Int), i < 5 → xs[i]? = some x → x.1 = .lit (.int .i64 n) → W.cell? ⟨0, i, none⟩ = some (.int .i64 n) := fun i x n hi hx hn => by
    have h0 := hel i hi
    rw [hx, c3, Nat.mul_one] at h0
    obtain ⟨k, e1, e2, _⟩ := DataW.trod_int Tryz.underlying3 h0
    have hk : k = n := by rw [e2] at hn; simpa using hn
    subst hk
    have hv := World.var?_cell hg0 hv0 i
    have e3 : (cs0.toList.drop i)[0]? = some (.int .i64 k) := by
      have : ((cs0.toList.drop i).take 1)[0]? = some (.int .i64 k) := by rw [e1]; rfl
      rwa [List.getElem?_take_of_lt (by omega)] at this
    rw [List.getElem?_drop, Nat.add_zero, Array.getElem?_toList] at e3
    rw [← e3]
    exact hv
  match xs, hn5, hx1, one with
  | [x0, x1, x2, x3, x4], _, hx1, one =>
    simp only [List.map_cons, List.map_nil, List.cons.injEq] at hx1
    have d0 := one 0 x0 1 (by omega) rfl hx1.1.1.symm
    exact ⟨World.block_lt_of_cell? W _ d0, d0, one 1 x1 3 (by omega) rfl hx1.1.2.1.symm, one 2 x2 4 (by omega) rfl hx1.1.2.2.1.symm, one 3 x3 4 (by omega) rfl hx1.1.2.2.2.1.symm, one 4 x4 4 (by omega) rfl hx1.1.2.2.2.2.1.symm⟩

theorem u32_wf {n : Int} (h : (Lit.int .u32 n).wf = true) : ∃ m : Nat, n = (m : Int) ∧ m < 4294967296 := by
  simp [Lit.wf, IntKind.min, IntKind.max, IntKind.signed, IntKind.bits] at h
  exact ⟨n.toNat, by omega, by omega⟩
theorem i64_wf {n : Int} (h : (Lit.int .i64 n).wf = true) : -9223372036854775808 ≤ n ∧ n ≤ 9223372036854775807 := by
  simpa [Lit.wf, IntKind.min, IntKind.max, IntKind.signed, IntKind.bits] using h
/-- Five cells that read as a pointer are one. -/
theorem pt_of_trod {H : Type} {enc : TypeId × Value → H} {W : World} {fuel : Nat} {cs : List Value} {x : DataW H × List MemPlace} (h : DataW.trod enc Tryz.prog W 0 (fun _ => true) true fuel 28 cs = some x) : ∃ p, WfP p ∧ cs = ptC p := by
  obtain ⟨f0, f1, f2, f3, f4, hu, t0, t1, t2, t3, t4, o0, o1, o2, o3, o4⟩ : ∃ f0 f1 f2 f3 f4 : Field, Tryz.prog.underlying 28 = some (.struct #[f0, f1, f2, f3, f4]) ∧ f0.type = 3 ∧ f1.type = 26 ∧ f2.type = 26 ∧ f3.type = 26 ∧ f4.type = 26 ∧ f0.offset = 0 ∧ f1.offset = 1 ∧ f2.offset = 2 ∧ f3.offset = 3 ∧ f4.offset = 4 :=
    ⟨_, _, _, _, _, Tryz.underlying28, rfl, rfl, rfl, rfl, rfl, rfl, rfl, rfl, rfl, rfl⟩
  have cI : Tryz.prog.cellsOf 3 = 1 := by kernel_rfl
  have cU : Tryz.prog.cellsOf 26 = 1 := by kernel_rfl
  have cP : Tryz.prog.cellsOf 28 = 5 := by kernel_rfl
  obtain ⟨xs, k, hk, hxy, hcl, hxl, hf⟩ := DataW.trod_struct hu h
  rw [cP] at hcl
  match xs, hxl, cs, hcl with
  | [y0, y1, y2, y3, y4], _, [v0, v1, v2, v3, v4], _ =>
    have g0 := hf 0 f0 rfl
    have g1 := hf 1 f1 rfl
    have g2 := hf 2 f2 rfl
    have g3 := hf 3 f3 rfl
    have g4 := hf 4 f4 rfl
    simp [t0, t1, t2, t3, t4, o0, o1, o2, o3, o4, cI, cU] at g0 g1 g2 g3 g4
    obtain ⟨n0, e0, _, w0⟩ := DataW.trod_int Tryz.underlying3 g0
    obtain ⟨n1, e1, _, w1⟩ := DataW.trod_int Tryz.underlying26 g1
    obtain ⟨n2, e2, _, w2⟩ := DataW.trod_int Tryz.underlying26 g2
    obtain ⟨n3, e3, _, w3⟩ := DataW.trod_int Tryz.underlying26 g3
    obtain ⟨n4, e4, _, w4⟩ := DataW.trod_int Tryz.underlying26 g4
    obtain ⟨m1, rfl, l1⟩ := u32_wf w1
    obtain ⟨m2, rfl, l2⟩ := u32_wf w2
    obtain ⟨m3, rfl, l3⟩ := u32_wf w3
    obtain ⟨m4, rfl, l4⟩ := u32_wf w4
    refine ⟨(n0, m1, m2, m3, m4), ⟨i64_wf w0, l1, l2, l3, l4⟩, ?_⟩
    simp at e0 e1 e2 e3 e4
    rw [e0, e1, e2, e3, e4]
    rfl
/-- A pointer that came in by value. -/
theorem open_ptr {H : Type} {enc : TypeId × Value → H} {W : World} {r : Go.Reach} {b0 : Nat} {v : Value} {d : DataW H} {p : List MemPlace} (hv : Value.okWide Tryz.prog W r b0 28 v) (h : DataW.Trod enc Tryz.prog W 0 (fun _ => true) true 28 v d p) :
    ∃ q, v = ptV q ∧ WfP q := by
  obtain ⟨cs, rfl, hsz⟩ := okWide_struct Tryz.underlying28 hv
  obtain ⟨fuel, hf⟩ := h
  obtain ⟨q, hw, hq⟩ := pt_of_trod hf
  refine ⟨q, ?_, hw⟩
  have : cs = (ptC q).toArray := by
    rw [← hq]
    simp [Value.cells]
  rw [this]
  rfl
end Go.Proofs.YtldnelimemjaiaaGreatDoor
/-
  Words for labels by value (api.Label): two numbers and a pointer; two of them compared; a slice of them, and a row of them, in memory.
-/
namespace Go.Proofs.YtldnelimemjaiaaGreatDoor
open Go.RowKit Go.Shelf
set_option maxRecDepth 100000

/-- A label: Gen, Epoch, Root. -/
abbrev Lb := Nat × Nat × Pt
/-- The label as a value. -/
@[reducible] def lbV (l : Lb) : Value := .agg #[.int .u32 (l.1 : Int), .int .u32 (l.2.1 : Int), .int .i64 l.2.2.1, .int .u32 (l.2.2.2.1 : Int), .int .u32 (l.2.2.2.2.1 : Int), .int .u32 (l.2.2.2.2.2.1 : Int), .int .u32 (l.2.2.2.2.2.2 : Int)]
/-- Its cells. -/
def lbC (l : Lb) : List Value := [.int .u32 (l.1 : Int), .int .u32 (l.2.1 : Int), .int .i64 l.2.2.1, .int .u32 (l.2.2.2.1 : Int), .int .u32 (l.2.2.2.2.1 : Int), .int .u32 (l.2.2.2.2.2.1 : Int), .int .u32 (l.2.2.2.2.2.2 : Int)]
/-- Each of its numbers is one of its kind. -/
def WfL (l : Lb) : Prop := l.1 < 4294967296 ∧ l.2.1 < 4294967296 ∧ WfP l.2.2
abbrev l0 : Lb := (0, 0, p0)
theorem wf_l0 : WfL l0 := ⟨by decide, by decide, wf_p0⟩
/-- A label may be. -/
def MayL (l : Lb) : Prop := (1 ≤ l.1 ∧ l.1 ≤ 16777215) ∧ (1 ≤ l.2.1 ∧ l.2.1 ≤ 65535) ∧ l.2.2 ≠ p0 ∧ MayP l.2.2
instance (l : Lb) : Decidable (MayL l) := by unfold MayL; exact inferInstance

/-- Two labels are the same just where their numbers are. -/
def eqL (l m : Lb) : Bool := decide (l = m)
theorem eqL_iff (l m : Lb) : eqL l m = true ↔ l = m := by simp [eqL]
theorem eqL_parts (l m : Lb) : eqL l m = ((((l.1 : Nat) : Int) == ((m.1 : Nat) : Int)) && ((((l.2.1 : Nat) : Int) == ((m.2.1 : Nat) : Int)) && eqP l.2.2 m.2.2)) := by
  obtain ⟨a, b, p⟩ := l
  obtain ⟨a', b', q⟩ := m
  rw [Bool.eq_iff_iff]
  simp only [eqL, eqP, Bool.and_eq_true, beq_iff_eq, decide_eq_true_eq, Prod.mk.injEq, Int.ofNat_inj]
/-- Pointers compared within something. -/
theorem eqPtIn (p q : Pt) (w : World) : (Op.equalIn 9999 28 (ptV p) (ptV q)).run Tryz.prog w = .ok (eqP p q) w := by
  have hu : Tryz.prog.underlying 28 = some (.struct (Tryz.prog.fieldsOf 28)) := by kernel_rfl
  have hs : Tryz.prog.stoodInHeld 28 = false := by kernel_rfl
  obtain ⟨f0, f1, f2, f3, f4, hf, n0, n1, n2, n3, n4, t0, t1, t2, t3, t4, o0, o1, o2, o3, o4⟩ : ∃ f0 f1 f2 f3 f4 : Field, (Tryz.prog.fieldsOf 28).toList = [f0, f1, f2, f3, f4] ∧ f0.name ≠ "_" ∧ f1.name ≠ "_" ∧ f2.name ≠ "_" ∧ f3.name ≠ "_" ∧ f4.name ≠ "_" ∧ f0.type = 3 ∧ f1.type = 26 ∧ f2.type = 26 ∧ f3.type = 26 ∧ f4.type = 26 ∧ f0.offset = 0 ∧ f1.offset = 1 ∧ f2.offset = 2 ∧ f3.offset = 3 ∧ f4.offset = 4 :=
    ⟨_, _, _, _, _, rfl, by decide, by decide, by decide, by decide, by decide, rfl, rfl, rfl, rfl, rfl, rfl, rfl, rfl, rfl, rfl⟩
  rw [ptV, ptV, run_equalIn_struct w 9998 28 _ _ hu hs, hf]
  have pI : ∀ (cs : Array Value) (i : Nat) (v : Value) (_ : cs[i]? = some v) (w : World), (part 3 cs i).run Tryz.prog w = .ok v w := fun cs i v h w => run_part_plain w (by kernel_rfl) h
  have pU : ∀ (cs : Array Value) (i : Nat) (v : Value) (_ : cs[i]? = some v) (w : World), (part 26 cs i).run Tryz.prog w = .ok v w := fun cs i v h w => run_part_plain w (by kernel_rfl) h
  have eI : ∀ (a b : Int) (w : World), (Op.equalIn 9998 3 (.int .i64 a) (.int .i64 b)).run Tryz.prog w = .ok (a == b) w := fun a b w => run_equalIn_int w 9997 3 .i64 .i64 a b Tryz.underlying3
  have eU : ∀ (a b : Int) (w : World), (Op.equalIn 9998 26 (.int .u32 a) (.int .u32 b)).run Tryz.prog w = .ok (a == b) w := fun a b w => run_equalIn_int w 9997 26 .u32 .u32 a b Tryz.underlying26
  have nil : (Op.eqFields 9998 #[.int .i64 p.1, .int .u32 (p.2.1 : Int), .int .u32 (p.2.2.1 : Int), .int .u32 (p.2.2.2.1 : Int), .int .u32 (p.2.2.2.2 : Int)] #[.int .i64 q.1, .int .u32 (q.2.1 : Int), .int .u32 (q.2.2.1 : Int), .int .u32 (q.2.2.2.1 : Int), .int .u32 (q.2.2.2.2 : Int)] []).run Tryz.prog w = .ok true w := rfl
  have h4 := eqF_step n4 (by rw [t4, o4]; exact pU _ 4 _ rfl w) (by rw [t4, o4]; exact pU _ 4 _ rfl w) (by rw [t4]; exact eU _ _ w) nil
  have h3 := eqF_step n3 (by rw [t3, o3]; exact pU _ 3 _ rfl w) (by rw [t3, o3]; exact pU _ 3 _ rfl w) (by rw [t3]; exact eU _ _ w) h4
  have h2 := eqF_step n2 (by rw [t2, o2]; exact pU _ 2 _ rfl w) (by rw [t2, o2]; exact pU _ 2 _ rfl w) (by rw [t2]; exact eU _ _ w) h3
  have h1 := eqF_step n1 (by rw [t1, o1]; exact pU _ 1 _ rfl w) (by rw [t1, o1]; exact pU _ 1 _ rfl w) (by rw [t1]; exact eU _ _ w) h2
  have h0 := eqF_step n0 (by rw [t0, o0]; exact pI _ 0 _ rfl w) (by rw [t0, o0]; exact pI _ 0 _ rfl w) (by rw [t0]; exact eI _ _ w) h1
  rw [h0, eqP_parts, Bool.and_true]
theorem eqLb (l m : Lb) (w : World) : (Op.equalIn 10000 30 (lbV l) (lbV m)).run Tryz.prog w = .ok (eqL l m) w := by
  have hu : Tryz.prog.underlying 30 = some (.struct (Tryz.prog.fieldsOf 30)) := by kernel_rfl
  have hs : Tryz.prog.stoodInHeld 30 = false := by kernel_rfl
  obtain ⟨f0, f1, f2, hf, n0, n1, n2, t0, t1, t2, o0, o1, o2⟩ : ∃ f0 f1 f2 : Field, (Tryz.prog.fieldsOf 30).toList = [f0, f1, f2] ∧ f0.name ≠ "_" ∧ f1.name ≠ "_" ∧ f2.name ≠ "_" ∧ f0.type = 26 ∧ f1.type = 26 ∧ f2.type = 28 ∧ f0.offset = 0 ∧ f1.offset = 1 ∧ f2.offset = 2 :=
    ⟨_, _, _, rfl, by decide, by decide, by decide, rfl, rfl, rfl, rfl, rfl, rfl⟩
  rw [lbV, lbV, run_equalIn_struct w 9999 30 _ _ hu hs, hf]
  have pU : ∀ (cs : Array Value) (i : Nat) (v : Value) (_ : cs[i]? = some v) (w : World), (part 26 cs i).run Tryz.prog w = .ok v w := fun cs i v h w => run_part_plain w (by kernel_rfl) h
  have pP : ∀ (l : Lb) (w : World), (part 28 #[.int .u32 (l.1 : Int), .int .u32 (l.2.1 : Int), .int .i64 l.2.2.1, .int .u32 (l.2.2.2.1 : Int), .int .u32 (l.2.2.2.2.1 : Int), .int .u32 (l.2.2.2.2.2.1 : Int), .int .u32 (l.2.2.2.2.2.2 : Int)] 2).run Tryz.prog w = .ok (ptV l.2.2) w := fun l w => by kernel_rfl
  have eU : ∀ (a b : Int) (w : World), (Op.equalIn 9999 26 (.int .u32 a) (.int .u32 b)).run Tryz.prog w = .ok (a == b) w := fun a b w => run_equalIn_int w 9998 26 .u32 .u32 a b Tryz.underlying26
  have nil : (Op.eqFields 9999 #[.int .u32 (l.1 : Int), .int .u32 (l.2.1 : Int), .int .i64 l.2.2.1, .int .u32 (l.2.2.2.1 : Int), .int .u32 (l.2.2.2.2.1 : Int), .int .u32 (l.2.2.2.2.2.1 : Int), .int .u32 (l.2.2.2.2.2.2 : Int)] #[.int .u32 (m.1 : Int), .int .u32 (m.2.1 : Int), .int .i64 m.2.2.1, .int .u32 (m.2.2.2.1 : Int), .int .u32 (m.2.2.2.2.1 : Int), .int .u32 (m.2.2.2.2.2.1 : Int), .int .u32 (m.2.2.2.2.2.2 : Int)] []).run Tryz.prog w = .ok true w := rfl
  have h2 := eqF_step n2 (by rw [t2, o2]; exact pP l w) (by rw [t2, o2]; exact pP m w) (by rw [t2]; exact eqPtIn _ _ w) nil
  have h1 := eqF_step n1 (by rw [t1, o1]; exact pU _ 1 _ rfl w) (by rw [t1, o1]; exact pU _ 1 _ rfl w) (by rw [t1]; exact eU _ _ w) h2
  have h0 := eqF_step n0 (by rw [t0, o0]; exact pU _ 0 _ rfl w) (by rw [t0, o0]; exact pU _ 0 _ rfl w) (by rw [t0]; exact eU _ _ w) h1
  rw [h0, eqL_parts, Bool.and_true]

/-- A slice of labels that lies below block B reads as L. -/
def Lbs (w : World) (B : Nat) (a : Option Addr) (len cap : Nat) (L : List Lb) : Prop :=
  L.length = len ∧ len ≤ cap ∧ cap ≤ maxLen ∧ (a = none → cap = 0) ∧
    (0 < len → ∃ b off, a = some ⟨b, off, none⟩ ∧ b < B ∧ ∀ i (h : i < L.length), WfL L[i] ∧ ∀ j u, (lbC L[i])[j]? = some u → w.cell? ⟨b, off + i * 7 + j, none⟩ = some u)
theorem lbs_nil (w : World) (B : Nat) : Lbs w B none 0 0 [] := ⟨rfl, Nat.le_refl _, Nat.zero_le _, fun _ => rfl, fun h => absurd h (Nat.lt_irrefl _)⟩
section
variable {w w' : World} {B len cap : Nat} {a : Option Addr} {L : List Lb}
theorem Lbs.below (h : Lbs w B a len cap L) (hb : Below B w w') : Lbs w' B a len cap L := by
  obtain ⟨h1, h2, h3, h4, h5⟩ := h
  refine ⟨h1, h2, h3, h4, fun hl => ?_⟩
  obtain ⟨b, off, e, hlt, hc⟩ := h5 hl
  exact ⟨b, off, e, hlt, fun i hi => ⟨(hc i hi).1, fun j u hu => (hb.cell (p := ⟨b, off + i * 7 + j, none⟩) hlt).trans ((hc i hi).2 j u hu)⟩⟩
theorem Lbs.more {B' : Nat} (h : Lbs w B a len cap L) (hB : B ≤ B') : Lbs w B' a len cap L := by
  obtain ⟨h1, h2, h3, h4, h5⟩ := h
  refine ⟨h1, h2, h3, h4, fun hl => ?_⟩
  obtain ⟨b, off, e, hlt, hc⟩ := h5 hl
  exact ⟨b, off, e, by omega, hc⟩
theorem Lbs.step (h : Lbs w w.heap.size a len cap L) (hb : Below w.heap.size w w') : Lbs w' w'.heap.size a len cap L := (h.below hb).more hb.size
theorem Lbs.wf (h : Lbs w B a len cap L) {l : Lb} (hp : l ∈ L) : WfL l := by
  obtain ⟨i, hi, rfl⟩ := List.getElem_of_mem hp
  obtain ⟨b, off, _, _, hc⟩ := h.2.2.2.2 (by rw [← h.1]; omega)
  exact (hc i hi).1
theorem Lbs.len_le (h : Lbs w B a len cap L) : (len : Int) ≤ 9223372036854775807 := by have h1 := h.2.1; have h2 := h.2.2.1; unfold maxLen at h2; omega
/-- The seven cells of a label. -/
theorem Lbs.cells (h : Lbs w B a len cap L) (i : Nat) (hi : i < len) : ∃ b off, a = some ⟨b, off, none⟩ ∧ b < B ∧ WfL (L.getD i l0) ∧ w.cell? ⟨b, off + i * 7, none⟩ = some (.int .u32 ((L.getD i l0).1 : Int)) ∧ w.cell? ⟨b, off + i * 7 + 1, none⟩ = some (.int .u32 ((L.getD i l0).2.1 : Int)) ∧ w.cell? ⟨b, off + i * 7 + 2, none⟩ = some (.int .i64 (L.getD i l0).2.2.1) ∧
    w.cell? ⟨b, off + i * 7 + 3, none⟩ = some (.int .u32 ((L.getD i l0).2.2.2.1 : Int)) ∧ w.cell? ⟨b, off + i * 7 + 4, none⟩ = some (.int .u32 ((L.getD i l0).2.2.2.2.1 : Int)) ∧ w.cell? ⟨b, off + i * 7 + 5, none⟩ = some (.int .u32 ((L.getD i l0).2.2.2.2.2.1 : Int)) ∧ w.cell? ⟨b, off + i * 7 + 6, none⟩ = some (.int .u32 ((L.getD i l0).2.2.2.2.2.2 : Int)) := by
  obtain ⟨b, off, e, hb, hc⟩ := h.2.2.2.2 (by omega)
  have hl : i < L.length := by rw [h.1]; exact hi
  obtain ⟨hw, hx⟩ := hc i hl
  have hg : L.getD i l0 = L[i] := by rw [List.getD_eq_getElem?_getD, List.getElem?_eq_getElem hl]; rfl
  rw [hg]
  exact ⟨b, off, e, hb, hw, hx 0 _ rfl, hx 1 _ rfl, hx 2 _ rfl, hx 3 _ rfl, hx 4 _ rfl, hx 5 _ rfl, hx 6 _ rfl⟩
end
/-- The cells of labels. -/
def lbCs (L : List Lb) : List Value := L.flatMap lbC
theorem lbCs_length : ∀ L : List Lb, (lbCs L).length = L.length * 7
  | [] => rfl
  | p :: L => by
    show (lbC p ++ lbCs L).length = _
    rw [List.length_append, lbCs_length L, List.length_cons]
    show 7 + _ = _
    omega
theorem lbCs_append (L M : List Lb) : lbCs (L ++ M) = lbCs L ++ lbCs M := by simp [lbCs]
theorem lbCs_get : ∀ (L : List Lb) (i : Nat) (h : i < L.length) (j : Nat) (u : Value), (lbC L[i])[j]? = some u → (lbCs L)[i * 7 + j]? = some u
  | p :: L, 0, _, j, u, hu => by
    show (lbC p ++ lbCs L)[_]? = _
    have hj : j < (lbC p).length := by
      rcases Nat.lt_or_ge j (lbC p).length with hj | hj
      · exact hj
      · rw [show ((p :: L)[0]) = p from rfl, List.getElem?_eq_none hj] at hu; cases hu
    rw [List.getElem?_append_left (by omega), Nat.zero_mul, Nat.zero_add]
    exact hu
  | p :: L, i + 1, h, j, u, hu => by
    show (lbC p ++ lbCs L)[_]? = _
    have hl : (lbC p).length = 7 := rfl
    rw [List.getElem?_append_right (by omega), hl, show (i + 1) * 7 + j - 7 = i * 7 + j by omega]
    exact lbCs_get L i (by simpa using h) j u hu
/-- A row of the call's own, of labels. -/
def LRow (w : World) (base : Nat) (v : Value) (L : List Lb) : Prop := w.ownsRow base 30 7 v L.length (lbCs L) ∧ ∀ p ∈ L, WfL p
theorem LRow.lbs {w : World} {base : Nat} {v : Value} {L : List Lb} (h : LRow w base v L) : ∃ a c, v = .slice a L.length c ∧ Lbs w w.heap.size a L.length c L := by
  obtain ⟨⟨hl, ⟨rfl, h0⟩ | ⟨g, cap, cur, rfl, _, h3, h4, h5, h6, h7⟩⟩, hw⟩ := h
  · have : L = [] := List.eq_nil_of_length_eq_zero h0
    subst this
    exact ⟨none, 0, rfl, lbs_nil _ _⟩
  · refine ⟨_, _, rfl, rfl, h4, h5, fun e => (by cases e), fun _ => ⟨g, 0, rfl, (Array.getElem?_eq_some_iff.1 h3).1, fun i hi => ⟨hw _ (List.getElem_mem hi), fun j u hu => ?_⟩⟩⟩
    have hg := lbCs_get L i hi j u hu
    have hj : i * 7 + j < L.length * 7 := by
      rcases Nat.lt_or_ge (i * 7 + j) (lbCs L).length with hj | hj
      · rw [lbCs_length] at hj; exact hj
      · rw [List.getElem?_eq_none hj] at hg; cases hg
    rw [Nat.zero_add, cell_of_row w g _ cur 30 (0, 0) h3, ← Array.getElem?_toList, ← hg, ← h7, List.getElem?_take_of_lt hj]
theorem LRow.below {w w' : World} {base : Nat} {v : Value} {L : List Lb} (h : LRow w base v L) (hb : Below w.heap.size w w') : LRow w' base v L := ⟨own_below h.1 hb, h.2⟩
theorem lrow_nil (w : World) (base : Nat) : LRow w base (.slice none 0 0) [] := ⟨World.ownsRow_nil _ _ _ _, fun _ h => (by cases h)⟩
theorem LRow.mono {w : World} {B B' : Nat} {v : Value} {L : List Lb} (h : LRow w B v L) (hB : B' ≤ B) : LRow w B' v L := ⟨own_mono h.1 hB, h.2⟩
/-- The cells of a block that is a label. -/
theorem Blk.seven {w : World} {g : Nat} {t : TypeId} {x y : Nat} {a : Int} {b c d e : Nat} (h : Blk w g t #[.int .u32 (x : Int), .int .u32 (y : Int), .int .i64 a, .int .u32 (b : Int), .int .u32 (c : Int), .int .u32 (d : Int), .int .u32 (e : Int)]) : w.cell? ⟨g, 0, none⟩ = some (.int .u32 (x : Int)) ∧ w.cell? ⟨g, 1, none⟩ = some (.int .u32 (y : Int)) ∧ w.cell? ⟨g, 2, none⟩ = some (.int .i64 a) ∧ w.cell? ⟨g, 3, none⟩ = some (.int .u32 (b : Int)) ∧ w.cell? ⟨g, 4, none⟩ = some (.int .u32 (c : Int)) ∧ w.cell? ⟨g, 5, none⟩ = some (.int .u32 (d : Int)) ∧ w.cell? ⟨g, 6, none⟩ = some (.int .u32 (e : Int)) :=
  ⟨h.cell 0, h.cell 1, h.cell 2, h.cell 3, h.cell 4, h.cell 5, h.cell 6⟩
/-- Seven cells are written. -/
@[reducible] def set7 (w : World) (g : Nat) (v0 v1 v2 v3 v4 v5 v6 : Value) : World := ((((((w.setCell ⟨g, 0, none⟩ v0).setCell ⟨g, 1, none⟩ v1).setCell ⟨g, 2, none⟩ v2).setCell ⟨g, 3, none⟩ v3).setCell ⟨g, 4, none⟩ v4).setCell ⟨g, 5, none⟩ v5).setCell ⟨g, 6, none⟩ v6
theorem Blk.set7 {w : World} {g : Nat} {t : TypeId} {u0 u1 u2 u3 u4 u5 u6 : Value} (h : Blk w g t #[u0, u1, u2, u3, u4, u5, u6]) (v0 v1 v2 v3 v4 v5 v6 : Value) : Blk (set7 w g v0 v1 v2 v3 v4 v5 v6) g t #[v0, v1, v2, v3, v4, v5, v6] := by
  have h0 : Blk _ g t #[v0, u1, u2, u3, u4, u5, u6] := h.set_ 0 v0
  have h1 : Blk _ g t #[v0, v1, u2, u3, u4, u5, u6] := h0.set_ 1 v1
  have h2 : Blk _ g t #[v0, v1, v2, u3, u4, u5, u6] := h1.set_ 2 v2
  have h3 : Blk _ g t #[v0, v1, v2, v3, u4, u5, u6] := h2.set_ 3 v3
  have h4 : Blk _ g t #[v0, v1, v2, v3, v4, u5, u6] := h3.set_ 4 v4
  have h5 : Blk _ g t #[v0, v1, v2, v3, v4, v5, u6] := h4.set_ 5 v5
  have h6 : Blk _ g t #[v0, v1, v2, v3, v4, v5, v6] := h5.set_ 6 v6
  exact h6
theorem below_set7 {B : Nat} {a w : World} {g : Nat} (h : Below B a w) (hg : B ≤ g) (v0 v1 v2 v3 v4 v5 v6 : Value) : Below B a (set7 w g v0 v1 v2 v3 v4 v5 v6) :=
  ((((((h.setCell (p := ⟨g, 0, none⟩) hg v0).setCell (p := ⟨g, 1, none⟩) hg v1).setCell (p := ⟨g, 2, none⟩) hg v2).setCell (p := ⟨g, 3, none⟩) hg v3).setCell (p := ⟨g, 4, none⟩) hg v4).setCell (p := ⟨g, 5, none⟩) hg v5).setCell (p := ⟨g, 6, none⟩) hg v6
end Go.Proofs.YtldnelimemjaiaaGreatDoor
/-
  What a label that came in by value is.
-/
namespace Go.Proofs.YtldnelimemjaiaaGreatDoor
open Go.RowKit Go.Shelf Go.Joins Go.ChangeShapes Go.WideShapes Go.ChangeAt
set_option maxRecDepth 100000

/-- Seven cells that read as a label are one. -/
theorem lb_of_trod {H : Type} {enc : TypeId × Value → H} {W : World} {fuel : Nat} {cs : List Value} {x : DataW H × List MemPlace} (h : DataW.trod enc Tryz.prog W 0 (fun _ => true) true fuel 30 cs = some x) : ∃ l, WfL l ∧ cs = lbC l := by
  obtain ⟨f0, f1, f2, hu, t0, t1, t2, o0, o1, o2⟩ : ∃ f0 f1 f2 : Field, Tryz.prog.underlying 30 = some (.struct #[f0, f1, f2]) ∧ f0.type = 26 ∧ f1.type = 26 ∧ f2.type = 28 ∧ f0.offset = 0 ∧ f1.offset = 1 ∧ f2.offset = 2 :=
    ⟨_, _, _, Tryz.underlying30, rfl, rfl, rfl, rfl, rfl, rfl⟩
  have cU : Tryz.prog.cellsOf 26 = 1 := by kernel_rfl
  have cP : Tryz.prog.cellsOf 28 = 5 := by kernel_rfl
  have cL : Tryz.prog.cellsOf 30 = 7 := by kernel_rfl
  obtain ⟨xs, k, hk, hxy, hcl, hxl, hf⟩ := DataW.trod_struct hu h
  rw [cL] at hcl
  match xs, hxl, cs, hcl with
  | [y0, y1, y2], _, [v0, v1, v2, v3, v4, v5, v6], _ =>
    have g0 := hf 0 f0 rfl
    have g1 := hf 1 f1 rfl
    have g2 := hf 2 f2 rfl
    simp [t0, t1, t2, o0, o1, o2, cU, cP] at g0 g1 g2
    obtain ⟨n0, e0, _, w0⟩ := DataW.trod_int Tryz.underlying26 g0
    obtain ⟨n1, e1, _, w1⟩ := DataW.trod_int Tryz.underlying26 g1
    obtain ⟨p, hp, e2⟩ := pt_of_trod g2
    obtain ⟨m0, rfl, l0⟩ := u32_wf w0
    obtain ⟨m1, rfl, l1⟩ := u32_wf w1
    refine ⟨(m0, m1, p), ⟨l0, l1, hp⟩, ?_⟩
    simp at e0 e1
    simp only [ptC, List.cons.injEq, and_true] at e2
    obtain ⟨z0, z1, z2, z3, z4⟩ := e2
    rw [e0, e1, z0, z1, z2, z3, z4]
    rfl
/-- A label that came in by value. -/
theorem open_label {H : Type} {enc : TypeId × Value → H} {W : World} {r : Go.Reach} {b0 : Nat} {v : Value} {d : DataW H} {p : List MemPlace} (hv : Value.okWide Tryz.prog W r b0 30 v) (h : DataW.Trod enc Tryz.prog W 0 (fun _ => true) true 30 v d p) :
    ∃ q, v = lbV q ∧ WfL q := by
  obtain ⟨cs, rfl, hsz⟩ := okWide_struct Tryz.underlying30 hv
  obtain ⟨fuel, hf⟩ := h
  obtain ⟨q, hw, hq⟩ := lb_of_trod hf
  refine ⟨q, ?_, hw⟩
  have : cs = (lbC q).toArray := by
    rw [← hq]
    simp [Value.cells]
  rw [this]
  rfl
end Go.Proofs.YtldnelimemjaiaaGreatDoor
/-
  Plain lists for layer 9: a disk's blocks and waiting writes; the last write of a block among those that are marked; what they leave.
-/
namespace Go.Proofs.YtldnelimemjaiaaGreatDoor

/-- Writes that wait: each its block's number and its bytes. -/
abbrev WrL := List (Int × List UInt8)
/-- A disk: its blocks, and what waits. -/
abbrev DkL := List (List UInt8) × WrL
/-- The write of number i. -/
def wr_ (ws : WrL) (i : Nat) : Int × List UInt8 := ws.getD i (0, [])
/-- The last write for the block p among the first n, of those that are marked. -/
def lastTo (ws : WrL) (mk : Nat → Bool) (p : Int) : Nat → Option Nat
  | 0 => none
  | n + 1 => if mk n = true ∧ (wr_ ws n).1 = p then some n else lastTo ws mk p n
/-- What they leave of the block p. -/
def leftD (D : DkL) (mk : Nat → Bool) (p : Nat) : List UInt8 := match lastTo D.2 mk (p : Int) D.2.length with
  | some i => (wr_ D.2 i).2
  | none => D.1.getD p []
/-- What they leave. -/
def keptD (D : DkL) (mk : Nat → Bool) : DkL := ((List.range 256).map (leftD D mk), [])
/-- May a disk be? -/
def MayD (D : DkL) : Prop := (D.1.length = 256 ∧ ∀ i, i < 256 → (D.1.getD i []).length = 256) ∧ D.2.length ≤ 4096 ∧ ∀ i, i < D.2.length → (0 ≤ (wr_ D.2 i).1 ∧ (wr_ D.2 i).1 < 256) ∧ (wr_ D.2 i).2.length = 256
instance (D : DkL) : Decidable (MayD D) := inferInstanceAs (Decidable (_ ∧ _ ∧ _))
/-- The bytes of the first k blocks, of the first k writes, together. -/
def sumB (bl : List (List UInt8)) : Nat → Nat
  | 0 => 0
  | k + 1 => sumB bl k + (bl.getD k []).length
def sumW (ws : WrL) : Nat → Nat
  | 0 => 0
  | k + 1 => sumW ws k + (wr_ ws k).2.length
def sumD (D : DkL) : Nat := sumB D.1 D.1.length + sumW D.2 D.2.length
theorem sumB_mono (bl : List (List UInt8)) {j k : Nat} (h : j ≤ k) : sumB bl j ≤ sumB bl k := by
  induction k with
  | zero => obtain rfl : j = 0 := by omega
            exact Nat.le_refl _
  | succ k ih =>
    rcases Nat.lt_or_ge j (k + 1) with h1 | h1
    · exact Nat.le_trans (ih (by omega)) (Nat.le_add_right _ _)
    · obtain rfl : j = k + 1 := by omega
      exact Nat.le_refl _
theorem sumW_mono (ws : WrL) {j k : Nat} (h : j ≤ k) : sumW ws j ≤ sumW ws k := by
  induction k with
  | zero => obtain rfl : j = 0 := by omega
            exact Nat.le_refl _
  | succ k ih =>
    rcases Nat.lt_or_ge j (k + 1) with h1 | h1
    · exact Nat.le_trans (ih (by omega)) (Nat.le_add_right _ _)
    · obtain rfl : j = k + 1 := by omega
      exact Nat.le_refl _
/-- A disk on which more can be done than is needed: counts and bytes that no machine's memory comes near. -/
def Fits (D : DkL) : Prop := D.1.length ≤ 1000000 ∧ D.2.length ≤ 1000000 ∧ sumD D ≤ 1000000000000

theorem lastTo_lt {ws : WrL} {mk : Nat → Bool} {p : Int} : ∀ {n i : Nat}, lastTo ws mk p n = some i → i < n ∧ mk i = true ∧ (wr_ ws i).1 = p
  | 0, i, h => by cases h
  | n + 1, i, h => by
    unfold lastTo at h
    split at h
    · rename_i h1
      cases h
      exact ⟨Nat.lt_succ_self _, h1⟩
    · have := lastTo_lt h
      exact ⟨Nat.lt_succ_of_lt this.1, this.2⟩
theorem lastTo_none {ws : WrL} {mk : Nat → Bool} {p : Int} : ∀ {n : Nat}, lastTo ws mk p n = none → ∀ i, i < n → ¬ (mk i = true ∧ (wr_ ws i).1 = p)
  | 0, _, i, hi => by omega
  | n + 1, h, i, hi => by
    unfold lastTo at h
    split at h
    · cases h
    · rename_i h1
      rcases Nat.lt_or_ge i n with h2 | h2
      · exact lastTo_none h i h2
      · obtain rfl : i = n := by omega
        exact h1
theorem lastTo_after {ws : WrL} {mk : Nat → Bool} {p : Int} : ∀ {n i : Nat}, lastTo ws mk p n = some i → ∀ j, i < j → j < n → ¬ (mk j = true ∧ (wr_ ws j).1 = p)
  | 0, i, h => by cases h
  | n + 1, i, h => by
    unfold lastTo at h
    split at h
    · cases h
      intro j h1 h2
      omega
    · rename_i h0
      intro j h1 h2
      rcases Nat.lt_or_ge j n with h3 | h3
      · exact lastTo_after h j h1 h3
      · obtain rfl : j = n := by omega
        exact h0
/-- Found from behind. -/
theorem lastTo_behind {ws : WrL} {mk : Nat → Bool} {p : Int} {n i : Nat} (hi : i < n) (h1 : mk i = true ∧ (wr_ ws i).1 = p) (h2 : ∀ j, i < j → j < n → ¬ (mk j = true ∧ (wr_ ws j).1 = p)) : lastTo ws mk p n = some i := by
  cases h : lastTo ws mk p n with
  | none => exact absurd h1 (lastTo_none h i hi)
  | some k =>
    have hk := lastTo_lt h
    have ha := lastTo_after h
    rcases Nat.lt_trichotomy i k with h3 | h3 | h3
    · exact absurd hk.2 (h2 k h3 hk.1)
    · rw [h3]
    · exact absurd h1 (ha i h3 hi)
theorem lastTo_no {ws : WrL} {mk : Nat → Bool} {p : Int} {n : Nat} (h2 : ∀ j, j < n → ¬ (mk j = true ∧ (wr_ ws j).1 = p)) : lastTo ws mk p n = none := by
  cases h : lastTo ws mk p n with
  | none => rfl
  | some k => exact absurd (lastTo_lt h).2 (h2 k (lastTo_lt h).1)
theorem lastTo_congr {ws ws' : WrL} {mk mk' : Nat → Bool} {p : Int} : ∀ {n : Nat}, (∀ i, i < n → ((mk i = true ∧ (wr_ ws i).1 = p) ↔ (mk' i = true ∧ (wr_ ws' i).1 = p))) → lastTo ws mk p n = lastTo ws' mk' p n
  | 0, _ => rfl
  | n + 1, h => by
    unfold lastTo
    rw [lastTo_congr (n := n) (fun i hi => h i (by omega))]
    by_cases h1 : mk n = true ∧ (wr_ ws n).1 = p
    · rw [if_pos h1, if_pos ((h n (by omega)).1 h1)]
    · rw [if_neg h1, if_neg (fun h2 => h1 ((h n (by omega)).2 h2))]
theorem keptD_length (D : DkL) (mk : Nat → Bool) : (keptD D mk).1.length = 256 := by simp [keptD]
theorem keptD_get (D : DkL) (mk : Nat → Bool) (p : Nat) (h : p < 256) : (keptD D mk).1.getD p [] = leftD D mk p := by
  simp [keptD, List.getD_eq_getElem?_getD, h]
theorem leftD_length {D : DkL} (h : MayD D) (mk : Nat → Bool) {p : Nat} (hp : p < 256) : (leftD D mk p).length = 256 := by
  unfold leftD
  split
  · rename_i i hi
    exact (h.2.2 i (lastTo_lt hi).1).2
  · exact h.1.2 p hp
theorem keptD_may {D : DkL} (h : MayD D) (mk : Nat → Bool) : MayD (keptD D mk) := by
  refine ⟨⟨keptD_length _ _, fun i hi => ?_⟩, Nat.zero_le _, fun i hi => absurd hi (Nat.not_lt_zero _)⟩
  rw [keptD_get D mk i hi]
  exact leftD_length h mk hi
theorem sumB_all {bl : List (List UInt8)} : ∀ {n : Nat}, (∀ i, i < n → (bl.getD i []).length = 256) → sumB bl n = 256 * n
  | 0, _ => rfl
  | n + 1, h => by
    unfold sumB
    rw [sumB_all (fun i hi => h i (by omega)), h n (by omega)]
    omega
theorem sumW_all {ws : WrL} : ∀ {n : Nat}, (∀ i, i < n → (wr_ ws i).2.length = 256) → sumW ws n = 256 * n
  | 0, _ => rfl
  | n + 1, h => by
    unfold sumW
    rw [sumW_all (fun i hi => h i (by omega)), h n (by omega)]
    omega
theorem may_fits {D : DkL} (h : MayD D) : Fits D := by
  have h1 := sumB_all h.1.2
  have h2 := sumW_all fun i hi => (h.2.2 i hi).2
  have h3 := h.2.1
  refine ⟨by rw [h.1.1]; omega, by omega, ?_⟩
  unfold sumD
  rw [h.1.1, h1, h2]
  omega
end Go.Proofs.YtldnelimemjaiaaGreatDoor
/-
  Words for a disk in memory: a slice of slices of bytes, and a slice of writes, that read as plain lists.
-/
namespace Go.Proofs.YtldnelimemjaiaaGreatDoor
open Go.RowKit Go.Shelf
set_option maxRecDepth 100000

/-- A slice of slices of bytes that lies below block B reads as bl. -/
def Bls (w : World) (B : Nat) (a : Option Addr) (len cap : Nat) (bl : List (List UInt8)) : Prop :=
  bl.length = len ∧ len ≤ cap ∧ cap ≤ maxLen ∧
    (0 < len → ∃ b off, a = some ⟨b, off, none⟩ ∧ b < B ∧ ∀ i, i < len → ∃ A c, w.cell? ⟨b, off + i, none⟩ = some (.slice A (bl.getD i []).length c) ∧ Bsl w B A (bl.getD i []).length c (bl.getD i []))
/-- A slice of writes that lies below block B reads as ws. -/
def Wts (w : World) (B : Nat) (a : Option Addr) (len cap : Nat) (ws : WrL) : Prop :=
  ws.length = len ∧ len ≤ cap ∧ cap ≤ maxLen ∧
    (0 < len → ∃ b off, a = some ⟨b, off, none⟩ ∧ b < B ∧ ∀ i, i < len → (Lit.int .i64 (wr_ ws i).1).wf = true ∧ w.cell? ⟨b, off + i * 2, none⟩ = some (.int .i64 (wr_ ws i).1) ∧
      ∃ A c, w.cell? ⟨b, off + i * 2 + 1, none⟩ = some (.slice A (wr_ ws i).2.length c) ∧ Bsl w B A (wr_ ws i).2.length c (wr_ ws i).2)
section
variable {w w' : World} {B B' len cap : Nat} {a : Option Addr} {bl : List (List UInt8)} {ws : WrL}
theorem Bls.below (h : Bls w B a len cap bl) (hb : Below B w w') : Bls w' B a len cap bl := by
  obtain ⟨h1, h2, h3, h4⟩ := h
  refine ⟨h1, h2, h3, fun hl => ?_⟩
  obtain ⟨b, off, e, hlt, hc⟩ := h4 hl
  refine ⟨b, off, e, hlt, fun i hi => ?_⟩
  obtain ⟨A, c, h5, h6⟩ := hc i hi
  exact ⟨A, c, (hb.cell (p := ⟨b, off + i, none⟩) hlt).trans h5, h6.below hb⟩
theorem Bls.more (h : Bls w B a len cap bl) (hB : B ≤ B') : Bls w B' a len cap bl := by
  obtain ⟨h1, h2, h3, h4⟩ := h
  refine ⟨h1, h2, h3, fun hl => ?_⟩
  obtain ⟨b, off, e, hlt, hc⟩ := h4 hl
  refine ⟨b, off, e, by omega, fun i hi => ?_⟩
  obtain ⟨A, c, h5, h6⟩ := hc i hi
  exact ⟨A, c, h5, h6.more hB⟩
theorem Bls.step (h : Bls w w.heap.size a len cap bl) (hb : Below w.heap.size w w') : Bls w' w'.heap.size a len cap bl := (h.below hb).more hb.size
theorem Bls.at_ (h : Bls w B a len cap bl) {i : Nat} (hi : i < len) : ∃ b off A n c s, a = some ⟨b, off, none⟩ ∧ b < B ∧ bl.getD i [] = s ∧ w.cell? ⟨b, off + i, none⟩ = some (.slice A n c) ∧ Bsl w B A n c s := by
  obtain ⟨h1, h2, h3, h4⟩ := h
  obtain ⟨b, off, e, hlt, hc⟩ := h4 (by omega)
  obtain ⟨A, c, h5, h6⟩ := hc i hi
  exact ⟨b, off, A, _, c, _, e, hlt, rfl, h5, h6⟩
theorem Wts.below (h : Wts w B a len cap ws) (hb : Below B w w') : Wts w' B a len cap ws := by
  obtain ⟨h1, h2, h3, h4⟩ := h
  refine ⟨h1, h2, h3, fun hl => ?_⟩
  obtain ⟨b, off, e, hlt, hc⟩ := h4 hl
  refine ⟨b, off, e, hlt, fun i hi => ?_⟩
  obtain ⟨h0, h7, A, c, h5, h6⟩ := hc i hi
  exact ⟨h0, (hb.cell (p := ⟨b, off + i * 2, none⟩) hlt).trans h7, A, c, (hb.cell (p := ⟨b, off + i * 2 + 1, none⟩) hlt).trans h5, h6.below hb⟩
theorem Wts.more (h : Wts w B a len cap ws) (hB : B ≤ B') : Wts w B' a len cap ws := by
  obtain ⟨h1, h2, h3, h4⟩ := h
  refine ⟨h1, h2, h3, fun hl => ?_⟩
  obtain ⟨b, off, e, hlt, hc⟩ := h4 hl
  refine ⟨b, off, e, by omega, fun i hi => ?_⟩
  obtain ⟨h0, h7, A, c, h5, h6⟩ := hc i hi
  exact ⟨h0, h7, A, c, h5, h6.more hB⟩
theorem Wts.step (h : Wts w w.heap.size a len cap ws) (hb : Below w.heap.size w w') : Wts w' w'.heap.size a len cap ws := (h.below hb).more hb.size
theorem Wts.at_ (h : Wts w B a len cap ws) {i : Nat} (hi : i < len) : ∃ b off p A n c s, a = some ⟨b, off, none⟩ ∧ b < B ∧ wr_ ws i = (p, s) ∧ (Lit.int .i64 p).wf = true ∧ w.cell? ⟨b, off + i * 2, none⟩ = some (.int .i64 p) ∧
    w.cell? ⟨b, off + i * 2 + 1, none⟩ = some (.slice A n c) ∧ Bsl w B A n c s := by
  obtain ⟨h1, h2, h3, h4⟩ := h
  obtain ⟨b, off, e, hlt, hc⟩ := h4 (by omega)
  obtain ⟨h0, h7, A, c, h5, h6⟩ := hc i hi
  exact ⟨b, off, _, A, _, c, _, e, hlt, rfl, h0, h7, h5, h6⟩
theorem Bls.len_le (h : Bls w B a len cap bl) : (len : Int) ≤ 9223372036854775807 := by have h1 := h.2.1; have h2 := h.2.2.1; unfold maxLen at h2; omega
theorem Wts.len_le (h : Wts w B a len cap ws) : (len : Int) ≤ 9223372036854775807 := by have h1 := h.2.1; have h2 := h.2.2.1; unfold maxLen at h2; omega
end
theorem Bsl.len_le {w : World} {B len cap : Nat} {a : Option Addr} {s : List UInt8} (h : Bsl w B a len cap s) : (len : Int) ≤ 9223372036854775807 := by have h1 := h.2.1; have h2 := h.2.2.1; unfold maxLen at h2; omega
theorem bls_nil (w : World) (B : Nat) : Bls w B none 0 0 [] := ⟨rfl, Nat.le_refl _, Nat.zero_le _, fun h => absurd h (Nat.lt_irrefl _)⟩
theorem wts_nil (w : World) (B : Nat) : Wts w B none 0 0 [] := ⟨rfl, Nat.le_refl _, Nat.zero_le _, fun h => absurd h (Nat.lt_irrefl _)⟩
/-- Where the two slices of a disk are. -/
structure DAt where
  ba : Option Addr
  bc : Nat
  wa : Option Addr
  wc : Nat
/-- The value of a disk. -/
def dval (x : DAt) (D : DkL) : Value := .agg #[.slice x.ba D.1.length x.bc, .slice x.wa D.2.length x.wc]
/-- A disk that lies below block B reads as D. -/
def Dsk (w : World) (B : Nat) (x : DAt) (D : DkL) : Prop := Bls w B x.ba D.1.length x.bc D.1 ∧ Wts w B x.wa D.2.length x.wc D.2
theorem Dsk.step {w w' : World} {x : DAt} {D : DkL} (h : Dsk w w.heap.size x D) (hb : Below w.heap.size w w') : Dsk w' w'.heap.size x D := ⟨h.1.step hb, h.2.step hb⟩
end Go.Proofs.YtldnelimemjaiaaGreatDoor
/-
  The document's own Great for layer 9: a disk that is not great has few blocks, few writes, few bytes.
-/
namespace Go.Proofs.YtldnelimemjaiaaGreatDoor
open Go.RowKit Go.Shelf
set_option maxRecDepth 100000

/-- No piece of a disk is longer than what memory there is. -/
def Near (D : DkL) : Prop := (∀ i, i < D.1.length → (D.1.getD i []).length ≤ 140737488351232) ∧ ∀ i, i < D.2.length → (wr_ D.2 i).2.length ≤ 140737488351232
/-- What a disk that is not great is. -/
def Small (D : DkL) : Prop := D.1.length ≤ 500 ∧ (D.2.length ≤ 500 ∨ 4096 ≤ D.2.length) ∧ D.2.length ≤ 4106 ∧ sumD D < 2000000
/-- What Great answers: if it is no, the disk is small. -/
def GreatSays (D : DkL) (w : World) (e : Ending) (w' : World) : Prop := ∃ b, e = .returned (.bool b) ∧ (b = false → Small D) ∧ Below w.heap.size w w'
theorem small_fits {D : DkL} (h : Small D) : Fits D := ⟨by have := h.1; omega, by have := h.2.2.1; omega, by have := h.2.2.2; omega⟩
theorem great_yes {D : DkL} {w w' : World} (hb : Below w.heap.size w w') : GreatSays D w (.returned (.bool true)) w' := ⟨true, rfl, fun h => (by cases h), hb⟩
set_option maxHeartbeats 4000000 in
theorem rdGreat_any (x : DAt) (D : DkL) (w : World) (h : Dsk w w.heap.size x D) (hnear : Near D) : Calls Tryz.prog 4 #[dval x D] w (GreatSays D w) := by
  obtain ⟨ba, bc, wa, wc⟩ := x
  simp only [dval]
  have l1 := h.1.len_le
  have l2 := h.2.len_le
  obtain ⟨n, hn⟩ : ∃ n, D.1.length = n := ⟨_, rfl⟩
  obtain ⟨m, hm⟩ : ∃ m, D.2.length = m := ⟨_, rfl⟩
  rw [hn] at l1
  rw [hm] at l2
  have n0 : (0 : Int) ≤ n := by omega
  have m0 : (0 : Int) ≤ m := by omega
  have b0 := (Below.refl w.heap.size w).alloc (Nat.le_refl _) (.cells #[.slice ba D.1.length bc, .slice wa D.2.length wc] 25)
  have x0 := Blk.new w 25 #[.slice ba D.1.length bc, .slice wa D.2.length wc]
  have h0 := h.step b0
  rw [hn, hm] at b0 x0 h0 ⊢
  obtain ⟨w0, hw0⟩ : ∃ w0, w.alloc (.cells #[.slice ba n bc, .slice wa m wc] 25) = w0 := ⟨_, rfl⟩
  rw [hw0] at b0 x0 h0
  have c0 := x0.cell 0
  have c1 := x0.cell 1
  obtain ⟨hB, hW⟩ := h0
  simp only [hn, hm] at hB hW
  have HB := Lib.hid hB
  have HW := Lib.hid hW
  have HBl := Lib.hid b0
  have HN := Lib.hid hn
  have HM := Lib.hid hm
  have HNEAR := Lib.hid hnear
  clear h b0 x0 hB hW hn hm hnear
  by_cases hn5 : (500 : Int) < n
  · go_enter Tryz.func4, Tryz.ntmps4
    go_wp2_with fail
    go_ret
    exact great_yes HBl.out
  · by_cases hmid : (500 : Int) < m ∧ (m : Int) < 4096
    · obtain ⟨hm5, hm4⟩ := hmid
      go_enter Tryz.func4, Tryz.ntmps4
      go_wp2_with fail
      go_ret
      exact great_yes HBl.out
    · by_cases hm6 : (4106 : Int) < m
      · have hm5 : (500 : Int) < m := by omega
        have hm4 : ¬ (m : Int) < 4096 := by omega
        clear hmid
        go_enter Tryz.func4, Tryz.ntmps4
        go_wp2_with fail
        go_ret
        exact great_yes HBl.out
      · have hdim : n ≤ 500 ∧ (m ≤ 500 ∨ 4096 ≤ m) ∧ m ≤ 4106 := by omega
        have HDIM := Lib.hid hdim
        have hmb : (500 : Int) < m → ¬ (m : Int) < 4096 := fun hh hk => hmid ⟨hh, hk⟩
        clear hmid hdim
        by_cases hm5 : (500 : Int) < m
        all_goals
          first
            | have hm4 : ¬ (m : Int) < 4096 := hmb hm5
            | have hm4 : True := trivial
          clear hmb
          go_enter Tryz.func4, Tryz.ntmps4
          go_wp2_with fail
          clear hw0 hm4 hm5 hm6 hn5
          go_loop [3, 4] (fun t i => ∃ k : Nat, k ≤ n ∧ i = .int .i64 k ∧ t = .int .i64 (sumB D.1 k : Nat) ∧ sumB D.1 k ≤ 140737490351232) (fun _ i => n - (intOf i).toNat)
          case atStart => exact ⟨0, Nat.zero_le _, rfl, rfl, by simp [sumB]⟩
          case round =>
            obtain ⟨k, hk, rfl, rfl, hts⟩ := hrel
            have k0 : (0 : Int) ≤ k := by omega
            obtain ⟨t, ht⟩ : ∃ t, sumB D.1 k = t := ⟨_, rfl⟩
            rw [ht] at hts ⊢
            have t0 : (0 : Int) ≤ t := by omega
            have t1 : (t : Int) ≤ 140737490351232 := by omega
            by_cases hlt : k < n ∧ t < 2000000
            · obtain ⟨hlt, ht2⟩ := hlt
              have k1 : (k : Int) < n := by omega
              have t2 : (t : Int) < 2000000 := by omega
              obtain ⟨b, off, A, l, c', s, rfl, _, hl, hc, hA⟩ := HB.out.at_ hlt
              have hle := HNEAR.out.1 k (by rw [HN.out]; exact hlt)
              rw [hl, hA.1] at hle
              have hs : sumB D.1 (k + 1) = t + l := by rw [sumB, hl, hA.1, ht]
              have l0 : (0 : Int) ≤ l := by omega
              have l1 : (l : Int) ≤ 140737488351232 := by omega
              have HS := Lib.hid hs
              clear hl hA hs ht
              go_wp2_with fail
              go_round
              case rel => exact ⟨k + 1, by omega, by go_num, by rw [HS.out]; go_num, by rw [HS.out]; omega⟩
              case measure => simp [intOf]; omega
            · have hend : k = n ∨ 2000000 ≤ t := by omega
              have HEND := Lib.hid hend
              have HT := Lib.hid ht
              have hgo : ((k : Int) < n → ¬ (t : Int) < 2000000) := by omega
              clear hend ht hlt
              by_cases hkn : (k : Int) < n
              all_goals
                first
                  | have t3 : ¬ (t : Int) < 2000000 := hgo hkn
                  | have t3 : True := trivial
                clear hgo
                go_wp2_with fail
                clear hkn t3
                go_loop [3, 5] (fun u i => ∃ j : Nat, j ≤ m ∧ i = .int .i64 j ∧ u = .int .i64 (t + sumW D.2 j : Nat) ∧ t + sumW D.2 j ≤ 281474980702464) (fun _ i => m - (intOf i).toNat)
                case atStart => exact ⟨0, Nat.zero_le _, rfl, rfl, by simp [sumW]; omega⟩
                case round =>
                  obtain ⟨j, hj, rfl, rfl, hus⟩ := hrel
                  have j0 : (0 : Int) ≤ j := by omega
                  obtain ⟨u, hu⟩ : ∃ u, t + sumW D.2 j = u := ⟨_, rfl⟩
                  rw [hu] at hus ⊢
                  have u0 : (0 : Int) ≤ u := by omega
                  have u1 : (u : Int) ≤ 281474980702464 := by omega
                  by_cases hlt : j < m ∧ u < 2000000
                  · obtain ⟨hlt, hu2⟩ := hlt
                    have j1 : (j : Int) < m := by omega
                    have u2 : (u : Int) < 2000000 := by omega
                    obtain ⟨b, off, p, A, l, c', s, rfl, _, hl, _, hc, hd, hA⟩ := HW.out.at_ hlt
                    have hle := HNEAR.out.2 j (by rw [HM.out]; exact hlt)
                    rw [hl, hA.1] at hle
                    have hs : t + sumW D.2 (j + 1) = u + l := by rw [sumW, hl, hA.1, ← Nat.add_assoc, hu]
                    have l0 : (0 : Int) ≤ l := by omega
                    have l1 : (l : Int) ≤ 140737488351232 := by omega
                    have HS := Lib.hid hs
                    clear hl hA hs hu
                    go_wp2_with fail
                    go_round
                    case rel => exact ⟨j + 1, by omega, by go_num, by rw [HS.out]; go_num, by rw [HS.out]; omega⟩
                    case measure => simp [intOf]; omega
                  · have hend2 : j = m ∨ 2000000 ≤ u := by omega
                    have hsay : decide ((2000000 : Int) ≤ u) = false → Small D := by
                      intro hh
                      have hu3 : ¬ (2000000 : Int) ≤ u := by simpa using hh
                      have hju : j = m := by omega
                      have e1 := HEND.out
                      have hkn : k = n := by omega
                      obtain ⟨d1, d2, d3⟩ := HDIM.out
                      refine ⟨by rw [HN.out]; exact d1, by rw [HM.out]; exact d2, by rw [HM.out]; exact d3, ?_⟩
                      unfold sumD
                      rw [HN.out, HM.out, ← hju, ← hkn, HT.out]
                      omega
                    have hgo2 : ((j : Int) < m → ¬ (u : Int) < 2000000) := by omega
                    have HSAY := Lib.hid hsay
                    clear hsay hend2 hlt hu
                    by_cases hjm : (j : Int) < m
                    all_goals
                      first
                        | have u3 : ¬ (u : Int) < 2000000 := hgo2 hjm
                        | have u3 : True := trivial
                      clear hgo2
                      go_wp2_with fail
                      go_ret
                      first | exact ⟨_, rfl, HSAY.out, HBl.out⟩ | exact great_yes HBl.out
end Go.Proofs.YtldnelimemjaiaaGreatDoor
/-
  dev.mayBe tells whether a disk may be.
-/
namespace Go.Proofs.YtldnelimemjaiaaGreatDoor
open Go.RowKit Go.Shelf
set_option maxRecDepth 100000

theorem dIsLong_any (a : Option Addr) (n c : Nat) (w : World) : Calls Tryz.prog 30 #[.slice a n c] w fun e w' => e = .returned (.bool (decide (n = 256))) ∧ w = w' := by
  by_cases h : n = 256
  · subst h
    go_enter Tryz.func30, Tryz.ntmps30
    go_wp2_with fail
    go_ret
    exact ⟨rfl, rfl⟩
  · have h1 : ((n : Int) == 256) = false := by simp; omega
    rw [decide_eq_false h]
    go_enter Tryz.func30, Tryz.ntmps30
    go_wp2_with fail
    go_ret
    exact ⟨rfl, rfl⟩
theorem dIsBlock_any (p : Int) (w : World) : Calls Tryz.prog 29 #[.int .i64 p] w fun e w' => e = .returned (.bool (decide (0 ≤ p ∧ p < 256))) ∧ w = w' := by
  by_cases h0 : 0 ≤ p
  · by_cases h1 : p < 256
    · rw [decide_eq_true (show 0 ≤ p ∧ p < 256 from ⟨h0, h1⟩)]
      go_enter Tryz.func29, Tryz.ntmps29
      go_wp2_with fail
      go_ret
      exact ⟨by simp; try omega, rfl⟩
    · rw [decide_eq_false (show ¬ (0 ≤ p ∧ p < 256) from fun h => h1 h.2)]
      go_enter Tryz.func29, Tryz.ntmps29
      go_wp2_with fail
      go_ret
      exact ⟨by simp; try omega, rfl⟩
  · rw [decide_eq_false (show ¬ (0 ≤ p ∧ p < 256) from fun h => h0 h.1)]
    go_enter Tryz.func29, Tryz.ntmps29
    go_wp2_with fail
    go_ret
    exact ⟨by simp; try omega, rfl⟩
theorem dMayWait_any (p : Int) (a : Option Addr) (n c : Nat) (w : World) : Calls Tryz.prog 56 #[.agg #[.int .i64 p, .slice a n c]] w fun e w' => e = .returned (.bool (decide ((0 ≤ p ∧ p < 256) ∧ n = 256))) ∧ Below w.heap.size w w' := by
  have hb := dIsBlock_any p
  have hl := dIsLong_any a n c
  have HX := Lib.hid ((Below.refl w.heap.size w).alloc (Nat.le_refl _) (.cells #[.int .i64 p, .slice a n c] 47))
  by_cases h : 0 ≤ p ∧ p < 256
  · simp only [decide_eq_true h] at hb
    have e : decide ((0 ≤ p ∧ p < 256) ∧ n = 256) = decide (n = 256) := by simp [h]
    rw [e]
    have HB := Lib.hid hb
    have HL := Lib.hid hl
    clear hb hl h e
    go_enter Tryz.func56, Tryz.ntmps56
    go_wp2_with fail
    refine (HB.out _).mono ?_
    rintro e w1 ⟨rfl, rfl⟩
    go_wp2_with fail
    refine (HL.out _).mono ?_
    rintro e w1 ⟨rfl, rfl⟩
    go_wp2_with fail
    go_ret
    exact ⟨rfl, HX.out⟩
  · simp only [decide_eq_false h] at hb
    have e : decide ((0 ≤ p ∧ p < 256) ∧ n = 256) = false := by simp; omega
    rw [e]
    have HB := Lib.hid hb
    clear hb hl h e
    go_enter Tryz.func56, Tryz.ntmps56
    go_wp2_with fail
    refine (HB.out _).mono ?_
    rintro e w1 ⟨rfl, rfl⟩
    go_wp2_with fail
    go_ret
    exact ⟨rfl, HX.out⟩
theorem dNotLong_any (a : Option Addr) (n c g : Nat) (w : World) (hg : w.cell? ⟨g, 0, none⟩ = some (.func (.func 30) #[] #[])) : Calls Tryz.prog 85 #[.slice a n c, .pointer (some ⟨g, 0, none⟩)] w fun e w' => e = .returned (.bool (!decide (n = 256))) ∧ w = w' := by
  have HL := Lib.hid (dIsLong_any a n c w)
  go_enter Tryz.func85, Tryz.ntmps85
  go_wp2_with fail
  refine HL.out.mono ?_
  rintro e w1 ⟨rfl, rfl⟩
  go_wp2_with fail
  go_ret
  exact ⟨rfl, rfl⟩
theorem dNotWait_any (p : Int) (a : Option Addr) (n c g : Nat) (r : Bool) (hr : decide ((0 ≤ p ∧ p < 256) ∧ n = 256) = r) (w : World) (hl : g < w.heap.size) (hg : w.cell? ⟨g, 0, none⟩ = some (.func (.func 56) #[] #[])) : Calls Tryz.prog 87 #[.agg #[.int .i64 p, .slice a n c], .pointer (some ⟨g, 0, none⟩)] w fun e w' => e = .returned (.bool (!r)) ∧ Below w.heap.size w w' := by
  have b1 := (Below.refl w.heap.size w).alloc (Nat.le_refl _) (.cells #[.int .i64 p, .slice a n c] 47)
  have hg1 := (b1.cell (p := ⟨g, 0, none⟩) hl).trans hg
  have HL : Hid (∀ W, Calls Tryz.prog 56 #[.agg #[.int .i64 p, .slice a n c]] W fun e w' => e = .returned (.bool r) ∧ Below W.heap.size W w') := Lib.hid fun W => by
    have := dMayWait_any p a n c W
    rw [hr] at this
    exact this
  have HB := Lib.hid b1
  clear b1 hl hr
  go_enter Tryz.func87, Tryz.ntmps87
  go_wp2_with fail
  refine (HL.out _).mono ?_
  rintro e w1 ⟨rfl, b2⟩
  have HB2 := Lib.hid (HB.out.trans (b2.mono HB.out.size))
  clear b2
  go_wp2_with fail
  go_ret
  exact ⟨rfl, HB2.out⟩
/-- slices.IndexFunc over blocks: none is odd. -/
theorem dIndexB_none (a : Option Addr) (n c : Nat) (bl : List (List UInt8)) (g : Nat) (w : World) (hB : Bls w w.heap.size a n c bl) (hg : w.cell? ⟨g, 0, none⟩ = some (.func (.func 30) #[] #[])) (hall : ∀ i, i < n → (bl.getD i []).length = 256) :
    Calls Tryz.prog 103 #[.slice a n c, .func (.func 85) #[] #[.pointer (some ⟨g, 0, none⟩)]] w fun e w' => e = .returned (.int .i64 (-1)) ∧ w = w' := by
  have n0 : (0 : Int) ≤ n := by omega
  have n1 := hB.len_le
  have HB := Lib.hid hB
  have HA := Lib.hid hall
  have HG := Lib.hid hg
  clear hB hall hg
  go_enter Tryz.func103, Tryz.ntmps103
  go_wp2_with fail
  go_loop [8] (fun i => ∃ k : Nat, k ≤ n ∧ i = .int .i64 k) (fun i => n - (intOf i).toNat)
  case atStart => exact ⟨0, Nat.zero_le _, rfl⟩
  case round =>
    obtain ⟨k, hk, rfl⟩ := hrel
    have k0 : (0 : Int) ≤ k := by omega
    by_cases hlt : k < n
    · have k1 : (k : Int) < n := by omega
      obtain ⟨b, off, A, l, c', s, rfl, _, hl, hc, hA⟩ := HB.out.at_ hlt
      have hl6 : l = 256 := by rw [← hA.1, ← hl]; exact HA.out k hlt
      subst hl6
      have hx := dNotLong_any A 256 c' g w HG.out
      have HX := Lib.hid hx
      clear hx hA hl
      go_wp2_with fail
      refine HX.out.mono ?_
      rintro e w1 ⟨rfl, rfl⟩
      go_wp2_with fail
      go_round
      case rel => exact ⟨k + 1, by omega, by go_num⟩
      case measure => simp [intOf]; omega
    · obtain rfl : k = n := by omega
      go_wp2_with fail
      go_ret
      exact ⟨rfl, rfl⟩
/-- One is. -/
theorem dIndexB_some (a : Option Addr) (n c : Nat) (bl : List (List UInt8)) (g : Nat) (w : World) (hB : Bls w w.heap.size a n c bl) (hg : w.cell? ⟨g, 0, none⟩ = some (.func (.func 30) #[] #[])) (j : Nat) (hj : j < n) (hodd : (bl.getD j []).length ≠ 256) :
    Calls Tryz.prog 103 #[.slice a n c, .func (.func 85) #[] #[.pointer (some ⟨g, 0, none⟩)]] w fun e w' => ∃ k : Nat, e = .returned (.int .i64 k) ∧ w = w' := by
  have n0 : (0 : Int) ≤ n := by omega
  have n1 := hB.len_le
  have HB := Lib.hid hB
  have HA := Lib.hid hodd
  have HG := Lib.hid hg
  clear hB hodd hg
  go_enter Tryz.func103, Tryz.ntmps103
  go_wp2_with fail
  go_loop [8] (fun i => ∃ k : Nat, k ≤ j ∧ i = .int .i64 k) (fun i => n - (intOf i).toNat)
  case atStart => exact ⟨0, Nat.zero_le _, rfl⟩
  case round =>
    obtain ⟨k, hk, rfl⟩ := hrel
    have k0 : (0 : Int) ≤ k := by omega
    have k1 : (k : Int) < n := by omega
    obtain ⟨b, off, A, l, c', s, rfl, _, hl, hc, hA⟩ := HB.out.at_ (show k < n by omega)
    have hx := dNotLong_any A l c' g w HG.out
    by_cases hl6 : l = 256
    · have hkj : k < j := by
        rcases Nat.lt_or_ge k j with h | h
        · exact h
        · obtain rfl : k = j := by omega
          exact absurd (by rw [hl, hA.1]; exact hl6) HA.out
      subst hl6
      have HX := Lib.hid hx
      clear hx hA hl
      go_wp2_with fail
      refine HX.out.mono ?_
      rintro e w1 ⟨rfl, rfl⟩
      go_wp2_with fail
      go_round
      case rel => exact ⟨k + 1, by omega, by go_num⟩
      case measure => simp [intOf]; omega
    · simp only [decide_eq_false hl6] at hx
      have HX := Lib.hid hx
      clear hx hA hl
      go_wp2_with fail
      refine HX.out.mono ?_
      rintro e w1 ⟨rfl, rfl⟩
      go_wp2_with fail
      go_ret
      exact ⟨k, rfl, rfl⟩
/-- slices.IndexFunc over writes: none is odd. -/
theorem dIndexW_none (a : Option Addr) (n c : Nat) (ws : WrL) (g : Nat) (w : World) (hB : Wts w w.heap.size a n c ws) (hlg : g < w.heap.size) (hg : w.cell? ⟨g, 0, none⟩ = some (.func (.func 56) #[] #[])) (hall : ∀ i, i < n → (0 ≤ (wr_ ws i).1 ∧ (wr_ ws i).1 < 256) ∧ (wr_ ws i).2.length = 256) :
    Calls Tryz.prog 104 #[.slice a n c, .func (.func 87) #[] #[.pointer (some ⟨g, 0, none⟩)]] w fun e w' => e = .returned (.int .i64 (-1)) ∧ Below w.heap.size w w' := by
  have n0 : (0 : Int) ≤ n := by omega
  have n1 := hB.len_le
  have HB := Lib.hid hB
  have HA := Lib.hid hall
  have HG := Lib.hid hg
  clear hB hall hg
  go_enter Tryz.func104, Tryz.ntmps104
  go_wp2_with fail
  go_loopw [8] (fun i wr => ∃ k : Nat, k ≤ n ∧ i = .int .i64 k ∧ Below w.heap.size w wr) (fun i _ => n - (intOf i).toNat)
  case atStart => exact ⟨0, Nat.zero_le _, rfl, Below.refl _ _⟩
  case round =>
    obtain ⟨k, hk, rfl, hb⟩ := hrel
    have k0 : (0 : Int) ≤ k := by omega
    by_cases hlt : k < n
    · have k1 : (k : Int) < n := by omega
      obtain ⟨b, off, p, A, l, c', s, rfl, hbl, hl, _, hc, hd, hA⟩ := HB.out.at_ hlt
      have hok := HA.out k hlt
      rw [hl] at hok
      have hl6 : l = 256 := by rw [← hA.1]; exact hok.2
      subst hl6
      have c1 := (hb.cell (p := ⟨b, off + k * 2, none⟩) hbl).trans hc
      have c2 := (hb.cell (p := ⟨b, off + k * 2 + 1, none⟩) hbl).trans hd
      have hx := dNotWait_any p A 256 c' g true (decide_eq_true ⟨hok.1, rfl⟩) wr (Nat.lt_of_lt_of_le hlg hb.size) ((hb.cell (p := ⟨g, 0, none⟩) hlg).trans HG.out)
      have HX := Lib.hid hx
      have HBr := Lib.hid hb
      clear hx hA hl hok hb hc hd
      go_wp2_with fail
      refine HX.out.mono ?_
      rintro e w1 ⟨rfl, b2⟩
      have HB2 := Lib.hid (HBr.out.trans (b2.mono HBr.out.size))
      clear b2
      go_wp2_with fail
      go_roundw
      case rel => exact ⟨k + 1, by omega, by go_num, HB2.out⟩
      case measure => simp [intOf]; omega
    · obtain rfl : k = n := by omega
      have HBr := Lib.hid hb
      clear hb
      go_wp2_with fail
      go_ret
      exact ⟨rfl, HBr.out⟩
/-- One is. -/
theorem dIndexW_some (a : Option Addr) (n c : Nat) (ws : WrL) (g : Nat) (w : World) (hB : Wts w w.heap.size a n c ws) (hlg : g < w.heap.size) (hg : w.cell? ⟨g, 0, none⟩ = some (.func (.func 56) #[] #[])) (j : Nat) (hj : j < n) (hodd : ¬ ((0 ≤ (wr_ ws j).1 ∧ (wr_ ws j).1 < 256) ∧ (wr_ ws j).2.length = 256)) :
    Calls Tryz.prog 104 #[.slice a n c, .func (.func 87) #[] #[.pointer (some ⟨g, 0, none⟩)]] w fun e w' => ∃ k : Nat, e = .returned (.int .i64 k) ∧ Below w.heap.size w w' := by
  have n0 : (0 : Int) ≤ n := by omega
  have n1 := hB.len_le
  have HB := Lib.hid hB
  have HA := Lib.hid hodd
  have HG := Lib.hid hg
  clear hB hodd hg
  go_enter Tryz.func104, Tryz.ntmps104
  go_wp2_with fail
  go_loopw [8] (fun i wr => ∃ k : Nat, k ≤ j ∧ i = .int .i64 k ∧ Below w.heap.size w wr) (fun i _ => n - (intOf i).toNat)
  case atStart => exact ⟨0, Nat.zero_le _, rfl, Below.refl _ _⟩
  case round =>
    obtain ⟨k, hk, rfl, hb⟩ := hrel
    have k0 : (0 : Int) ≤ k := by omega
    have k1 : (k : Int) < n := by omega
    obtain ⟨b, off, p, A, l, c', s, rfl, hbl, hl, _, hc, hd, hA⟩ := HB.out.at_ (show k < n by omega)
    have c1 := (hb.cell (p := ⟨b, off + k * 2, none⟩) hbl).trans hc
    have c2 := (hb.cell (p := ⟨b, off + k * 2 + 1, none⟩) hbl).trans hd
    have hx := fun r hr => dNotWait_any p A l c' g r hr wr (Nat.lt_of_lt_of_le hlg hb.size) ((hb.cell (p := ⟨g, 0, none⟩) hlg).trans HG.out)
    by_cases hl6 : (0 ≤ p ∧ p < 256) ∧ l = 256
    · have hkj : k < j := by
        rcases Nat.lt_or_ge k j with h | h
        · exact h
        · obtain rfl : k = j := by omega
          exact absurd (by rw [hl]; exact ⟨hl6.1, by rw [hA.1]; exact hl6.2⟩) HA.out
      have HX := Lib.hid (hx true (decide_eq_true hl6))
      have HBr := Lib.hid hb
      clear hx hA hl hl6 hb hc hd
      go_wp2_with fail
      refine HX.out.mono ?_
      rintro e w1 ⟨rfl, b2⟩
      have HB2 := Lib.hid (HBr.out.trans (b2.mono HBr.out.size))
      clear b2
      go_wp2_with fail
      go_roundw
      case rel => exact ⟨k + 1, by omega, by go_num, HB2.out⟩
      case measure => simp [intOf]; omega
    · have HX := Lib.hid (hx false (decide_eq_false hl6))
      have HBr := Lib.hid hb
      clear hx hA hl hl6 hb hc hd
      go_wp2_with fail
      refine HX.out.mono ?_
      rintro e w1 ⟨rfl, b2⟩
      have HB2 := Lib.hid (HBr.out.trans (b2.mono HBr.out.size))
      clear b2
      go_wp2_with fail
      go_ret
      exact ⟨k, rfl, HB2.out⟩
/-- slices.ContainsFunc: is one odd? -/
theorem dContB_any (a : Option Addr) (n c : Nat) (bl : List (List UInt8)) (g : Nat) (w : World) (hB : Bls w w.heap.size a n c bl) (hg : w.cell? ⟨g, 0, none⟩ = some (.func (.func 30) #[] #[])) (r : Bool) (hr : r = true ↔ ∀ i, i < n → (bl.getD i []).length = 256) :
    Calls Tryz.prog 84 #[.slice a n c, .func (.func 85) #[] #[.pointer (some ⟨g, 0, none⟩)]] w fun e w' => e = .returned (.bool (!r)) ∧ w = w' := by
  cases r with
  | true =>
    have HI := Lib.hid (dIndexB_none a n c bl g w hB hg (hr.1 rfl))
    clear hB hg hr
    go_enter Tryz.func84, Tryz.ntmps84
    go_wp2_with fail
    refine HI.out.mono ?_
    rintro e w1 ⟨rfl, rfl⟩
    
    go_wp2_with fail
    go_ret
    exact ⟨rfl, rfl⟩
  | false =>
    obtain ⟨j, hj, hodd⟩ : ∃ i, i < n ∧ ¬ ((bl.getD i []).length = 256) := by
      apply Classical.byContradiction
      intro hn
      have : false = true := hr.2 fun i hi => Classical.byContradiction fun h => hn ⟨i, hi, h⟩
      cases this
    have HI := Lib.hid (dIndexB_some a n c bl g w hB hg j hj hodd)
    clear hB hg hr hodd
    go_enter Tryz.func84, Tryz.ntmps84
    go_wp2_with fail
    refine HI.out.mono ?_
    rintro e w1 ⟨k, rfl, rfl⟩
    have k0 : (0 : Int) ≤ k := by omega
    
    go_wp2_with fail
    go_ret
    exact ⟨rfl, rfl⟩
/-- All are as they should be: dev.allAre. -/
theorem dAllB_any (a : Option Addr) (n c : Nat) (bl : List (List UInt8)) (w : World) (hB : Bls w w.heap.size a n c bl) (r : Bool) (hr : r = true ↔ ∀ i, i < n → (bl.getD i []).length = 256) :
    Calls Tryz.prog 54 #[.slice a n c, .func (.func 30) #[] #[]] w fun e w' => e = .returned (.bool r) ∧ Below w.heap.size w w' := by
  have b0 := (Below.refl w.heap.size w).alloc (Nat.le_refl _) (.cells #[.func (.func 30) #[] #[]] 65)
  have x0 := Blk.new w 65 #[.func (.func 30) #[] #[]]
  have HI := Lib.hid (dContB_any a n c bl w.heap.size _ (hB.step b0) (x0.cell 0) r hr)
  have HB := Lib.hid b0
  clear hB hr b0 x0
  go_enter Tryz.func54, Tryz.ntmps54
  go_wp2_with fail
  refine HI.out.mono ?_
  rintro e w1 ⟨rfl, rfl⟩
  have HB2 := HB
  go_wp2_with fail
  go_ret
  exact ⟨by simp, HB2.out⟩
/-- slices.ContainsFunc: is one odd? -/
theorem dContW_any (a : Option Addr) (n c : Nat) (ws : WrL) (g : Nat) (w : World) (hB : Wts w w.heap.size a n c ws) (hlg : g < w.heap.size) (hg : w.cell? ⟨g, 0, none⟩ = some (.func (.func 56) #[] #[])) (r : Bool) (hr : r = true ↔ ∀ i, i < n → (0 ≤ (wr_ ws i).1 ∧ (wr_ ws i).1 < 256) ∧ (wr_ ws i).2.length = 256) :
    Calls Tryz.prog 86 #[.slice a n c, .func (.func 87) #[] #[.pointer (some ⟨g, 0, none⟩)]] w fun e w' => e = .returned (.bool (!r)) ∧ Below w.heap.size w w' := by
  cases r with
  | true =>
    have HI := Lib.hid (dIndexW_none a n c ws g w hB hlg hg (hr.1 rfl))
    clear hB hg hr
    go_enter Tryz.func86, Tryz.ntmps86
    go_wp2_with fail
    refine HI.out.mono ?_
    rintro e w1 ⟨rfl, b2⟩
    have HB2 := Lib.hid b2; clear b2
    go_wp2_with fail
    go_ret
    exact ⟨rfl, HB2.out⟩
  | false =>
    obtain ⟨j, hj, hodd⟩ : ∃ i, i < n ∧ ¬ ((0 ≤ (wr_ ws i).1 ∧ (wr_ ws i).1 < 256) ∧ (wr_ ws i).2.length = 256) := by
      apply Classical.byContradiction
      intro hn
      have : false = true := hr.2 fun i hi => Classical.byContradiction fun h => hn ⟨i, hi, h⟩
      cases this
    have HI := Lib.hid (dIndexW_some a n c ws g w hB hlg hg j hj hodd)
    clear hB hg hr hodd
    go_enter Tryz.func86, Tryz.ntmps86
    go_wp2_with fail
    refine HI.out.mono ?_
    rintro e w1 ⟨k, rfl, b2⟩
    have k0 : (0 : Int) ≤ k := by omega
    have HB2 := Lib.hid b2; clear b2
    go_wp2_with fail
    go_ret
    exact ⟨rfl, HB2.out⟩
/-- All are as they should be: dev.allAre. -/
theorem dAllW_any (a : Option Addr) (n c : Nat) (ws : WrL) (w : World) (hB : Wts w w.heap.size a n c ws) (r : Bool) (hr : r = true ↔ ∀ i, i < n → (0 ≤ (wr_ ws i).1 ∧ (wr_ ws i).1 < 256) ∧ (wr_ ws i).2.length = 256) :
    Calls Tryz.prog 55 #[.slice a n c, .func (.func 56) #[] #[]] w fun e w' => e = .returned (.bool r) ∧ Below w.heap.size w w' := by
  have b0 := (Below.refl w.heap.size w).alloc (Nat.le_refl _) (.cells #[.func (.func 56) #[] #[]] 88)
  have x0 := Blk.new w 88 #[.func (.func 56) #[] #[]]
  have HI := Lib.hid (dContW_any a n c ws w.heap.size _ (hB.step b0) (by rw [World.size_alloc]; omega) (x0.cell 0) r hr)
  have HB := Lib.hid b0
  clear hB hr b0 x0
  go_enter Tryz.func55, Tryz.ntmps55
  go_wp2_with fail
  refine HI.out.mono ?_
  rintro e w1 ⟨rfl, b2⟩
  have HB2 := Lib.hid (HB.out.trans (b2.mono HB.out.size)); clear b2
  go_wp2_with fail
  go_ret
  exact ⟨by simp, HB2.out⟩
/-- dev.mayBe. -/
theorem dMay_yes (x : DAt) (D : DkL) (w : World) (h : Dsk w w.heap.size x D) (hm : MayD D) : Calls Tryz.prog 26 #[dval x D] w fun e w' => e = .returned (.bool true) ∧ Below w.heap.size w w' := by
  obtain ⟨ba, bc, wa, wc⟩ := x
  obtain ⟨bl, ws⟩ := D
  obtain ⟨hB, hW⟩ := h
  obtain ⟨⟨m1, m2⟩, m3, m4⟩ := hm
  simp only [dval] at hB hW m1 m2 m3 m4 ⊢
  obtain ⟨m, hm⟩ : ∃ m, ws.length = m := ⟨_, rfl⟩
  rw [hm] at hW m3 m4 ⊢
  rw [m1] at hB ⊢
  have i0 : (m : Int) ≤ 4096 := by omega
  have b0 := (Below.refl w.heap.size w).alloc (Nat.le_refl _) (.cells #[.slice ba 256 bc, .slice wa m wc] 25)
  have x0 := Blk.new w 25 #[.slice ba 256 bc, .slice wa m wc]
  have HI := Lib.hid (dAllB_any ba 256 bc bl _ (hB.step b0) true ⟨fun _ => m2, fun _ => rfl⟩)
  have HX := Lib.hid x0
  have HB := Lib.hid b0
  have HW := Lib.hid (hW.step b0)
  have HP := Lib.hid m4
  clear hB hW b0 x0 m1 m2 m4 hm
  go_enter Tryz.func26, Tryz.ntmps26
  go_wp2_with fail
  refine HI.out.mono ?_
  rintro e w1 ⟨rfl, b1⟩
  have c0 := (HX.out.below b1 HX.out.lt).cell 0
  have c1 := (HX.out.below b1 HX.out.lt).cell 1
  have HI2 := Lib.hid (dAllW_any wa m wc ws w1 (HW.out.step b1) true ⟨fun _ => HP.out, fun _ => rfl⟩)
  have HB2 := Lib.hid (HB.out.trans (b1.mono HB.out.size))
  clear b1
  go_wp2_with fail
  refine HI2.out.mono ?_
  rintro e w2 ⟨rfl, b2⟩
  have HB3 := Lib.hid (HB2.out.trans (b2.mono HB2.out.size))
  clear b2 c0 c1
  go_wp2_with fail
  go_ret
  exact ⟨rfl, HB3.out⟩
theorem dMay_no (x : DAt) (D : DkL) (w : World) (h : Dsk w w.heap.size x D) (hm : ¬ MayD D) : Calls Tryz.prog 26 #[dval x D] w fun e w' => e = .returned (.bool false) ∧ Below w.heap.size w w' := by
  obtain ⟨ba, bc, wa, wc⟩ := x
  obtain ⟨bl, ws⟩ := D
  obtain ⟨hB, hW⟩ := h
  unfold MayD at hm
  simp only [dval] at hB hW hm ⊢
  have l1 := hB.len_le
  have l2 := hW.len_le
  obtain ⟨n, hn⟩ : ∃ n, bl.length = n := ⟨_, rfl⟩
  obtain ⟨m, hm'⟩ : ∃ m, ws.length = m := ⟨_, rfl⟩
  rw [hm'] at hW hm l2 ⊢
  rw [hn] at hB hm l1 ⊢
  have n0 : (0 : Int) ≤ n := by omega
  have m0 : (0 : Int) ≤ m := by omega
  have b0 := (Below.refl w.heap.size w).alloc (Nat.le_refl _) (.cells #[.slice ba n bc, .slice wa m wc] 25)
  have x0 := Blk.new w 25 #[.slice ba n bc, .slice wa m wc]
  have HX := Lib.hid x0
  have HB := Lib.hid b0
  have HW := Lib.hid (hW.step b0)
  have HBl := Lib.hid (hB.step b0)
  clear hB hW b0 x0 hn hm'
  by_cases h1 : n = 256
  · subst h1
    by_cases h2 : (m : Int) ≤ 4096
    · have hm2 : ¬ ((∀ i, i < 256 → (bl.getD i []).length = 256) ∧ ∀ i, i < m → (0 ≤ (wr_ ws i).1 ∧ (wr_ ws i).1 < 256) ∧ (wr_ ws i).2.length = 256) := fun hh => hm ⟨⟨rfl, hh.1⟩, by omega, hh.2⟩
      by_cases h3 : ∀ i, i < 256 → (bl.getD i []).length = 256
      · have HI := Lib.hid (dAllB_any ba 256 bc bl _ HBl.out true ⟨fun _ => h3, fun _ => rfl⟩)
        have HP := Lib.hid (show ¬ ∀ i, i < m → (0 ≤ (wr_ ws i).1 ∧ (wr_ ws i).1 < 256) ∧ (wr_ ws i).2.length = 256 from fun hh => hm2 ⟨h3, hh⟩)
        clear hm hm2 h3
        go_enter Tryz.func26, Tryz.ntmps26
        go_wp2_with fail
        refine HI.out.mono ?_
        rintro e w1 ⟨rfl, b1⟩
        have c0 := (HX.out.below b1 HX.out.lt).cell 0
        have c1 := (HX.out.below b1 HX.out.lt).cell 1
        have HI2 := Lib.hid (dAllW_any wa m wc ws w1 (HW.out.step b1) false ⟨fun h => (by cases h), fun h => absurd h HP.out⟩)
        have HB2 := Lib.hid (HB.out.trans (b1.mono HB.out.size))
        clear b1
        go_wp2_with fail
        refine HI2.out.mono ?_
        rintro e w2 ⟨rfl, b2⟩
        have HB3 := Lib.hid (HB2.out.trans (b2.mono HB2.out.size))
        clear b2 c0 c1
        go_wp2_with fail
        go_ret
        exact ⟨rfl, HB3.out⟩
      · have HI := Lib.hid (dAllB_any ba 256 bc bl _ HBl.out false ⟨fun h => (by cases h), fun h => absurd h h3⟩)
        clear hm hm2 h3
        go_enter Tryz.func26, Tryz.ntmps26
        go_wp2_with fail
        refine HI.out.mono ?_
        rintro e w1 ⟨rfl, b1⟩
        have HB2 := Lib.hid (HB.out.trans (b1.mono HB.out.size))
        clear b1
        go_wp2_with fail
        go_ret
        exact ⟨rfl, HB2.out⟩
    · clear hm
      go_enter Tryz.func26, Tryz.ntmps26
      go_wp2_with fail
      go_ret
      exact ⟨rfl, HB.out⟩
  · have h2 : ((n : Int) == 256) = false := by simp; omega
    clear hm
    go_enter Tryz.func26, Tryz.ntmps26
    go_wp2_with fail
    go_ret
    exact ⟨rfl, HB.out⟩
end Go.Proofs.YtldnelimemjaiaaGreatDoor
/-
  Words for a map[int]int that the call made: what it holds, as a function; a lookup, a store.
-/
namespace Go.Proofs.YtldnelimemjaiaaGreatDoor
open Go.RowKit Go.Shelf Go.Maps Go.WideShapes
set_option maxRecDepth 100000

theorem lawInt : Keyed Tryz.prog 3 := int_keyed Tryz.underlying3
theorem zeroInt (w : World) : (zeroValue 3).run Tryz.prog w = .ok (.int .i64 0) w := by kernel_rfl
/-- Block g is a map of at most n entries that holds just what f tells. -/
def MapI (w : World) (g n : Nat) (f : Int → Option Nat) : Prop :=
  ∃ D : DataW Unit, w.ownsMap Tryz.prog 3 (plainElem Tryz.prog 3) g n D ∧ IsMap D ∧ ∀ p : Int, (Lit.int .i64 p).wf = true → has D (.int .i64 p) = (f p).isSome ∧ ∀ i, f p = some i → D.atKey (.int .i64 p) (.lit (.int .i64 0)) = .lit (.int .i64 (i : Nat))
section
variable {w w' : World} {g n : Nat} {f : Int → Option Nat}
theorem MapI.lt (h : MapI w g n f) : g < w.heap.size := by obtain ⟨D, h1, _⟩ := h; exact h1.lt
theorem MapI.kept {row : Option Nat} (h : MapI w g n f) (hg : w.grownBy w' row) (hne : some g ≠ row) : MapI w' g n f := by
  obtain ⟨D, h1, h2⟩ := h
  exact ⟨D, h1.kept hg hne, h2⟩
theorem MapI.below {B : Nat} (h : MapI w g n f) (hb : Below B w w') (hg : g < B) : MapI w' g n f := by
  obtain ⟨D, ⟨es, clock, h1, h3⟩, h2⟩ := h
  exact ⟨D, ⟨es, clock, (hb.block g hg).trans h1, h3⟩, h2⟩
theorem mapI_made (w : World) : MapI (w.alloc (.map #[] 0)) w.heap.size 0 (fun _ => none) :=
  ⟨.map [], World.ownsMap_made _ _ _ _, isMap_empty, fun p _ => ⟨rfl, fun i h => by cases h⟩⟩
theorem MapI.congr {f' : Int → Option Nat} (h : MapI w g n f) (e : ∀ p, f p = f' p) : MapI w g n f' := by
  obtain rfl : f = f' := funext e
  exact h
end
section
variable {w : World} {ops : Array Oper} {rest : List Oper} {o : Oper} {a : Act} {Q : Exit → Act → World → Prop}
/-- m[p] = i. -/
theorem wpList_mapI_put (hg : o.guard = none) (m x v : Operand) (hop : o.op = Op.mapUpdate 73 m x v) (g n : Nat) (f : Int → Option Nat) (hm : a.eval m = .map (some g)) (hown : MapI w g n f) (hn : n < maxLen)
    (p : Int) (i : Nat) (hp : (Lit.int .i64 p).wf = true) (hi : (i : Int) ≤ 9223372036854775807) (hx : a.eval x = .int .i64 p) (hv : a.eval v = .int .i64 (i : Nat))
    (hK : ∀ w', MapI w' g (n + 1) (fun q => if q = p then some i else f q) → w.grownBy w' (some g) → wpList Tryz.prog ops Q rest (a.put o.dst undef) w') : wpList Tryz.prog ops Q (o :: rest) a w := by
  obtain ⟨D, h1, h2, h3⟩ := hown
  have hwi : (Lit.int .i64 (i : Nat)).wf = true := by simp [Lit.wf, IntKind.min, IntKind.max, IntKind.signed, IntKind.bits]; omega
  refine wpList_mapUpdate_own w hg m x v 73 hop 3 3 lawInt Tryz.underlying73 _ g n D hm h1 hn (.int .i64 p) (.int .i64 (i : Nat)) (.int .i64 p) hx hv (keyOf_int_mk Tryz.underlying3 hp) (.lit (.int .i64 (i : Nat))) [] (plainElem_int Tryz.underlying3 hwi) ?_
  intro w' hw' hgr
  refine hK w' ⟨_, hw', h2.put _ _, fun q hq => ?_⟩ hgr
  by_cases e : q = p
  · subst e
    have ef : (fun r => if r = q then some i else f r) q = some i := if_pos rfl
    have hk : WideAt.IsKeyLit (.int .i64 q) := by unfold WideAt.IsKeyLit; exact trivial
    rw [ef]
    refine ⟨has_put_same h2 hk _, fun j hj => ?_⟩
    cases hj
    exact atKey_put_same h2 hk _ _
  · have hne : (Lit.int .i64 q) ≠ (Lit.int .i64 p) := fun h => e (by injection h)
    have ef : (fun r => if r = p then some i else f r) q = f q := if_neg e
    obtain ⟨h4, h5⟩ := h3 q hq
    rw [ef]
    refine ⟨by rw [has_put_other hne, h4], fun j hj => ?_⟩
    rw [atKey_put_other hne]
    exact h5 j hj
/-- i, ok := m[p]. -/
theorem wpList_mapI_get (hg : o.guard = none) (m x : Operand) (hop : o.op = Op.lookup 73 m x true) (g n : Nat) (f : Int → Option Nat) (hm : a.eval m = .map (some g)) (hown : MapI w g n f)
    (p : Int) (hp : (Lit.int .i64 p).wf = true) (hx : a.eval x = .int .i64 p)
    (hK : ∀ c : Int, (∀ i, f p = some i → c = (i : Nat)) → wpList Tryz.prog ops Q rest (a.put o.dst (.tuple #[.int .i64 c, .bool (f p).isSome])) w) : wpList Tryz.prog ops Q (o :: rest) a w := by
  obtain ⟨D, h1, h2, h3⟩ := hown
  refine wpList_lookup_own_ok_int w hg m x 73 hop 3 3 .i64 lawInt Tryz.underlying73 Tryz.underlying3 (zeroInt w) g n D hm h1 (.int .i64 p) (.int .i64 p) hx (keyOf_int_mk Tryz.underlying3 hp) ?_
  intro c hat hwc
  obtain ⟨h4, h5⟩ := h3 p hp
  rw [h4]
  refine hK c fun i hi => ?_
  rw [h5 i hi] at hat
  injection hat with hat
  injection hat with _ hat
  exact hat.symm
theorem wpList_mapI_some (hg : o.guard = none) (m x : Operand) (hop : o.op = Op.lookup 73 m x true) (g n : Nat) (f : Int → Option Nat) (hm : a.eval m = .map (some g)) (hown : MapI w g n f)
    (p : Int) (hp : (Lit.int .i64 p).wf = true) (hx : a.eval x = .int .i64 p) (i : Nat) (hf : f p = some i)
    (hK : wpList Tryz.prog ops Q rest (a.put o.dst (.tuple #[.int .i64 (i : Nat), .bool true])) w) : wpList Tryz.prog ops Q (o :: rest) a w :=
  wpList_mapI_get hg m x hop g n f hm hown p hp hx fun c hc => by
    rw [hf, hc i hf]
    exact hK
theorem wpList_mapI_none (hg : o.guard = none) (m x : Operand) (hop : o.op = Op.lookup 73 m x true) (g n : Nat) (f : Int → Option Nat) (hm : a.eval m = .map (some g)) (hown : MapI w g n f)
    (p : Int) (hp : (Lit.int .i64 p).wf = true) (hx : a.eval x = .int .i64 p) (hf : f p = none)
    (hK : ∀ c : Int, wpList Tryz.prog ops Q rest (a.put o.dst (.tuple #[.int .i64 c, .bool false])) w) : wpList Tryz.prog ops Q (o :: rest) a w :=
  wpList_mapI_get hg m x hop g n f hm hown p hp hx fun c _ => by
    rw [hf]
    exact hK c
end
end Go.Proofs.YtldnelimemjaiaaGreatDoor
/-
  dev.lastOnes tells for each block which is the last one of the writes whose mark is true.
-/
namespace Go.Proofs.YtldnelimemjaiaaGreatDoor
open Go.RowKit Go.Shelf
set_option maxRecDepth 100000

/-- A new map that tells of each block its last one among the first m. -/
def LastPost (ws : WrL) (mk : Nat → Bool) (m : Nat) (w : World) (e : Ending) (w' : World) : Prop :=
  ∃ g, e = .returned (.map (some g)) ∧ w.heap.size ≤ g ∧ MapI w' g m (fun p => lastTo ws mk p m) ∧ Below w.heap.size w w'
theorem lastTo_put {ws : WrL} {mk : Nat → Bool} {k : Nat} {p : Int} {s : List UInt8} (h : wr_ ws k = (p, s)) (hm : mk k = true) (q : Int) : (if q = p then some k else lastTo ws mk q k) = lastTo ws mk q (k + 1) := by
  rw [lastTo, h]
  by_cases e : q = p
  · rw [if_pos e, if_pos ⟨hm, e.symm⟩]
  · rw [if_neg e, if_neg (fun h => e h.2.symm)]
theorem lastTo_skip {ws : WrL} {mk : Nat → Bool} {k : Nat} (hm : mk k = false) (q : Int) : lastTo ws mk q k = lastTo ws mk q (k + 1) := by
  rw [lastTo, if_neg (fun h => by rw [hm] at h; cases h.1)]
set_option maxHeartbeats 1000000 in
theorem dLast2_any (a : Option Addr) (m c : Nat) (ws : WrL) (mk : Nat → Bool) (pa pb : Addr) (w : World) (hW : Wts w w.heap.size a m c ws)
    (hF : ∀ W, Below w.heap.size w W → ∀ i, i < m → Calls Tryz.prog 43 #[.int .i64 (i : Nat), .pointer (some pa), .pointer (some pb)] W fun e w' => e = .returned (.bool (mk i)) ∧ Below W.heap.size W w') :
    Calls Tryz.prog 42 #[.slice a m c, .func (.func 43) #[] #[.pointer (some pa), .pointer (some pb)]] w (LastPost ws mk m w) := by
  have hmm := @run_makeMap Tryz.prog
  have m0 : (0 : Int) ≤ m := by omega
  have m1 := hW.len_le
  obtain ⟨g, hg⟩ : ∃ g, w.heap.size = g := ⟨_, rfl⟩
  obtain ⟨w0, hw0⟩ : ∃ w0, w.alloc (.map #[] 0) = w0 := ⟨_, rfl⟩
  have hM := mapI_made w
  have hb0 : Below w.heap.size w w0 := by rw [← hw0]; exact (Below.refl _ w).alloc (Nat.le_refl _) _
  rw [hw0, hg] at hM
  rw [hg] at hb0
  have hM0 : MapI w0 g 0 (fun p => lastTo ws mk p 0) := hM
  have HW := Lib.hid hW
  have HF := Lib.hid hF
  have HG := Lib.hid hg
  have HM0 := Lib.hid hM0
  have HB0 := Lib.hid hb0
  clear hW hF hM hM0 hb0
  go_enter Tryz.func42, Tryz.ntmps42
  go_wp2_with fail
  clear hg hw0
  go_loopw [11] (fun i wr => ∃ k : Nat, k ≤ m ∧ i = .int .i64 k ∧ Hid (MapI wr g k (fun p => lastTo ws mk p k)) ∧ Hid (Below g w wr)) (fun i _ => m - (intOf i).toNat)
  case atStart => exact ⟨0, Nat.zero_le _, rfl, HM0, HB0⟩
  case round =>
    obtain ⟨k, hk, rfl, HM, HB⟩ := hrel
    have k0 : (0 : Int) ≤ k := by omega
    by_cases hlt : k < m
    · have k1 : (k : Int) < m := by omega
      obtain ⟨b, off, p, A, l, c', s, rfl, hlb, hl, hwf, hc, hd, hA⟩ := HW.out.at_ hlt
      rw [HG.out] at hlb
      have c1 := (HB.out.cell (p := ⟨b, off + k * 2, none⟩) hlb).trans hc
      have c2 := (HB.out.cell (p := ⟨b, off + k * 2 + 1, none⟩) hlb).trans hd
      have hx := Blk.new wr 47 #[.int .i64 p, .slice A l c']
      have ba := (Below.refl wr.heap.size wr).alloc (Nat.le_refl _) (.cells #[.int .i64 p, .slice A l c'] 47)
      have hgr : g < wr.heap.size := HM.out.lt
      have ha := HM.out.below ba hgr
      have hb := HB.out.trans (ba.mono (Nat.le_of_lt hgr))
      have hcl := HF.out _ (by rw [HG.out]; exact hb) k hlt
      obtain ⟨wa, hwa⟩ : ∃ wa, wr.alloc (.cells #[.int .i64 p, .slice A l c'] 47) = wa := ⟨_, rfl⟩
      obtain ⟨gt, hgt⟩ : ∃ gt, wr.heap.size = gt := ⟨_, rfl⟩
      rw [hwa, hgt] at hx
      rw [hwa] at ha hb hcl
      rw [hgt] at hgr
      have HX := Lib.hid hx
      have HA := Lib.hid ha
      have HBa := Lib.hid hb
      have HC := Lib.hid hcl
      have HL := Lib.hid hl
      have HWF := Lib.hid hwf
      clear hc hd hA ba hx ha hb hcl HM HB hl hwf
      go_wp2_with fail
      refine HC.out.mono ?_
      rintro e w1 ⟨rfl, b1⟩
      have hgw := HA.out.lt
      have HB1 := Lib.hid (HBa.out.trans (b1.mono (by omega)))
      have HM1 := Lib.hid (HA.out.below b1 hgw)
      have d0 := (HX.out.below b1 HX.out.lt).cell 0
      clear b1 hgt hwa c1 c2 HC HA HBa HX hgw hgr
      by_cases hm : mk k = true
      · have HMK := Lib.hid hm
        go_wp2_with (at_mapUpdate; refine wpList_mapI_put rfl (.tmp 19) (.tmp 21) (.tmp 22) rfl g k _ rfl HM1.out (by unfold maxLen; omega) p k HWF.out (by omega) rfl rfl ?_
                     intro w2 hm2 hg2
                     have HM2 := Lib.hid (hm2.congr (lastTo_put HL.out HMK.out))
                     have HB2 := Lib.hid (HB1.out.grown hg2 (by have := HM1.out.lt; omega) (fun j e => by cases e; exact Nat.le_refl _))
                     clear hm2 hg2)
        go_roundw
        case rel => exact ⟨k + 1, by omega, by go_num, HM2, HB2⟩
        case measure => simp [intOf]; omega
      · have hm' : mk k = false := by simpa using hm
        have HM2 := Lib.hid ((HM1.out.congr (lastTo_skip hm')))
        clear hm
        go_wp2_with fail
        go_roundw
        case rel =>
          obtain ⟨D, h1, h2⟩ := HM2.out
          exact ⟨k + 1, by omega, by go_num, Lib.hid ⟨D, h1.mono (Nat.le_succ _), h2⟩, HB1⟩
        case measure => simp [intOf]; omega
    · obtain rfl : k = m := by omega
      go_wp2_with fail
      go_ret
      exact ⟨g, rfl, by rw [HG.out]; exact Nat.le_refl _, HM.out, by rw [HG.out]; exact HB.out⟩
end Go.Proofs.YtldnelimemjaiaaGreatDoor
/-
  dev.left tells what last ones leave of a block; the closures that tell marks.
-/
namespace Go.Proofs.YtldnelimemjaiaaGreatDoor
open Go.RowKit Go.Shelf
set_option maxRecDepth 100000

/-- A list below block B that reads as s. -/
def ReadPost (B : Nat) (s : List UInt8) (w : World) (e : Ending) (w' : World) : Prop := ∃ A c, e = .returned (.slice A s.length c) ∧ Bsl w' B A s.length c s ∧ Below w.heap.size w w'
theorem wf64 {p : Int} (h0 : -9223372036854775808 ≤ p) (h1 : p ≤ 9223372036854775807) : (Lit.int .i64 p).wf = true := by simp [Lit.wf, IntKind.min, IntKind.max, IntKind.signed, IntKind.bits]; omega
set_option maxHeartbeats 1000000 in
theorem dLeft_some (B : Nat) (x : DAt) (D : DkL) (g N : Nat) (f : Int → Option Nat) (p : Int) (i : Nat) (w : World) (hB : B ≤ w.heap.size) (h : Dsk w B x D) (hM : MapI w g N f) (hp : (Lit.int .i64 p).wf = true) (hf : f p = some i) (hi : i < D.2.length) :
    Calls Tryz.prog 45 #[dval x D, .map (some g), .int .i64 p] w (ReadPost B (wr_ D.2 i).2 w) := by
  obtain ⟨b, off, q, A, l, c, s, hbe, hlb, hl, _, hc, hd, hA⟩ := h.2.at_ hi
  obtain ⟨ba, bc, wa, wc⟩ := x
  obtain rfl : wa = some ⟨b, off, none⟩ := hbe
  simp only [dval]
  have m1 := h.2.len_le
  obtain ⟨n, hn⟩ : ∃ n, D.1.length = n := ⟨_, rfl⟩
  obtain ⟨m, hm⟩ : ∃ m, D.2.length = m := ⟨_, rfl⟩
  rw [hm] at m1 hi
  have i0 : (0 : Int) ≤ i := by omega
  have i1 : (i : Int) < m := by omega
  have hb := (Below.refl w.heap.size w).alloc (Nat.le_refl _) (.cells #[.slice ba D.1.length bc, .slice (some ⟨b, off, none⟩) D.2.length wc] 25)
  have hx := Blk.new w 25 #[.slice ba D.1.length bc, .slice (some ⟨b, off, none⟩) D.2.length wc]
  have hM1 := hM.below hb hM.lt
  have c1 := (hb.cell (p := ⟨b, off + i * 2, none⟩) (Nat.lt_of_lt_of_le hlb hB)).trans hc
  have c2 := (hb.cell (p := ⟨b, off + i * 2 + 1, none⟩) (Nat.lt_of_lt_of_le hlb hB)).trans hd
  have hA1 := hA.below (hb.mono hB)
  rw [hn, hm] at hb hx hM1 c1 c2 hA1 ⊢
  rw [hl]
  have hls := hA.1
  subst hls
  have HB := Lib.hid hb
  have HX := Lib.hid hx
  have HM := Lib.hid hM1
  have HA := Lib.hid hA1
  have HP := Lib.hid hp
  have HF := Lib.hid hf
  clear h hM hb hx hM1 hc hd hA hA1 hl hn hm hp hf
  go_enter Tryz.func45, Tryz.ntmps45
  go_wp2_with (at_lookup; refine wpList_mapI_some rfl (.tmp 10) (.tmp 11) rfl g N f rfl HM.out p HP.out rfl i HF.out ?_)
  go_ret
  exact ⟨A, c, rfl, HA.out, HB.out⟩
set_option maxHeartbeats 1000000 in
theorem dLeft_none (B : Nat) (x : DAt) (D : DkL) (g N : Nat) (f : Int → Option Nat) (p : Nat) (w : World) (hB : B ≤ w.heap.size) (h : Dsk w B x D) (hM : MapI w g N f) (hf : f (p : Int) = none) (hp : p < D.1.length) :
    Calls Tryz.prog 45 #[dval x D, .map (some g), .int .i64 p] w (ReadPost B (D.1.getD p []) w) := by
  have m1 := h.1.len_le
  obtain ⟨b, off, A, l, c, s, hbe, hlb, hl, hc, hA⟩ := h.1.at_ hp
  obtain ⟨ba, bc, wa, wc⟩ := x
  obtain rfl : ba = some ⟨b, off, none⟩ := hbe
  simp only [dval]
  obtain ⟨n, hn⟩ : ∃ n, D.1.length = n := ⟨_, rfl⟩
  obtain ⟨m, hm⟩ : ∃ m, D.2.length = m := ⟨_, rfl⟩
  rw [hn] at m1 hp
  have i0 : (0 : Int) ≤ p := by omega
  have i1 : (p : Int) < n := by omega
  have hwf := wf64 (p := p) (by omega) (by omega)
  have hb := (Below.refl w.heap.size w).alloc (Nat.le_refl _) (.cells #[.slice (some ⟨b, off, none⟩) D.1.length bc, .slice wa D.2.length wc] 25)
  have hx := Blk.new w 25 #[.slice (some ⟨b, off, none⟩) D.1.length bc, .slice wa D.2.length wc]
  have hM1 := hM.below hb hM.lt
  have c1 := (hb.cell (p := ⟨b, off + p, none⟩) (Nat.lt_of_lt_of_le hlb hB)).trans hc
  have hA1 := hA.below (hb.mono hB)
  rw [hn, hm] at hb hx hM1 c1 hA1 ⊢
  rw [hl]
  have hls := hA.1
  subst hls
  have HB := Lib.hid hb
  have HX := Lib.hid hx
  have HM := Lib.hid hM1
  have HA := Lib.hid hA1
  have HP := Lib.hid hwf
  have HF := Lib.hid hf
  clear h hM hb hx hM1 hc hA hA1 hl hn hm hwf hf
  go_enter Tryz.func45, Tryz.ntmps45
  go_wp2_with (at_lookup; refine wpList_mapI_none rfl (.tmp 10) (.tmp 11) rfl g N f rfl HM.out p HP.out rfl HF.out ?_; intro cx)
  go_ret
  exact ⟨A, c, rfl, HA.out, HB.out⟩
/-- What last ones leave. -/
theorem dLeft_any (B : Nat) (x : DAt) (D : DkL) (g N : Nat) (mk : Nat → Bool) (p : Nat) (w : World) (hB : B ≤ w.heap.size) (h : Dsk w B x D) (hM : MapI w g N (fun q => lastTo D.2 mk q D.2.length)) (hp : p < D.1.length) :
    Calls Tryz.prog 45 #[dval x D, .map (some g), .int .i64 p] w (ReadPost B (leftD D mk p) w) := by
  have m1 := h.1.len_le
  unfold leftD
  split
  · rename_i i hi
    exact dLeft_some B x D g N _ p i w hB h hM (wf64 (by omega) (by omega)) hi (lastTo_lt hi).1
  · rename_i hi
    exact dLeft_none B x D g N _ p w hB h hM hi hp
/-- A slice of marks that lies below block B reads as ks. -/
def Mks (w : World) (B : Nat) (a : Option Addr) (len cap : Nat) (ks : List Bool) : Prop :=
  ks.length = len ∧ len ≤ cap ∧ cap ≤ maxLen ∧ (0 < len → ∃ b off, a = some ⟨b, off, none⟩ ∧ b < B ∧ ∀ i, i < len → w.cell? ⟨b, off + i, none⟩ = some (.bool (ks.getD i false)))
theorem Mks.below {w w' : World} {B len cap : Nat} {a : Option Addr} {ks : List Bool} (h : Mks w B a len cap ks) (hb : Below B w w') : Mks w' B a len cap ks := by
  obtain ⟨h1, h2, h3, h4⟩ := h
  refine ⟨h1, h2, h3, fun hl => ?_⟩
  obtain ⟨b, off, e, hlt, hc⟩ := h4 hl
  exact ⟨b, off, e, hlt, fun i hi => (hb.cell (p := ⟨b, off + i, none⟩) hlt).trans (hc i hi)⟩
theorem Mks.more {w : World} {B B' len cap : Nat} {a : Option Addr} {ks : List Bool} (h : Mks w B a len cap ks) (hB : B ≤ B') : Mks w B' a len cap ks := by
  obtain ⟨h1, h2, h3, h4⟩ := h
  refine ⟨h1, h2, h3, fun hl => ?_⟩
  obtain ⟨b, off, e, hlt, hc⟩ := h4 hl
  exact ⟨b, off, e, by omega, hc⟩
theorem Mks.step {w w' : World} {len cap : Nat} {a : Option Addr} {ks : List Bool} (h : Mks w w.heap.size a len cap ks) (hb : Below w.heap.size w w') : Mks w' w'.heap.size a len cap ks := (h.below hb).more hb.size
theorem Mks.len_le {w : World} {B len cap : Nat} {a : Option Addr} {ks : List Bool} (h : Mks w B a len cap ks) : (len : Int) ≤ 9223372036854775807 := by have h1 := h.2.1; have h2 := h.2.2.1; unfold maxLen at h2; omega
theorem dGoes_any (B : Nat) (x : DAt) (D : DkL) (gd ga : Nat) (p : Int) (i : Nat) (w : World) (h : Dsk w B x D) (hd : Blk w gd 25 #[.slice x.ba D.1.length x.bc, .slice x.wa D.2.length x.wc]) (hp : w.cell? ⟨ga, 0, none⟩ = some (.int .i64 p)) (hi : i < D.2.length) :
    Calls Tryz.prog 43 #[.int .i64 (i : Nat), .pointer (some ⟨gd, 0, none⟩), .pointer (some ⟨ga, 0, none⟩)] w fun e w' => e = .returned (.bool (decide ((wr_ D.2 i).1 = p))) ∧ Below w.heap.size w w' := by
  obtain ⟨b, off, q, A, l, c, s, hbe, hlb, hl, _, hc, _, hA⟩ := h.2.at_ hi
  obtain ⟨ba, bc, wa, wc⟩ := x
  obtain rfl : wa = some ⟨b, off, none⟩ := hbe
  have m1 := h.2.len_le
  obtain ⟨m, hm⟩ : ∃ m, D.2.length = m := ⟨_, rfl⟩
  rw [hm] at m1 hi
  rw [hl]
  have i0 : (0 : Int) ≤ i := by omega
  have i1 : (i : Int) < m := by omega
  have d1 : w.cell? ⟨gd, 1, none⟩ = some (.slice (some ⟨b, off, none⟩) m wc) := by rw [← hm]; exact hd.cell 1
  have e : (q == p) = decide (q = p) := rfl
  have HB := Lib.hid (fun k => below_drewN (Below.refl w.heap.size w) k)
  have HE := Lib.hid e
  clear h hd hA hm hl e
  go_enter Tryz.func43, Tryz.ntmps43
  go_wp2_with fail
  go_quiet (fail)
  go_wp2_with fail
  go_ret
  exact ⟨by first | rfl | (rw [← HE.out]; rfl), HB.out _⟩
end Go.Proofs.YtldnelimemjaiaaGreatDoor
/-
  What a disk that came in by value is; what a slice of marks that came in is.
-/
namespace Go.Proofs.YtldnelimemjaiaaGreatDoor
open Go.RowKit Go.Shelf Go.Joins Go.ChangeShapes Go.WideShapes Go.ChangeAt
set_option maxRecDepth 100000

theorem cellsDisk : Tryz.prog.cellsOf 25 = 2 := by kernel_rfl
theorem weights_of {H : Type} {P : Program} {e : TypeId} {d : DataW H} {n : Nat} (hn : n ∈ d.weights P e) : ∀ {l : List (DataW H)}, d ∈ l → n ∈ DataW.weightsAll P e l
  | [], h => by cases h
  | x :: l, h => by
    unfold DataW.weightsAll
    rcases List.mem_cons.1 h with rfl | h
    · exact List.mem_append_left _ hn
    · exact List.mem_append_right _ (weights_of hn h)
/-- A slice of bytes that came in, and how long it may be. -/
theorem open_piece {H : Type} {enc : TypeId × Value → H} {W : World} {fuel : Nat} {v : Value} {y : DataW H × List MemPlace} (hf : DataW.trod enc Tryz.prog W 0 (fun _ => true) true fuel 45 [v] = some y) :
    ∃ a len cap s, v = .slice a len cap ∧ Bsl W W.heap.size a len cap s ∧ ((∀ n ∈ y.1.weights Tryz.prog 45, n ≤ reachBytes) → s.length ≤ reachBytes) := by
  have hb : Tryz.prog.bytesOf 5 = 1 := by kernel_rfl
  rcases open_ints Tryz.underlying45 Tryz.underlying5 (by kernel_rfl) hf with ⟨hcs, rfl⟩ | ⟨x, l, c, zs, hcs, _, hl, hm, hz, rfl, hcell, hwz⟩
  · obtain rfl : v = .slice none 0 0 := by simpa using hcs
    exact ⟨none, 0, 0, _, rfl, bsl_of_row (.inl ⟨rfl, rfl, rfl, rfl⟩), fun _ => Nat.zero_le _⟩
  · obtain rfl : v = .slice (some x) l c := by simpa using hcs
    have hz' : zs.length = c := by simpa using hz
    refine ⟨_, l, c, _, rfl, bsl_of_row (.inr ⟨x, rfl, hl, hm, hz', hcell, hwz⟩), fun hw => ?_⟩
    have := hw ((lits (H := H) .u8 (zs.take l)).length + (lits (H := H) .u8 (zs.drop l)).length) (by
      simp only [DataW.weights, Tryz.underlying45, hb, Nat.mul_one]
      exact List.mem_cons_self ..)
    simp only [lits, List.length_map, List.length_take, List.length_drop] at this ⊢
    omega
/-- A slice of slices of bytes that came in. -/
theorem open_blocks {H : Type} {enc : TypeId × Value → H} {W : World} {fuel : Nat} {v : Value} {y : DataW H × List MemPlace} (hf : DataW.trod enc Tryz.prog W 0 (fun _ => true) true fuel 22 [v] = some y) :
    ∃ a len cap bl, v = .slice a len cap ∧ Bls W W.heap.size a len cap bl ∧ ((∀ n ∈ y.1.weights Tryz.prog 22, n ≤ reachBytes) → ∀ i, i < bl.length → (bl.getD i []).length ≤ reachBytes) := by
  rcases Go.Deep.open_slice1 Tryz.underlying22 (by kernel_rfl) hf with ⟨hcs, rfl⟩ | ⟨x, len, cap, m, n, V, D, Pl, hcs, _, hl, hm, hmm, rfl, hr⟩
  · obtain rfl : v = .slice none 0 0 := by simpa using hcs
    exact ⟨none, 0, 0, [], rfl, bls_nil _ _, fun _ i hi => absurd hi (Nat.not_lt_zero _)⟩
  · obtain rfl : v = .slice (some x) len cap := by simpa using hcs
    obtain ⟨A, L, C, s, hs⟩ : ∃ (A : Nat → Option Addr) (L C : Nat → Nat) (s : Nat → List UInt8), ∀ i, i < len → V i = .slice (A i) (L i) (C i) ∧ Bsl W W.heap.size (A i) (L i) (C i) (s i) ∧ ((∀ n ∈ (D i).weights Tryz.prog 45, n ≤ reachBytes) → (s i).length ≤ reachBytes) := by
      have : ∀ i, ∃ q : Option Addr × Nat × Nat × List UInt8, i < len → V i = .slice q.1 q.2.1 q.2.2.1 ∧ Bsl W W.heap.size q.1 q.2.1 q.2.2.1 q.2.2.2 ∧ ((∀ n ∈ (D i).weights Tryz.prog 45, n ≤ reachBytes) → q.2.2.2.length ≤ reachBytes) := fun i => by
        by_cases hi : i < len
        · obtain ⟨a, l, c, s, h1, h2, h3⟩ := open_piece (hr i (by simp only [if_true] at hmm; omega)).2
          exact ⟨(a, l, c, s), fun _ => ⟨h1, h2, h3⟩⟩
        · exact ⟨(none, 0, 0, []), fun h => absurd h hi⟩
      exact ⟨fun i => (this i).choose.1, fun i => (this i).choose.2.1, fun i => (this i).choose.2.2.1, fun i => (this i).choose.2.2.2, fun i hi => (this i).choose_spec hi⟩
    have hg : ∀ i, i < len → ((List.range len).map s).getD i [] = s i := fun i hi => by simp [List.getD_eq_getElem?_getD, hi]
    refine ⟨_, len, cap, (List.range len).map s, rfl, ⟨by simp, hl, hm, fun h0 => ?_⟩, fun hw i hi => ?_⟩
    · obtain ⟨b, off, spot⟩ := x
      have h00 := (hr 0 (by simp only [if_true] at hmm; omega)).1
      have hspot : spot = none := by simpa [Addr.add] using World.cell?_spot h00
      subst hspot
      have hadd : ∀ i, (⟨b, off, none⟩ : Addr).add i = ⟨b, off + i, none⟩ := fun i => by unfold Addr.add; split <;> simp_all
      refine ⟨b, off, rfl, ?_, fun i hi => ?_⟩
      · rw [hadd] at h00
        exact World.block_lt_of_cell? W _ h00
      · have h1 := (hr i (by simp only [if_true] at hmm; omega)).1
        obtain ⟨e1, e2, _⟩ := hs i hi
        rw [hadd, e1] at h1
        rw [hg i hi, e2.1]
        exact ⟨A i, C i, h1, e2⟩
    · have hi' : i < len := by simpa using hi
      rw [hg i hi']
      refine (hs i hi').2.2 fun n hn => hw n ?_
      simp only [DataW.weights, Tryz.underlying22]
      exact List.mem_cons_of_mem _ (List.mem_append_left _ (weights_of hn (List.mem_map.2 ⟨i, List.mem_range.2 hi', rfl⟩)))
/-- A slice of writes that came in. -/
theorem open_writes {H : Type} {enc : TypeId × Value → H} {W : World} {fuel : Nat} {v : Value} {y : DataW H × List MemPlace} (hf : DataW.trod enc Tryz.prog W 0 (fun _ => true) true fuel 23 [v] = some y) :
    ∃ a len cap ws, v = .slice a len cap ∧ Wts W W.heap.size a len cap ws ∧ ((∀ n ∈ y.1.weights Tryz.prog 23, n ≤ reachBytes) → ∀ i, i < ws.length → (wr_ ws i).2.length ≤ reachBytes) := by
  rcases Go.Deep.open_slice_pairs Tryz.underlying23 Tryz.underlying47 (by kernel_rfl) rfl rfl (by kernel_rfl) (by kernel_rfl) hf with ⟨hcs, rfl⟩ | ⟨x, len, cap, m, n, V0, V1, D0, D1, P0, P1, hcs, _, hl, hm, hmm, rfl, hr⟩
  · obtain rfl : v = .slice none 0 0 := by simpa using hcs
    exact ⟨none, 0, 0, [], rfl, wts_nil _ _, fun _ i hi => absurd hi (Nat.not_lt_zero _)⟩
  · obtain rfl : v = .slice (some x) len cap := by simpa using hcs
    obtain ⟨A, L, C, s, p, hs⟩ : ∃ (A : Nat → Option Addr) (L C : Nat → Nat) (s : Nat → List UInt8) (p : Nat → Int), ∀ i, i < len → V1 i = .slice (A i) (L i) (C i) ∧ Bsl W W.heap.size (A i) (L i) (C i) (s i) ∧ ((∀ n ∈ (D1 i).weights Tryz.prog 45, n ≤ reachBytes) → (s i).length ≤ reachBytes) ∧ V0 i = .int .i64 (p i) ∧ (Lit.int .i64 (p i)).wf = true := by
      have : ∀ i, ∃ q : Option Addr × Nat × Nat × List UInt8 × Int, i < len → V1 i = .slice q.1 q.2.1 q.2.2.1 ∧ Bsl W W.heap.size q.1 q.2.1 q.2.2.1 q.2.2.2.1 ∧ ((∀ n ∈ (D1 i).weights Tryz.prog 45, n ≤ reachBytes) → q.2.2.2.1.length ≤ reachBytes) ∧ V0 i = .int .i64 q.2.2.2.2 ∧ (Lit.int .i64 q.2.2.2.2).wf = true := fun i => by
        by_cases hi : i < len
        · obtain ⟨_, _, h3, h4⟩ := hr i (by simp only [if_true] at hmm; omega)
          obtain ⟨a, l, c, s, h5, h6, h7⟩ := open_piece h4
          obtain ⟨p, e1, _, wn⟩ := DataW.trod_int Tryz.underlying3 h3
          exact ⟨(a, l, c, s, p), fun _ => ⟨h5, h6, h7, by simpa using e1, wn⟩⟩
        · exact ⟨(none, 0, 0, [], 0), fun h => absurd h hi⟩
      exact ⟨fun i => (this i).choose.1, fun i => (this i).choose.2.1, fun i => (this i).choose.2.2.1, fun i => (this i).choose.2.2.2.1, fun i => (this i).choose.2.2.2.2, fun i hi => (this i).choose_spec hi⟩
    have hg : ∀ i, i < len → wr_ ((List.range len).map fun i => (p i, s i)) i = (p i, s i) := fun i hi => by simp [wr_, List.getD_eq_getElem?_getD, hi]
    refine ⟨_, len, cap, (List.range len).map fun i => (p i, s i), rfl, ⟨by simp, hl, hm, fun h0 => ?_⟩, fun hw i hi => ?_⟩
    · obtain ⟨b, off, spot⟩ := x
      have h00 := (hr 0 (by simp only [if_true] at hmm; omega)).1
      have hspot : spot = none := by simpa [Addr.add] using World.cell?_spot h00
      subst hspot
      have hadd : ∀ i, (⟨b, off, none⟩ : Addr).add i = ⟨b, off + i, none⟩ := fun i => by unfold Addr.add; split <;> simp_all
      refine ⟨b, off, rfl, ?_, fun i hi => ?_⟩
      · rw [hadd] at h00
        exact World.block_lt_of_cell? W _ h00
      · obtain ⟨h1, h2, _⟩ := hr i (by simp only [if_true] at hmm; omega)
        obtain ⟨e1, e2, _, e3, e4⟩ := hs i hi
        rw [hadd, e3] at h1
        rw [hadd, e1, ← Nat.add_assoc] at h2
        rw [hg i hi]
        refine ⟨e4, h1, A i, C i, ?_, ?_⟩
        · show _ = some (Value.slice (A i) (s i).length (C i))
          rw [e2.1]
          exact h2
        · show Bsl _ _ _ (s i).length _ _
          rw [e2.1]
          exact e2
    · have hi' : i < len := by simpa using hi
      rw [hg i hi']
      refine (hs i hi').2.2.1 fun n hn => hw n ?_
      simp only [DataW.weights, Tryz.underlying23]
      refine List.mem_cons_of_mem _ (List.mem_append_left _ (weights_of (d := .agg [D0 i, D1 i]) ?_ (List.mem_map.2 ⟨i, List.mem_range.2 hi', rfl⟩)))
      simp only [DataW.weights, Tryz.underlying47]
      simp only [DataW.weightsEach, List.map_cons, List.map_nil]
      exact List.mem_append_right _ (List.mem_append_left _ hn)
/-- A disk that came in by value. -/
theorem open_disk {H : Type} {enc : TypeId × Value → H} {W : World} {r : Go.Reach} {b0 : Nat} {v : Value} {d : DataW H} {p : List MemPlace} (hv : Value.okWide Tryz.prog W r b0 25 v) (h : DataW.Trod enc Tryz.prog W 0 (fun _ => true) true 25 v d p)
    (hw : ∀ n ∈ d.weights Tryz.prog 25, n ≤ reachBytes) : ∃ x D, v = dval x D ∧ Dsk W W.heap.size x D ∧ Near D := by
  obtain ⟨v0, v1, y0, y1, m, rfl, rfl, rfl, h0, h1⟩ := open_agg2 Tryz.underlying25 (by kernel_rfl) cellsDisk hv h
  obtain ⟨ba, bn, bc, bl, rfl, hb, hb2⟩ := open_blocks h0
  obtain ⟨wa, wn, wc, ws, rfl, hs, hs2⟩ := open_writes h1
  have hwt : ∀ n, n ∈ y0.1.weights Tryz.prog 22 ∨ n ∈ y1.1.weights Tryz.prog 23 → n ≤ reachBytes := fun n hn => hw n (by
    simp only [DataW.weights, Tryz.underlying25]
    simp only [DataW.weightsEach, List.map_cons, List.map_nil]
    rcases hn with hn | hn
    · exact List.mem_append_left _ hn
    · exact List.mem_append_right _ (List.mem_append_left _ hn))
  obtain rfl := hb.1
  obtain rfl := hs.1
  exact ⟨⟨ba, bc, wa, wc⟩, (bl, ws), rfl, ⟨hb, hs⟩, hb2 fun n hn => hwt n (.inl hn), hs2 fun n hn => hwt n (.inr hn)⟩
/-- A slice of marks that came in. -/
theorem open_marks {H : Type} {enc : TypeId × Value → H} {W : World} {a : Option Addr} {len cap : Nat} {d : DataW H} {p : List MemPlace} (h : DataW.Trod enc Tryz.prog W 0 (fun _ => true) true 132 (.slice a len cap) d p) : ∃ ks, Mks W W.heap.size a len cap ks := by
  obtain ⟨fuel, hf⟩ := h
  rcases Go.Deep.open_slice1 Tryz.underlying132 (by kernel_rfl) hf with ⟨hcs, _⟩ | ⟨x, l, c, m, n, V, D, Pl, hcs, _, hl, hm, hmm, _, hr⟩
  · simp [Value.cells] at hcs
    obtain ⟨rfl, rfl, rfl⟩ := hcs
    exact ⟨[], rfl, Nat.le_refl _, Nat.zero_le _, fun h => absurd h (Nat.lt_irrefl _)⟩
  · simp [Value.cells] at hcs
    obtain ⟨rfl, rfl, rfl⟩ := hcs
    obtain ⟨B, hB⟩ : ∃ B : Nat → Bool, ∀ i, i < len → V i = .bool (B i) := by
      have : ∀ i, ∃ b : Bool, i < len → V i = .bool b := fun i => by
        by_cases hi : i < len
        · obtain ⟨b, h1, _⟩ := DataW.trod_bool Tryz.underlying4 (hr i (by simp only [if_true] at hmm; omega)).2
          exact ⟨b, fun _ => by simpa using h1⟩
        · exact ⟨false, fun h => absurd h hi⟩
      exact ⟨fun i => (this i).choose, fun i hi => (this i).choose_spec hi⟩
    refine ⟨(List.range len).map B, by simp, hl, hm, fun h0 => ?_⟩
    obtain ⟨b, off, spot⟩ := x
    have h00 := (hr 0 (by simp only [if_true] at hmm; omega)).1
    have hspot : spot = none := by simpa [Addr.add] using World.cell?_spot h00
    subst hspot
    have hadd : ∀ i, (⟨b, off, none⟩ : Addr).add i = ⟨b, off + i, none⟩ := fun i => by unfold Addr.add; split <;> simp_all
    refine ⟨b, off, rfl, ?_, fun i hi => ?_⟩
    · rw [hadd] at h00
      exact World.block_lt_of_cell? W _ h00
    · have h1 := (hr i (by simp only [if_true] at hmm; omega)).1
      rw [hadd, hB i hi] at h1
      rw [h1]
      simp [List.getD_eq_getElem?_getD, hi]
/-- A byte that came in. -/
theorem u8_of {b : Int} (h : (Lit.int .u8 b).wf = true) : ∃ v : UInt8, b = (v.toNat : Int) := by
  simp [Lit.wf, IntKind.min, IntKind.max, IntKind.signed, IntKind.bits] at h
  refine ⟨UInt8.ofNat b.toNat, ?_⟩
  rw [UInt8.toNat_ofNat']
  omega
end Go.Proofs.YtldnelimemjaiaaGreatDoor
/-
  Plain mathematics of layer 2: four words, turned there and back; the four words of bytes; texts of one length with one other piece have unlike four words. Nothing of the program.
-/
namespace Go.Proofs.YtldnelimemjaiaaGreatDoor
set_option maxRecDepth 100000

def pl (x y : BitVec 32) : BitVec 32 := x + y
def mi (x y : BitVec 32) : BitVec 32 := x - y
def xo (x y : BitVec 32) : BitVec 32 := x ^^^ y
def ro (k : Nat) (x : BitVec 32) : BitVec 32 := x.rotateLeft k

theorem mi_pl (x y : BitVec 32) : mi (pl x y) y = x := by unfold mi pl; exact BitVec.add_sub_cancel x y
theorem pl_mi (x y : BitVec 32) : pl (mi x y) y = x := by unfold mi pl; exact BitVec.sub_add_cancel x y
theorem xo_xo (x y : BitVec 32) : xo (xo x y) y = x := by unfold xo; rw [BitVec.xor_assoc, BitVec.xor_self, BitVec.xor_zero]
theorem ro_ro (i j : Nat) (h : i + j = 32) (hi : 0 < i) (hj : 0 < j) (x : BitVec 32) : ro i (ro j x) = x := by
  unfold ro
  apply BitVec.eq_of_getElem_eq
  intro k hk
  have ei : i % 32 = i := Nat.mod_eq_of_lt (by omega)
  have ej : j % 32 = j := Nat.mod_eq_of_lt (by omega)
  rw [BitVec.getElem_rotateLeft]
  simp only [ei]
  split
  · rw [BitVec.getElem_rotateLeft]
    simp only [ej]
    rw [dif_neg (by omega)]
    congr 1
    omega
  · rw [BitVec.getElem_rotateLeft]
    simp only [ej]
    rw [dif_pos (by omega)]
    congr 1
    omega
/-- One bit to the left, by numbers. -/
theorem ro_succ (k : Nat) (hk : k < 31) (x : BitVec 32) : (ro (k + 1) x).toNat = (ro k x).toNat * 2 % 4294967296 + (ro k x).toNat * 2 / 4294967296 := by
  have h1 : ro (k + 1) x = ro 1 (ro k x) := by
    unfold ro
    apply BitVec.eq_of_getElem_eq
    intro i hi
    have e1 : (k + 1) % 32 = k + 1 := Nat.mod_eq_of_lt (by omega)
    have e2 : k % 32 = k := Nat.mod_eq_of_lt (by omega)
    have e3 : 1 % 32 = 1 := rfl
    simp only [BitVec.getElem_rotateLeft, e1, e2, e3]
    by_cases a : i < 1
    · rw [dif_pos (by omega), dif_pos a]
      rcases Nat.eq_zero_or_pos k with h0 | h0
      · subst h0
        rw [dif_neg (by omega)]
        congr 1 <;> omega
      · rw [dif_neg (by omega)]
        congr 1
        omega
    · rw [dif_neg a]
      by_cases b : i < k + 1
      · rw [dif_pos b, dif_pos (by omega)]
        congr 1
        omega
      · rw [dif_neg b, dif_neg (by omega)]
        congr 1
        omega
  rw [h1]
  generalize ro k x = y
  unfold ro
  have hy := y.isLt
  rw [BitVec.rotateLeft_def, BitVec.toNat_or, BitVec.toNat_shiftLeft, BitVec.toNat_ushiftRight]
  have e1 : 1 % 32 = 1 := rfl
  rw [e1, Nat.shiftLeft_eq, Nat.shiftRight_eq_div_pow]
  have e2 : y.toNat * 2 ^ 1 % 2 ^ 32 = (y.toNat % 2 ^ 31) * 2 := by omega
  have e3 : y.toNat / 2 ^ (32 - 1) ≤ 1 := by omega
  have e4 : (y.toNat % 2 ^ 31) * 2 ||| y.toNat / 2 ^ (32 - 1) = (y.toNat % 2 ^ 31) * 2 + y.toNat / 2 ^ (32 - 1) := by
    have := Nat.two_pow_add_eq_or_of_lt (i := 1) (b := y.toNat / 2 ^ (32 - 1)) (by omega) (y.toNat % 2 ^ 31)
    rw [show 2 ^ 1 * (y.toNat % 2 ^ 31) = (y.toNat % 2 ^ 31) * 2 by omega] at this
    exact this.symm
  rw [e2, e4]
  omega
theorem ro_0 (x : BitVec 32) : ro 0 x = x := by
  unfold ro
  apply BitVec.eq_of_getElem_eq
  intro i hi
  simp only [BitVec.getElem_rotateLeft, Nat.zero_mod]
  rw [dif_neg (by omega)]
  rfl

/-- Four words. -/
structure W4 where
  a : BitVec 32
  b : BitVec 32
  c : BitVec 32
  d : BitVec 32

def halfT (k m : Nat) (x : W4) : W4 :=
  ⟨pl x.a x.b, ro m (xo x.b (pl x.c (ro k (xo x.d (pl x.a x.b))))), pl x.c (ro k (xo x.d (pl x.a x.b))), ro k (xo x.d (pl x.a x.b))⟩
def halfB (k m : Nat) (x : W4) : W4 :=
  ⟨mi x.a (xo (ro m x.b) x.c), xo (ro m x.b) x.c, mi x.c x.d, xo (ro k x.d) x.a⟩
def turnW (x : W4) : W4 := halfT 9 6 (halfT 15 11 x)
def backW (x : W4) : W4 := halfB 17 21 (halfB 23 26 x)

theorem halfB_halfT (k k' m m' : Nat) (h1 : k' + k = 32) (h2 : m' + m = 32) (a : 0 < k) (b : 0 < k') (c : 0 < m) (d : 0 < m') (x : W4) : halfB k' m' (halfT k m x) = x := by
  cases x
  simp only [halfB, halfT, ro_ro _ _ h1 b a, ro_ro _ _ h2 d c, xo_xo, mi_pl]
theorem halfT_halfB (k k' m m' : Nat) (h1 : k + k' = 32) (h2 : m + m' = 32) (a : 0 < k) (b : 0 < k') (c : 0 < m) (d : 0 < m') (x : W4) : halfT k m (halfB k' m' x) = x := by
  cases x
  simp only [halfB, halfT, ro_ro _ _ h1 a b, ro_ro _ _ h2 c d, xo_xo, pl_mi]
theorem backW_turnW (x : W4) : backW (turnW x) = x := by
  unfold backW turnW
  rw [halfB_halfT 9 23 6 26 (by omega) (by omega) (by omega) (by omega) (by omega) (by omega), halfB_halfT 15 17 11 21 (by omega) (by omega) (by omega) (by omega) (by omega) (by omega)]
theorem turnW_backW (x : W4) : turnW (backW x) = x := by
  unfold backW turnW
  rw [halfT_halfB 15 17 11 21 (by omega) (by omega) (by omega) (by omega) (by omega) (by omega), halfT_halfB 9 23 6 26 (by omega) (by omega) (by omega) (by omega) (by omega) (by omega)]
theorem turnW_inj {x y : W4} (h : turnW x = turnW y) : x = y := by rw [← backW_turnW x, h, backW_turnW y]

def turnsW : Nat → W4 → W4
  | 0, x => x
  | n + 1, x => turnW (turnsW n x)
def backsW : Nat → W4 → W4
  | 0, x => x
  | n + 1, x => backW (backsW n x)
theorem turnsW_inj : ∀ (n : Nat) {x y : W4}, turnsW n x = turnsW n y → x = y
  | 0, _, _, h => h
  | n + 1, _, _, h => turnsW_inj n (turnW_inj h)
theorem turnsW_succ' : ∀ (n : Nat) (x : W4), turnsW (n + 1) x = turnsW n (turnW x)
  | 0, _ => rfl
  | n + 1, x => by rw [turnsW, turnsW_succ' n x]; rfl
theorem backsW_turnsW : ∀ (n : Nat) (x : W4), backsW n (turnsW n x) = x
  | 0, _ => rfl
  | n + 1, x => by
    have e : ∀ (k : Nat) (y : W4), backsW (k + 1) y = backsW k (backW y) := by
      intro k
      induction k with
      | zero => intro y; rfl
      | succ k ih => intro y; rw [backsW, ih y]; rfl
    rw [e, turnsW, backW_turnW, backsW_turnsW n x]

/-- One piece, of the numbers m and n, is taken in. -/
def stepW (x : W4) (m n : BitVec 32) : W4 := turnsW 4 ⟨xo x.a m, x.b, xo x.c n, x.d⟩
theorem stepW_inj_x {x y : W4} {m n : BitVec 32} (h : stepW x m n = stepW y m n) : x = y := by
  have := turnsW_inj 4 h
  obtain ⟨a, b, c, d⟩ := x
  obtain ⟨a', b', c', d'⟩ := y
  simp only [W4.mk.injEq] at this ⊢
  obtain ⟨h1, h2, h3, h4⟩ := this
  exact ⟨by rw [← xo_xo a m, h1, xo_xo], h2, by rw [← xo_xo c n, h3, xo_xo], h4⟩
theorem xo_comm (x y : BitVec 32) : xo x y = xo y x := by unfold xo; exact BitVec.xor_comm x y
theorem stepW_inj_p {x : W4} {m n m' n' : BitVec 32} (h : stepW x m n = stepW x m' n') : m = m' ∧ n = n' := by
  have := turnsW_inj 4 h
  obtain ⟨a, b, c, d⟩ := x
  simp only [W4.mk.injEq] at this
  obtain ⟨h1, _, h3, _⟩ := this
  rw [xo_comm a, xo_comm a] at h1
  rw [xo_comm c, xo_comm c] at h3
  exact ⟨by rw [← xo_xo m a, h1, xo_xo], by rw [← xo_xo n c, h3, xo_xo]⟩

/-- The byte at place i of a text, one byte 1 and noughts behind it. -/
def byteP (s : List UInt8) (i : Nat) : UInt8 := if h : i < s.length then s[i] else if i = s.length then 1 else 0
/-- Four of them. -/
def quadP (s : List UInt8) (i : Nat) : List UInt8 := [byteP s i, byteP s (i + 1), byteP s (i + 2), byteP s (i + 3)]
def wordP (s : List UInt8) (i : Nat) : BitVec 32 := BitVec.ofNat 32 (leN (quadP s i))
/-- The words behind so many pieces. -/
def behind (s : List UInt8) : Nat → W4
  | 0 => ⟨1, 2, 3, 4⟩
  | k + 1 => stepW (behind s k) (wordP s (8 * k)) (wordP s (8 * k + 4))
/-- The four words of a text. -/
def fourW (s : List UInt8) : W4 :=
  let x := behind s (s.length / 8 + 1)
  turnsW 8 ⟨x.a, xo x.b (BitVec.ofNat 32 s.length), x.c, x.d⟩

theorem leN4 (a b c d : UInt8) : leN [a, b, c, d] = a.toNat + 256 * b.toNat + 65536 * c.toNat + 16777216 * d.toNat := by simp only [leN]; omega
theorem leN4_lt (a b c d : UInt8) : leN [a, b, c, d] < 4294967296 := by
  rw [leN4]
  have := a.toNat_lt; have := b.toNat_lt; have := c.toNat_lt; have := d.toNat_lt
  omega
theorem wordP_toNat (s : List UInt8) (i : Nat) : (wordP s i).toNat = leN (quadP s i) := by
  unfold wordP
  rw [BitVec.toNat_ofNat]
  exact Nat.mod_eq_of_lt (leN4_lt _ _ _ _)
theorem quadP_of_wordP {s t : List UInt8} {i : Nat} (h : wordP s i = wordP t i) : quadP s i = quadP t i := by
  have e : leN (quadP s i) = leN (quadP t i) := by rw [← wordP_toNat, ← wordP_toNat, h]
  have := leB_leN (quadP s i)
  have h2 := leB_leN (quadP t i)
  rw [e] at this
  exact this.symm.trans h2
theorem wordP_congr {s t : List UInt8} {i : Nat} (h : ∀ j, i ≤ j → j < i + 4 → byteP s j = byteP t j) : wordP s i = wordP t i := by
  unfold wordP quadP
  rw [h i (by omega) (by omega), h (i + 1) (by omega) (by omega), h (i + 2) (by omega) (by omega), h (i + 3) (by omega) (by omega)]

theorem behind_congr {s t : List UInt8} : ∀ k, (∀ j, j < 8 * k → byteP s j = byteP t j) → behind s k = behind t k
  | 0, _ => rfl
  | k + 1, h => by
    rw [behind, behind, behind_congr k (fun j hj => h j (by omega)), wordP_congr (fun j h1 h2 => h j (by omega)), wordP_congr (i := 8 * k + 4) (fun j h1 h2 => h j (by omega))]
/-- Behind one piece that is another one, and the same ones behind it, the words are unlike. -/
theorem behind_inj {s t : List UInt8} (p : Nat) (h1 : ∀ j, (j < 8 * p ∨ 8 * p + 8 ≤ j) → byteP s j = byteP t j) : ∀ k, p < k → behind s k = behind t k → ∀ j, byteP s j = byteP t j
  | 0, h, _ => by omega
  | k + 1, h, e => by
    rcases Nat.lt_or_ge p k with hl | hl
    · rw [behind, behind, wordP_congr (s := s) (t := t) (i := 8 * k) (fun j a b => h1 j (by omega)), wordP_congr (s := s) (t := t) (i := 8 * k + 4) (fun j a b => h1 j (by omega))] at e
      exact behind_inj p h1 k hl (stepW_inj_x e)
    · obtain rfl : p = k := by omega
      rw [behind, behind, behind_congr p (fun j hj => h1 j (.inl hj))] at e
      obtain ⟨e1, e2⟩ := stepW_inj_p e
      have q1 := quadP_of_wordP e1
      have q2 := quadP_of_wordP e2
      simp only [quadP, List.cons.injEq] at q1 q2
      obtain ⟨a0, a1, a2, a3, _⟩ := q1
      obtain ⟨b0, b1, b2, b3, _⟩ := q2
      intro j
      by_cases hj : j < 8 * p ∨ 8 * p + 8 ≤ j
      · exact h1 j hj
      · have : j = 8 * p ∨ j = 8 * p + 1 ∨ j = 8 * p + 2 ∨ j = 8 * p + 3 ∨ j = 8 * p + 4 ∨ j = 8 * p + 4 + 1 ∨ j = 8 * p + 4 + 2 ∨ j = 8 * p + 4 + 3 := by omega
        rcases this with rfl | rfl | rfl | rfl | rfl | rfl | rfl | rfl <;> assumption
/-- Texts of one length, all of whose pieces but one are the same: their four words are the same just where they are. -/
theorem fourW_inj {s t : List UInt8} (hl : s.length = t.length) (p : Nat) (hp : 8 * p < s.length) (h : ∀ j (h1 : j < s.length) (h2 : j < t.length), (j < 8 * p ∨ 8 * p + 8 ≤ j) → s[j] = t[j]) : fourW s = fourW t ↔ s = t := by
  constructor
  · intro e
    have h1 : ∀ j, (j < 8 * p ∨ 8 * p + 8 ≤ j) → byteP s j = byteP t j := by
      intro j hj
      unfold byteP
      by_cases a : j < s.length
      · rw [dif_pos a, dif_pos (by omega)]
        exact h j a (by omega) hj
      · rw [dif_neg a, dif_neg (by omega), hl]
    unfold fourW at e
    have e1 := turnsW_inj 8 e
    rw [hl] at e1
    have e2 : behind s (t.length / 8 + 1) = behind t (t.length / 8 + 1) := by
      generalize behind s (t.length / 8 + 1) = x at e1
      generalize behind t (t.length / 8 + 1) = y at e1
      obtain ⟨a, b, c, d⟩ := x
      obtain ⟨a', b', c', d'⟩ := y
      simp only [W4.mk.injEq] at e1 ⊢
      obtain ⟨g1, g2, g3, g4⟩ := e1
      exact ⟨g1, by rw [← xo_xo b (BitVec.ofNat 32 t.length), g2, xo_xo], g3, g4⟩
    have e3 := behind_inj p h1 _ (by omega) e2
    apply List.ext_getElem hl
    intro j a b
    have := e3 j
    unfold byteP at this
    rwa [dif_pos a, dif_pos b] at this
  · intro e; rw [e]
end Go.Proofs.YtldnelimemjaiaaGreatDoor
/-
  dev.bytesOf counts the bytes of a disk.
-/
namespace Go.Proofs.YtldnelimemjaiaaGreatDoor
open Go.RowKit Go.Shelf
set_option maxRecDepth 100000

set_option maxHeartbeats 1000000 in
theorem dBytesOf_any (x : DAt) (D : DkL) (w : World) (h : Dsk w w.heap.size x D) (hf : Fits D) :
    Calls Tryz.prog 59 #[.slice x.ba D.1.length x.bc, .slice x.wa D.2.length x.wc] w fun e w' => e = .returned (.int .i64 (sumD D : Nat)) ∧ Below w.heap.size w w' := by
  obtain ⟨ba, bc, wa, wc⟩ := x
  obtain ⟨bl, ws⟩ := D
  obtain ⟨hB, hW⟩ := h
  obtain ⟨f1, f2, f3⟩ := hf
  simp only [sumD] at hB hW f1 f2 f3 ⊢
  obtain ⟨n, hn⟩ : ∃ n, bl.length = n := ⟨_, rfl⟩
  obtain ⟨m, hm⟩ : ∃ m, ws.length = m := ⟨_, rfl⟩
  rw [hn] at hB f1 f3 ⊢
  rw [hm] at hW f2 f3 ⊢
  have n0 : (0 : Int) ≤ n := by omega
  have n1 : (n : Int) ≤ 1000000 := by omega
  have m0 : (0 : Int) ≤ m := by omega
  have m1 : (m : Int) ≤ 1000000 := by omega
  have HB := Lib.hid hB
  have HW := Lib.hid hW
  clear hB hW hn hm f1 f2
  go_enter Tryz.func59, Tryz.ntmps59
  go_wp2_with fail
  go_loop [5, 12] (fun t i => ∃ k : Nat, k ≤ n ∧ i = .int .i64 k ∧ t = .int .i64 (sumB bl k : Nat)) (fun _ i => n - (intOf i).toNat)
  case atStart => exact ⟨0, Nat.zero_le _, rfl, rfl⟩
  case round =>
    obtain ⟨k, hk, rfl, rfl⟩ := hrel
    have k0 : (0 : Int) ≤ k := by omega
    by_cases hlt : k < n
    · have k1 : (k : Int) < n := by omega
      obtain ⟨b, off, A, l, c, s, rfl, _, hl, hc, hA⟩ := HB.out.at_ hlt
      have hs : sumB bl (k + 1) = sumB bl k + l := by rw [sumB, hl, hA.1]
      have hsl := sumB_mono bl (show k + 1 ≤ n by omega)
      have s0 : (0 : Int) ≤ (sumB bl k : Nat) := by omega
      have s1 : ((sumB bl k : Nat) : Int) ≤ 1000000000000 := by omega
      have s2 : (0 : Int) ≤ (l : Nat) := by omega
      have s3 : ((l : Nat) : Int) ≤ 1000000000000 := by omega
      have HS := Lib.hid hs
      clear hs hsl hA hl
      go_wp2_with fail
      go_round
      case rel => exact ⟨k + 1, by omega, by go_num, by rw [HS.out]; go_num⟩
      case measure => simp [intOf]; omega
    · obtain rfl : k = n := by omega
      go_wp2_with fail
      have ht : sumB bl k + sumW ws m ≤ 1000000000000 := f3
      go_loopw [5, 23] (fun t i wr => ∃ j : Nat, j ≤ m ∧ i = .int .i64 j ∧ t = .int .i64 (sumB bl k + sumW ws j : Nat) ∧ Below w.heap.size w wr) (fun _ i _ => m - (intOf i).toNat)
      case atStart => exact ⟨0, Nat.zero_le _, rfl, by simp [sumW], Below.refl _ _⟩
      case round =>
        obtain ⟨j, hj, rfl, rfl, hb⟩ := hrel
        have j0 : (0 : Int) ≤ j := by omega
        by_cases hlt : j < m
        · have j1 : (j : Int) < m := by omega
          obtain ⟨b, off, p, A, l, c, s, rfl, hlb, hl, _, hc, hd, hA⟩ := HW.out.at_ hlt
          have hs : sumW ws (j + 1) = sumW ws j + l := by rw [sumW, hl, hA.1]
          have hsl := sumW_mono ws (show j + 1 ≤ m by omega)
          obtain ⟨S, hS⟩ : ∃ S, sumB bl k + sumW ws j = S := ⟨_, rfl⟩
          have hs' : sumB bl k + sumW ws (j + 1) = S + l := by omega
          have s0 : (0 : Int) ≤ (S : Nat) := by omega
          have s1 : ((S : Nat) : Int) ≤ 1000000000000 := by omega
          have s2 : (0 : Int) ≤ (l : Nat) := by omega
          have s3 : ((l : Nat) : Int) ≤ 1000000000000 := by omega
          have c1 := (hb.cell (p := ⟨b, off + j * 2, none⟩) hlb).trans hc
          have c2 := (hb.cell (p := ⟨b, off + j * 2 + 1, none⟩) hlb).trans hd
          rw [hS]
          have HS := Lib.hid hs'
          have HBr := Lib.hid hb
          clear hs hsl hA hl hc hd hb hS hs' ht
          go_wp2_with fail
          go_roundw
          case rel => exact ⟨j + 1, by omega, by go_num, by rw [HS.out]; go_num, HBr.out.alloc (HBr.out.size) _⟩
          case measure => simp [intOf]; omega
        · obtain rfl : j = m := by omega
          have HBr := Lib.hid hb
          clear hb
          go_wp2_with fail
          go_ret
          exact ⟨rfl, HBr.out⟩
end Go.Proofs.YtldnelimemjaiaaGreatDoor
