/-
  Texts of one seat, one behind the other.
-/
import Derived.RangeFuncNested
import Derived.RangeFuncBox
import Derived.RangeFuncLeaves
import Derived.RangeFuncBound
import Derived.RangeFuncCalls
import Derived.Shelf.Abstract
import Derived.Shelf.RegionOpen
import Derived.WalkKit
import Derived.OwnWalkIn
import Derived.TacticsInMore
import Derived.LoopNIn
import Derived.LoopIn
import Derived.Outline
import Derived.Lib.Hide
import Derived.Lib.SlBytesRow
import Derived.Lib.QuoteBits
import Derived.WalkSpells
import Derived.Deep.QuietTactic
import Derived.BigQuiet
import Derived.Laws.Rows
import Derived.Laws.AppendOwnNone
import Derived.Test.YtafbidhbmfdlkaaGreatDoorProg
import Derived.Below
import Derived.Laws.OwnMore
import Derived.Deep.AppendLies
import Derived.Deep.Draws
import Derived.StillTailTactics
import Derived.Laws.BitsAllLaws
import Derived.Deep.MidRow
import Derived.CallsIn
import Derived.OrdersIn
import Derived.StillTail
import Derived.StillTactics
import Derived.TacticsIn
import Derived.Laws.StructEq
import Derived.Deep.RegionWith
import Derived.OwnWalk
import Derived.OrdersHeld
import Derived.Tactics
import Derived.KernelRfl
import Derived.Deep.CutRange
import Derived.Deep.DeepCutAuto
import Derived.Laws.CopyOwn
import Derived.ProofKit
import Derived.OpenShut
import Derived.ShutString
import Derived.ChangeOld
import Derived.RegionTactic
import Derived.Deep.RegionHeld3
import Derived.Maps.OwnSet
import Derived.Maps.Views
import Derived.Carry
import Derived.IntWalk
import Derived.Deep.RegionLaw
import Derived.Lib.AppendZeros
import Derived.Lib.SlBytesConst
import Derived.Laws.Cover3
import Derived.ChangeKeysEq
import Derived.WalkLawsBesides
import Derived.Laws.Tables
import Derived.Laws.CopyRow
import Derived.Shelf.SlSortCmp.WholeK
import Derived.Shelf.SlSortCmp.NoneTotal
import Derived.Shelf.SlLaysF0
import Derived.Shelf.SlGeneric
import Derived.Ground.SlsfProg
import Derived.Defers
import Derived.Recover
import Derived.Shelf.Lay
import Derived.Shelf.Sort.Plain
import Derived.Ground.Names2Prog
import Derived.Sort.OwnSortedInts
import Derived.Shelf.SlSortCmp.SmallK
import Derived.Lib.SmallJoins
import Derived.Deep.Matrix
import Derived.Deep.SlicePairs
import Derived.Test.YtafbidhbmfdlkaaGreatDoorRows
import Derived.Test.YtafbidhbmfdlkaaGreatDoorTie
import Derived.Test.YtafbidhbmfdlkaaGreatDoorCards
import Derived.LaidMore
import Derived.Stop.Joined
import Derived.SevenTiedAt
/-
  Words for slices of bytes, of any program: what one reads as; the string made of it; a part of it; appends to a slice of one's own.
-/
namespace Go.Proofs.YtafbidhbmfdlkaaGreatDoor
open Go.RowKit Go.Shelf
set_option maxRecDepth 100000

/-- The cells of the block g hold the bytes s. -/
def Holds (W : World) (g : Nat) (s : List UInt8) : Prop := ∀ i (h : i < s.length), W.cell? ⟨g, i, none⟩ = some (.int .u8 ((s[i]).toNat : Int))
/-- string(b) of a slice whose cells hold s. -/
def strOf (s : List UInt8) : ByteArray := ⟨s.toArray⟩
theorem strOf_toList (s : List UInt8) : (strOf s).toList = s := by
  rw [ByteArray.toList_eq]; rfl
theorem conv_at (W : World) (g off len cap : Nat) (s : List UInt8) (hs : s.length = len) (hc : ∀ i (h : i < s.length), W.cell? ⟨g, off + i, none⟩ = some (.int .u8 ((s[i]).toNat : Int))) :
    (convert 26 9 (.slice (some ⟨g, off, none⟩) len cap)).run Tryz.prog W = .ok (.string (strOf s)) W := by
  rw [run_convert_bytes_arg (P := Tryz.prog) W 26 5 Tryz.underlying26 Tryz.underlying5 g off len cap (s.map fun x => (x.toNat : Int)) (by simpa using hs) (fun i hi => ?_) 9 Tryz.underlying9]
  · congr 2
    unfold strOfNums strOf
    have e : ((fun n : Int => UInt8.ofNat n.toNat) ∘ fun x : UInt8 => (x.toNat : Int)) = id := by funext x; simp
    rw [List.map_map, e, List.map_id]
  · rw [hc i (by omega)]
    simp [List.getD, hs, hi]
theorem Holds.below {B g : Nat} {W W' : World} {s : List UInt8} (h : Holds W g s) (hb : Below B W W') (hg : g < B) : Holds W' g s := fun i hi => (hb.cell (p := ⟨g, i, none⟩) hg).trans (h i hi)
theorem Holds.conv {W : World} {g cap : Nat} {s : List UInt8} (h : Holds W g s) {len : Nat} (hs : s.length = len) : (convert 26 9 (.slice (some ⟨g, 0, none⟩) len cap)).run Tryz.prog W = .ok (.string (strOf s)) W :=
  conv_at W g 0 len cap s hs fun i hi => by rw [Nat.zero_add]; exact h i hi
theorem Holds.drewN {W : World} {g : Nat} {s : List UInt8} (h : Holds W g s) (q : Nat) : Holds (W.drewN q) g s := fun i hi => by simpa using h i hi
theorem below_drewN {B : Nat} {a w : World} (h : Below B a w) (q : Nat) : Below B a (w.drewN q) := ⟨h.os, h.tape, h.output, h.size, h.block⟩
/-- b[:h]. -/
theorem slice_h (W : World) (g off len cap h : Nat) (hh : 0 < h) (hc : h ≤ cap) : (Instr.slice 26 (.slice (some ⟨g, off, none⟩) len cap) none (some (.int .i64 (h : Int))) none).run Tryz.prog W = .ok (.slice (some ⟨g, off, none⟩) h cap) W := by
  rw [run_slice_h W 26 _ _ _ (by kernel_rfl) .i64 _ (by omega) (by omega)]
  have hz : (Go.sizeOf (Tryz.prog.elem 26)).run Tryz.prog W = .ok 1 W := by kernel_rfl
  rw [hz]
  simp [Result.andThen, sliced, Addr.add] <;> omega
/-- The values of bytes. -/
def vals (s : List UInt8) : List Value := s.map fun x => .int .u8 (x.toNat : Int)
theorem vals_append (s t : List UInt8) : vals s ++ vals t = vals (s ++ t) := by simp [vals]
theorem vals_get {s : List UInt8} {j : Nat} {u : Value} (h : (vals s)[j]? = some u) : ∃ hj : j < s.length, u = .int .u8 ((s[j]).toNat : Int) := by
  rw [vals, List.getElem?_map] at h
  rcases Nat.lt_or_ge j s.length with hj | hj
  · rw [List.getElem?_eq_getElem hj] at h
    exact ⟨hj, (Option.some.inj h).symm⟩
  · rw [List.getElem?_eq_none hj] at h; cases h
/-- A slice of bytes that lies below block B reads as s. -/
def Bsl (w : World) (B : Nat) (a : Option Addr) (len cap : Nat) (s : List UInt8) : Prop :=
  s.length = len ∧ len ≤ cap ∧ cap ≤ maxLen ∧ (a = none → cap = 0) ∧
    (0 < len → ∃ b off, a = some ⟨b, off, none⟩ ∧ b < B ∧ ∀ i (h : i < s.length), w.cell? ⟨b, off + i, none⟩ = some (.int .u8 ((s[i]).toNat : Int)))
theorem Bsl.below {w w' : World} {B : Nat} {a : Option Addr} {len cap : Nat} {s : List UInt8} (h : Bsl w B a len cap s) (hb : Below B w w') : Bsl w' B a len cap s := by
  obtain ⟨h1, h2, h3, h4, h5⟩ := h
  refine ⟨h1, h2, h3, h4, fun hl => ?_⟩
  obtain ⟨b, off, e, hlt, hc⟩ := h5 hl
  exact ⟨b, off, e, hlt, fun i hi => (hb.cell (p := ⟨b, off + i, none⟩) hlt).trans (hc i hi)⟩
theorem infoU8 : (Tryz.prog.info? 5).map (fun i => (i.zero, i.size, i.bytes)) = some (some (.int .u8 0), 1, 1) := by kernel_rfl
theorem wpList_append_big {w : World} {ops : Array Oper} {rest : List Oper} {o : Oper} {a : Act} {Q : Exit → Act → World → Prop} (hgd : o.guard = none) (s x : Operand)
    (ho : o.op = .call { callee := .builtin .append, args := #[s, x], argTypes := #[26, 26] })
    (base : Nat) (v : Value) (n : Nat) (xs : List UInt8) (hs : a.eval s = v) (hown : w.ownsRow base 5 1 v n (vals xs))
    (B : Nat) (A : Option Addr) (m c : Nat) (news : List UInt8) (hx : a.eval x = .slice A m c) (hr : Bsl w B A m c news)
    (hnm : n + m ≤ 100000000000000) (hbase : base ≤ w.heap.size)
    (h : ∀ v' w', w'.ownsRow base 5 1 v' (n + m) (vals (xs ++ news)) → w.grownBy w' v.ownBlock → wpList Tryz.prog ops Q rest (a.put o.dst v') w') : wpList Tryz.prog ops Q (o :: rest) a w := by
  obtain ⟨i0, hi, hz0, hz1, hz2⟩ := info_parts infoU8
  obtain ⟨h1, h2, h3, h4, h5⟩ := hr
  have e0 : m = 0 → news = [] := fun e => List.eq_nil_of_length_eq_zero (by omega)
  cases A with
  | none =>
    have hc := h4 rfl
    have hm : m = 0 := by omega
    subst hm; subst hc
    obtain rfl := e0 rfl
    refine wpList_append_own_none hgd s x 26 ho base 5 i0 1 Tryz.underlying26 hi v n (vals xs) hs hown hx ?_
    exact h v w (by simpa using hown) (World.grownBy.refl w _)
  | some ad =>
    refine wpList_append_own w hgd s x 26 ho base 5 i0 (.int .u8 0) 1 1 Tryz.underlying26 hi hz0 hz1 hz2 rfl (by decide) v n (vals xs) hs hown ad m c (vals news) hx (by simp [vals, h1]) (fun j u hu => ?_) (fun u hu => ?_) (by unfold maxLen; omega) (by omega) hbase ?_
    · obtain ⟨hj, rfl⟩ := vals_get hu
      obtain ⟨b, off, e, _, hc⟩ := h5 (by omega)
      cases e
      rw [← hc j hj]
      congr 1
      unfold Addr.add
      split <;> simp_all
    · obtain ⟨y, _, rfl⟩ := List.mem_map.1 hu
      rfl
    · intro v' w' h2 h3 _
      exact h v' w' (by rw [← vals_append]; exact h2) h3
/-- The same, for short lists. -/
theorem wpList_append_bsl {w : World} {ops : Array Oper} {rest : List Oper} {o : Oper} {a : Act} {Q : Exit → Act → World → Prop} (hgd : o.guard = none) (s x : Operand)
    (ho : o.op = .call { callee := .builtin .append, args := #[s, x], argTypes := #[26, 26] })
    (base : Nat) (v : Value) (n : Nat) (xs : List UInt8) (hs : a.eval s = v) (hown : w.ownsRow base 5 1 v n (vals xs))
    (B : Nat) (A : Option Addr) (m c : Nat) (news : List UInt8) (hx : a.eval x = .slice A m c) (hr : Bsl w B A m c news)
    (hnm : n + m ≤ 100000) (hbase : base ≤ w.heap.size)
    (h : ∀ v' w', w'.ownsRow base 5 1 v' (n + m) (vals (xs ++ news)) → w.grownBy w' v.ownBlock → wpList Tryz.prog ops Q rest (a.put o.dst v') w') : wpList Tryz.prog ops Q (o :: rest) a w :=
  wpList_append_big hgd s x ho base v n xs hs hown B A m c news hx hr (by omega) hbase h
theorem bsl_of_own {w : World} {base n : Nat} {v : Value} {s : List UInt8} (h : w.ownsRow base 5 1 v n (vals s)) (hn : 0 < n) :
    ∃ g cap, v = .slice (some ⟨g, 0, none⟩) n cap ∧ base ≤ g ∧ g < w.heap.size ∧ n ≤ cap ∧ cap ≤ maxLen ∧ s.length = n ∧ Holds w g s := by
  have hl : s.length = n := by have := h.1; simpa [vals] using this
  obtain ⟨h1, h2 | ⟨g, cap, cur, rfl, hb, hh, hnc, hcm, hsz, ht⟩⟩ := h
  · omega
  · refine ⟨g, cap, rfl, hb, (Array.getElem?_eq_some_iff.1 hh).1, hnc, hcm, hl, fun i hi => ?_⟩
    rw [cell_of_row w g i cur 5 (0, 0) hh]
    have : (vals s)[i]? = some (.int .u8 ((s[i]).toNat : Int)) := by simp [vals, hi]
    rw [← ht, List.getElem?_take_of_lt (by omega)] at this
    rw [← this, Array.getElem?_toList]
theorem Bsl.more {w : World} {B B' : Nat} {a : Option Addr} {len cap : Nat} {s : List UInt8} (h : Bsl w B a len cap s) (hB : B ≤ B') : Bsl w B' a len cap s := by
  obtain ⟨h1, h2, h3, h4, h5⟩ := h
  refine ⟨h1, h2, h3, h4, fun hl => ?_⟩
  obtain ⟨b, off, e, hlt, hc⟩ := h5 hl
  exact ⟨b, off, e, by omega, hc⟩
theorem Bsl.len_le {w : World} {B len cap : Nat} {a : Option Addr} {s : List UInt8} (h : Bsl w B a len cap s) : (len : Int) ≤ 9223372036854775807 := by have h1 := h.2.1; have h2 := h.2.2.1; unfold maxLen at h2; omega
/-- b[l:h], where it is not empty. -/
theorem slice_lh (W : World) (b off len cap l k : Nat) (hk : 0 < k) (hc : l + k ≤ cap) : (Instr.slice 26 (.slice (some ⟨b, off, none⟩) len cap) (some (.int .i64 (l : Int))) (some (.int .i64 ((l : Int) + k))) none).run Tryz.prog W = .ok (.slice (some ⟨b, off + l, none⟩) k (cap - l)) W := by
  have := Lib.run_slice_window (P := Tryz.prog) W 26 5 Tryz.underlying26 (fun _ => by kernel_rfl) b off len cap l (l + k) (by omega) hc
  rw [show ((l + k : Nat) : Int) = (l : Int) + k by omega, show l + k - l = k by omega] at this
  exact this
theorem win_length {s : List UInt8} {i k : Nat} (h : i + k ≤ s.length) : ((s.drop i).take k).length = k := by simp; omega
end Go.Proofs.YtafbidhbmfdlkaaGreatDoor
/-
  Words for memory: a block that is known whole; draws, new blocks and stores beside it.
-/
namespace Go.Proofs.YtafbidhbmfdlkaaGreatDoor
open Go.RowKit Go.Shelf
set_option maxRecDepth 100000

/-- Block g is just the cells cs of element type t, none frozen. -/
def Blk (w : World) (g : Nat) (t : TypeId) (cs : Array Value) : Prop := w.heap[g]? = some (.cells cs t (0, 0))
section
variable {w w' : World} {g : Nat} {t : TypeId} {cs : Array Value}
theorem Blk.lt (h : Blk w g t cs) : g < w.heap.size := by
  rcases Nat.lt_or_ge g w.heap.size with hlt | hge
  · exact hlt
  · unfold Blk at h; rw [Array.getElem?_eq_none hge] at h; cases h
theorem Blk.cell (h : Blk w g t cs) (i : Nat) : w.cell? ⟨g, i, none⟩ = cs[i]? := cell_of_row w g i cs t (0, 0) h
theorem Blk.frozen (h : Blk w g t cs) (i : Nat) : w.frozen? ⟨g, i, none⟩ = false := by
  unfold Blk at h
  simp [World.frozen?, h]
theorem Blk.new (w : World) (t : TypeId) (cs : Array Value) : Blk (w.alloc (.cells cs t)) w.heap.size t cs := heap_alloc_new w _
theorem Blk.drew (h : Blk w g t cs) : Blk w.drew g t cs := h
theorem Blk.drewN (h : Blk w g t cs) (n : Nat) : Blk (w.drewN n) g t cs := h
theorem Blk.alloc (h : Blk w g t cs) (o : Obj) : Blk (w.alloc o) g t cs := (Below.heap_alloc w o g h.lt).trans h
theorem Blk.set_ (h : Blk w g t cs) (i : Nat) (u : Value) : Blk (w.setCell ⟨g, i, none⟩ u) g t (cs.setIfInBounds i u) := by
  unfold Blk at h ⊢
  simp [World.setCell, Array.getElem?_modify, h]
theorem Blk.far (h : Blk w g t cs) {p : Addr} (hp : g ≠ p.block) (u : Value) : Blk (w.setCell p u) g t cs := (Below.heap_setCell w p u g hp).trans h
theorem Blk.below {B : Nat} (h : Blk w g t cs) (hb : Below B w w') (hg : g < B) : Blk w' g t cs := (hb.block g hg).trans h
theorem Blk.grown {row : Option Nat} (h : Blk w g t cs) (hb : w.grownBy w' row) (hg : some g ≠ row) : Blk w' g t cs := (hb.block g h.lt hg).trans h
end
/-- Only block g, and what is new, has turned. -/
theorem only_drew {a w : World} {row : Option Nat} (h : a.grownBy w row) : a.grownBy w.drew row := ⟨h.os, h.tape, h.output, h.size, h.block⟩
theorem only_setCell {a w : World} {g : Nat} (h : a.grownBy w (some g)) {p : Addr} (hp : p.block = g ∨ a.heap.size ≤ p.block) (u : Value) : a.grownBy (w.setCell p u) (some g) :=
  ⟨h.os, h.tape, h.output, by simpa [World.setCell] using h.size, fun i hi hne => (Below.heap_setCell w p u i (by
    rintro rfl
    rcases hp with hp | hp
    · exact hne (by rw [hp])
    · omega)).trans (h.block i hi hne)⟩
theorem only_below {a w w1 : World} {g : Nat} (h : a.grownBy w (some g)) (hb : Below w.heap.size w w1) : a.grownBy w1 (some g) :=
  ⟨hb.os.trans h.os, hb.tape.trans h.tape, hb.output.trans h.output, Nat.le_trans h.size hb.size, fun i hi hn => (hb.block i (Nat.lt_of_lt_of_le hi h.size)).trans (h.block i hi hn)⟩
theorem below_only {B : Nat} {a w w1 : World} {g : Nat} (h : Below B a w) (hg : B ≤ g) (hb : w.grownBy w1 (some g)) (hB : B ≤ w.heap.size) : Below B a w1 :=
  ⟨hb.os.trans h.os, hb.tape.trans h.tape, hb.output.trans h.output, Nat.le_trans h.size hb.size, fun i hi => (hb.block i (Nat.lt_of_lt_of_le hi hB) (fun e => by injection e; omega)).trans (h.block i hi)⟩

theorem Blk.set4 {w : World} {g : Nat} {t : TypeId} {u0 u1 u2 u3 : Value} (h : Blk w g t #[u0, u1, u2, u3]) (v0 v1 v2 v3 : Value) :
    Blk ((((w.setCell ⟨g, 0, none⟩ v0).setCell ⟨g, 1, none⟩ v1).setCell ⟨g, 2, none⟩ v2).setCell ⟨g, 3, none⟩ v3) g t #[v0, v1, v2, v3] := (((h.set_ 0 v0).set_ 1 v1).set_ 2 v2).set_ 3 v3
theorem below_set4 {B : Nat} {a w : World} {g : Nat} (h : Below B a w) (hg : B ≤ g) (v0 v1 v2 v3 : Value) :
    Below B a ((((w.setCell ⟨g, 0, none⟩ v0).setCell ⟨g, 1, none⟩ v1).setCell ⟨g, 2, none⟩ v2).setCell ⟨g, 3, none⟩ v3) :=
  (((h.setCell (p := ⟨g, 0, none⟩) hg v0).setCell (p := ⟨g, 1, none⟩) hg v1).setCell (p := ⟨g, 2, none⟩) hg v2).setCell (p := ⟨g, 3, none⟩) hg v3
end Go.Proofs.YtafbidhbmfdlkaaGreatDoor
/-
  Words for rows of the call's own and for lists of bytes, of any program: what goes on being read beside what is written; parts of a list; exclusive or of two bytes.
-/
namespace Go.Proofs.YtafbidhbmfdlkaaGreatDoor
open Go.RowKit Go.Shelf
set_option maxRecDepth 100000

theorem own_below {base : Nat} {e : TypeId} {size : Nat} {v : Value} {n : Nat} {xs : List Value} {w w' : World} (h : w.ownsRow base e size v n xs) (hb : Below w.heap.size w w') : w'.ownsRow base e size v n xs :=
  h.kept (row := none) ⟨hb.os, hb.tape, hb.output, hb.size, fun i hi _ => hb.block i hi⟩ (by cases hv : v.ownBlock <;> simp)
theorem bsl_of_holds {w : World} {g n cap : Nat} {s : List UInt8} (hs : s.length = n) (h1 : n ≤ cap) (h2 : cap ≤ maxLen) (hg : g < w.heap.size) (h : Holds w g s) : Bsl w w.heap.size (some ⟨g, 0, none⟩) n cap s :=
  ⟨hs, h1, h2, fun e => (by cases e), fun _ => ⟨g, 0, rfl, hg, fun i hi => by rw [Nat.zero_add]; exact h i hi⟩⟩
/-- An append to a slice of the call's own writes nothing below the call. -/
theorem app_below {base n : Nat} {e : TypeId} {size : Nat} {v : Value} {xs : List Value} {w W W' : World} (hb : Below base w W) (ho : W.ownsRow base e size v n xs) (hg : W.grownBy W' v.ownBlock) (hs : base ≤ W.heap.size) : Below base w W' :=
  hb.grown hg hs (fun _ h => (ho.lt _ h).1)
theorem own_nil (w : World) (B : Nat) : w.ownsRow B 5 1 (.slice none 0 0) 0 (vals []) := World.ownsRow_nil _ _ _ _
theorem own_empty (w : World) : (w.alloc (.cells #[] 5)).ownsRow w.heap.size 5 1 (.slice (some ⟨w.heap.size, 0, none⟩) 0 0) 0 (vals []) :=
  ⟨rfl, .inr ⟨w.heap.size, 0, #[], rfl, Nat.le_refl _, heap_alloc_new w _, Nat.le_refl _, by unfold maxLen; omega, rfl, rfl⟩⟩
theorem Bsl.step {w w' : World} {a : Option Addr} {len cap : Nat} {s : List UInt8} (h : Bsl w w.heap.size a len cap s) (hb : Below w.heap.size w w') : Bsl w' w'.heap.size a len cap s := (h.below hb).more hb.size
theorem Bsl.beside {w w' : World} {b off len cap g : Nat} {s : List UInt8} (h : Bsl w w.heap.size (some ⟨b, off, none⟩) len cap s) (hg : w.grownBy w' (some g)) (hne : b ≠ g) : Bsl w' w'.heap.size (some ⟨b, off, none⟩) len cap s := by
  obtain ⟨h1, h2, h3, h4, h5⟩ := h
  refine ⟨h1, h2, h3, h4, fun hl => ?_⟩
  obtain ⟨b', off', e, hlt, hc⟩ := h5 hl
  cases e
  refine ⟨b, off, rfl, Nat.lt_of_lt_of_le hlt hg.size, fun i hi => ?_⟩
  rw [← hc i hi]
  exact World.cell?_of_block (a := ⟨b, off + i, none⟩) (hg.block b hlt (fun e => hne (Option.some.inj e)))
theorem bsl_one (w : World) (g : Nat) (x : UInt8) (h : Blk w g 5 #[.int .u8 (x.toNat : Int)]) (hg : g < w.heap.size) : Bsl w w.heap.size (some ⟨g, 0, none⟩) 1 1 [x] :=
  ⟨rfl, Nat.le_refl _, by unfold maxLen; omega, fun e => (by cases e), fun _ => ⟨g, 0, rfl, hg, fun i hi => by
    have : i = 0 := by simpa using hi
    subst this
    exact h.cell 0⟩⟩
/-- Behind a new byte: the byte's own slice. -/
theorem one_bsl (w : World) (x : UInt8) : Bsl (w.alloc (.cells #[.int .u8 (x.toNat : Int)] 5)) (w.alloc (.cells #[.int .u8 (x.toNat : Int)] 5)).heap.size (some ⟨w.heap.size, 0, none⟩) 1 1 [x] :=
  bsl_one _ _ x (Blk.new w _ _) (by simp)
/-- The cells of an array of bytes. -/
def ar (s : List UInt8) : Array Value := (vals s).toArray
theorem ar_size (s : List UInt8) : (ar s).size = s.length := by simp [ar, vals]
theorem ar_get (s : List UInt8) (i : Nat) (h : i < s.length) : (ar s)[i]? = some (.int .u8 ((s[i]).toNat : Int)) := by simp [ar, vals, h]
/-- The first bytes of a list; a part of it. -/
theorem Bsl.pre {w : World} {B len cap : Nat} {a : Option Addr} {s : List UInt8} (h : Bsl w B a len cap s) (k : Nat) (hk : k ≤ len) : Bsl w B a k cap (s.take k) := by
  obtain ⟨h1, h2, h3, h4, h5⟩ := h
  refine ⟨by simp; omega, by omega, h3, h4, fun h0 => ?_⟩
  obtain ⟨b, off, e, hb, hc⟩ := h5 (by omega)
  refine ⟨b, off, e, hb, fun i hi => ?_⟩
  have hi' : i < s.length := by simp at hi; omega
  rw [hc i hi', List.getElem_take]
theorem Bsl.win {w : World} {B b off len cap : Nat} {s : List UInt8} (h : Bsl w B (some ⟨b, off, none⟩) len cap s) (l k : Nat) (hk : l + k ≤ len) : Bsl w B (some ⟨b, off + l, none⟩) k (cap - l) ((s.drop l).take k) := by
  obtain ⟨h1, h2, h3, h4, h5⟩ := h
  refine ⟨by simp; omega, by omega, by omega, fun e => (by cases e), fun h0 => ?_⟩
  obtain ⟨b', off', e, hb, hc⟩ := h5 (by omega)
  cases e
  refine ⟨b, off + l, rfl, hb, fun i hi => ?_⟩
  have hi' : l + i < s.length := by simp at hi; omega
  rw [Nat.add_assoc, hc (l + i) hi', List.getElem_take, List.getElem_drop]
theorem Bsl.cellD {w : World} {B g off len cap : Nat} {s : List UInt8} (h : Bsl w B (some ⟨g, off, none⟩) len cap s) (i : Nat) (hi : i < len) : w.cell? ⟨g, off + i, none⟩ = some (.int .u8 ((s.getD i 0).toNat : Int)) := by
  obtain ⟨b, o, e, _, hc⟩ := h.2.2.2.2 (by omega)
  cases e
  have hl : i < s.length := by rw [h.1]; exact hi
  rw [hc i hl, List.getD_eq_getElem?_getD, List.getElem?_eq_getElem hl]
  rfl
theorem Blk.bsl {w : World} {g t n : Nat} {s : List UInt8} (h : Blk w g t (ar s)) (hs : s.length = n) (hn : n ≤ 1000) : Bsl w w.heap.size (some ⟨g, 0, none⟩) n n s :=
  bsl_of_holds hs (Nat.le_refl _) (by unfold maxLen; omega) h.lt fun i hi => by rw [h.cell i, ar_get s i hi]
theorem Bsl.range {w : World} {B g off len cap : Nat} {s : List UInt8} (h : Bsl w B (some ⟨g, off, none⟩) len cap s) (h0 : 0 < len) : w.rangeAt g off (vals s) := fun j v hv => by
  obtain ⟨hj, rfl⟩ := vals_get hv
  obtain ⟨b, o, e, _, hc⟩ := h.2.2.2.2 h0
  cases e
  exact hc j hj
theorem Blk.setRow {w : World} {g t : Nat} {old cs : Array Value} (h : Blk w g t old) : Blk (w.setRow g cs) g t cs := setRow_heap w g old cs t (0, 0) h
theorem own_slice {w : World} {B n : Nat} {v : Value} {xs : List Value} (h : w.ownsRow B 5 1 v n xs) : ∃ a cap, v = .slice a n cap := by
  rcases h.2 with ⟨rfl, h0⟩ | ⟨g, cap, cur, rfl, _⟩
  · exact ⟨none, 0, by rw [h0]⟩
  · exact ⟨_, _, rfl⟩
theorem own_bsl {w : World} {B n cap : Nat} {a : Option Addr} {s : List UInt8} (h : w.ownsRow B 5 1 (.slice a n cap) n (vals s)) : Bsl w w.heap.size a n cap s := by
  have hl : s.length = n := by have := h.1; simpa [vals] using this
  obtain ⟨h1, ⟨h2, h3⟩ | ⟨g, cap', cur, h2, hb, hh, hnc, hcm, hsz, ht⟩⟩ := h
  · cases h2
    exact ⟨hl, Nat.le_refl _, Nat.zero_le _, fun _ => rfl, fun h => absurd h (by omega)⟩
  · cases h2
    refine ⟨hl, hnc, hcm, fun e => (by cases e), fun _ => ⟨g, 0, rfl, (Array.getElem?_eq_some_iff.1 hh).1, fun i hi => ?_⟩⟩
    rw [Nat.zero_add, cell_of_row w g i cur 5 (0, 0) hh]
    have : (vals s)[i]? = some (.int .u8 ((s[i]).toNat : Int)) := by simp [vals, hi]
    rw [← ht, List.getElem?_take_of_lt (by omega)] at this
    rw [← this, Array.getElem?_toList]
/-- A list of the call's own. -/
def OwnV (n : Nat) (s : List UInt8) (w : World) (e : Ending) (w' : World) : Prop := ∃ v, e = .returned v ∧ w'.ownsRow w.heap.size 5 1 v n (vals s) ∧ Below w.heap.size w w'
theorem own_to {w : World} {B n : Nat} {v : Value} {s : List UInt8} (h : w.ownsRow B 5 1 v n (vals s)) : ∃ a cap, v = .slice a n cap ∧ Bsl w w.heap.size a n cap s := by
  obtain ⟨a, cap, rfl⟩ := own_slice h
  exact ⟨a, cap, rfl, own_bsl h⟩
theorem own_mono {w : World} {B B' : Nat} {e : TypeId} {size : Nat} {v : Value} {n : Nat} {xs : List Value} (h : w.ownsRow B e size v n xs) (hB : B' ≤ B) : w.ownsRow B' e size v n xs :=
  ⟨h.1, h.2.imp id fun ⟨g, cap, cur, h1, h2, h3⟩ => ⟨g, cap, cur, h1, Nat.le_trans hB h2, h3⟩⟩
theorem own_other {w w' : World} {B g : Nat} {e : TypeId} {size : Nat} {v : Value} {n : Nat} {xs : List Value} (h : w.ownsRow B e size v n xs) (hg : w.grownBy w' (some g)) (hne : ∀ k, v.ownBlock = some k → k ≠ g) : w'.ownsRow B e size v n xs :=
  h.kept hg (by
    cases hv : v.ownBlock with
    | none => exact .inl rfl
    | some k => exact .inr fun e => hne k hv (Option.some.inj e))
theorem own_lt {w : World} {B g n cap : Nat} {e : TypeId} {xs : List Value} (h : w.ownsRow B e 1 (.slice (some ⟨g, 0, none⟩) n cap) n xs) : B ≤ g ∧ g < w.heap.size := h.lt g rfl
theorem blk_kept {w w' : World} {b : Nat} {t : TypeId} {cs : Array Value} {row : Option Nat} (h : Blk w b t cs) (hg : w.grownBy w' row) (hk : ∀ r, row = some r → ∃ o : Obj, w.heap[r]? = some o ∧ o.isCells = false) : Blk w' b t cs :=
  h.grown hg (fun e' => by obtain ⟨o, ho, hc⟩ := hk b e'.symm; rw [show w.heap[b]? = _ from h] at ho; cases ho; cases hc)
theorem own_kept {w w' : World} {B g n cap : Nat} {e : TypeId} {xs : List Value} {row : Option Nat} (h : w.ownsRow B e 1 (.slice (some ⟨g, 0, none⟩) n cap) n xs) (hg : w.grownBy w' row) (hk : ∀ r, row = some r → ∃ o : Obj, w.heap[r]? = some o ∧ o.isCells = false) : w'.ownsRow B e 1 (.slice (some ⟨g, 0, none⟩) n cap) n xs := by
  refine h.kept hg (.inr fun er => ?_)
  obtain ⟨o, ho, hc⟩ := hk g (by simpa [Value.ownBlock] using er.symm)
  obtain ⟨h1, ⟨h2, h3⟩ | ⟨g', cap', cur, h2, hb, hh, _⟩⟩ := h
  · cases h2
  · cases h2
    rw [hh] at ho; cases ho; cases hc
theorem own_blk {w : World} {B g n cap : Nat} {e : TypeId} {xs : List Value} (h : w.ownsRow B e 1 (.slice (some ⟨g, 0, none⟩) n cap) n xs) : ∃ cs, Blk w g e cs := by
  obtain ⟨h1, ⟨h2, h3⟩ | ⟨g', cap', cur, h2, hb, hh, _⟩⟩ := h
  · cases h2
  · cases h2
    exact ⟨_, hh⟩
theorem keepsOthers_grown {W W' : World} {g : Nat} {t : TypeId} {cs : Array Value} (h : W.grownBy W' (some g)) (hb : Blk W g t cs) : KeepsOthers W W' :=
  ⟨h.size, fun k o hk ho => (h.block k (Array.getElem?_eq_some_iff.1 hk).1 (fun e => by
    obtain rfl : k = g := Option.some.inj e
    rw [show W.heap[k]? = _ from hb] at hk
    cases hk
    cases ho)).trans hk⟩
theorem only_two (w : World) (g : Nat) (u v : Value) : w.grownBy ((w.setCell ⟨g, 0, none⟩ u).setCell ⟨g, 1, none⟩ v) (some g) :=
  only_setCell (p := ⟨g, 1, none⟩) (only_setCell (p := ⟨g, 0, none⟩) (World.grownBy.refl w (some g)) (.inl rfl) u) (.inl rfl) v
theorem below_alloc3' (w : World) (o1 o2 o3 : Obj) : Below w.heap.size w (((w.alloc o1).alloc o2).alloc o3) := (((Below.refl _ w).alloc (Nat.le_refl _) _).alloc (by simp) _).alloc (by simp; omega) _
end Go.Proofs.YtafbidhbmfdlkaaGreatDoor
/-
  slices.Backward over a slice of bytes hands its places and bytes to the loop from behind, whatever the loop does that keeps the slice readable; code.isSize and code.fits answer as the chapter asks.
-/
namespace Go.Proofs.YtafbidhbmfdlkaaGreatDoor
open Go.RowKit Go.Shelf
set_option maxRecDepth 100000
attribute [local go_sem] Oper.semAt_some

theorem isSize_yes (s : Int) (h1 : 1 ≤ s) (h2 : s ≤ 4) (w : World) : Calls Tryz.prog 199 #[.int .i64 s] w fun e w' => e = .returned (.bool true) ∧ w = w' := by
  go_enter Tryz.func199, Tryz.ntmps199
  go_wp2
  go_ret
  exact ⟨rfl, rfl⟩
theorem fits_yes (n k : Nat) (hm : n < 256 ^ k) (h1 : 1 ≤ k) (h2 : k ≤ 4) (w : World) : Calls Tryz.prog 256 #[.int .i64 n, .int .i64 k] w fun e w' => e = .returned (.bool true) ∧ w = w' := by
  have hs : k = 1 ∨ k = 2 ∨ k = 3 ∨ k = 4 := by omega
  rcases hs with rfl | rfl | rfl | rfl
  all_goals
    simp at hm
    have h0 : (0 : Int) ≤ n := by omega
    have h9 : (n : Int) ≤ 4294967295 := by omega
    go_enter Tryz.func256, Tryz.ntmps256
    go_wp2
    go_ret
    refine ⟨?_, rfl⟩
    show Ending.returned (.bool ((n : Int) / _ == 0)) = _
    congr 2
    simp
    omega
/-- What the walk backward goes on reading: the box of the slice, and a number in each cell of it, of which V tells. -/
def Reach (Bs b off len cap : Nat) (V : Nat → UInt8 → Prop) (W : World) : Prop :=
  W.cell? ⟨Bs, 0, none⟩ = some (.slice (some ⟨b, off, none⟩) len cap) ∧ ∀ j, j < len → ∃ v : UInt8, W.cell? ⟨b, off + j, none⟩ = some (.int .u8 (v.toNat : Int)) ∧ V j v

theorem back_in (F : Fence) (n : Nat) (h : F.fn 200) (hro : F.round = none) (a : Option Addr) (len cap : Nat) (w : World) :
    CallsIn F n Tryz.prog 200 #[.slice a len cap] w fun e w' => e = .returned (.func (.func 258) #[] #[.pointer (some ⟨w.heap.size, 0, none⟩)]) ∧ w' = w.alloc (.cells #[.slice a len cap] 26) := by
  refine callsIn_of_wp Tryz.func200 rfl h ?_ hro
  simp only [Tryz.ntmps200, List.size_toArray, List.length_cons, List.length_nil, Nat.reduceAdd, Nat.reduceSub, Array.replicate_succ, Array.replicate_zero, List.push_toArray, List.append_toArray, List.nil_append, List.cons_append]
  gi_wp2
  go_ret
  exact ⟨rfl, rfl⟩


/-- What has come when k rounds are over is so: the places from behind, and V of each. -/
def Came (len : Nat) (V : Nat → UInt8 → Prop) (pre : List (Fin len × UInt8)) : Prop :=
  pre.length ≤ len ∧ ∀ i (h : i < pre.length), (pre[i]).1.val = len - 1 - i ∧ V (pre[i]).1.val (pre[i]).2
theorem came_nil (len V) : Came len V [] := ⟨Nat.zero_le _, fun i h => by simp at h⟩
theorem came_snoc {len V pre} (h : Came len V pre) {j : Nat} (hl : j < len) {v : UInt8} (hj : j + pre.length + 1 = len) (hv : V j v) : Came len V (pre ++ [(⟨j, hl⟩, v)]) := by
  refine ⟨by simp; omega, fun i hi => ?_⟩
  by_cases hlt : i < pre.length
  · rw [List.getElem_append_left hlt]; exact h.2 i hlt
  · have : i = pre.length := by simp at hi; omega
    subst this
    simp only [List.getElem_append_right (Nat.le_refl _), Nat.sub_self, List.getElem_cons_zero]
    exact ⟨by omega, hv⟩

set_option maxHeartbeats 2000000 in
theorem backward_in (F : Fence) (n : Nat) (h19 : F.fn 258) (hro : F.round = none) (hn : 1 ≤ n) (l Bs b off len cap : Nat) (V : Nat → UInt8 → Prop) (hlen : len ≤ 9223372036854775807) (J Jx : List (Fin len × UInt8) → World → Prop)
    (hY : ∀ pre x W, J pre W → pre.length < len → YieldAt F (n - 1) Tryz.prog l #[.int .i64 ((x.1.val : Nat) : Int), .int .u8 ((x.2 : UInt8).toNat : Int)] W fun e W' =>
      (e = .returned (.bool true) ∧ J (pre ++ [x]) W' ∧ (Reach Bs b off len cap V W → Reach Bs b off len cap V W')) ∨ (e = .returned (.bool false) ∧ Jx (pre ++ [x]) W'))
    (W : World) (hR : Reach Bs b off len cap V W) (h0 : J [] W) :
    CallsIn F n Tryz.prog 258 #[.func (.yield l) #[] #[], .pointer (some ⟨Bs, 0, none⟩)] W fun e W' => (∃ v, e = .returned v) ∧
      ((∃ ys, (Came len V ys ∧ ys.length = len) ∧ J ys W') ∨ (∃ pre, Came len V pre ∧ Jx pre W')) := by
  refine callsIn_of_wp Tryz.func258 rfl h19 ?_ hro
  simp only [Tryz.ntmps258, List.size_toArray, List.length_cons, List.length_nil, Nat.reduceAdd, Nat.reduceSub, Array.replicate_succ, Array.replicate_zero, List.push_toArray, List.append_toArray, List.nil_append, List.cons_append]
  have hbox := hR.1
  have HR := Lib.hid hR
  clear hR
  have hll : (0 : Int) ≤ len := by omega
  have hlm : (len : Int) ≤ 9223372036854775807 := by omega
  gi_wp2
  gi_loopw [3] (fun i wr => ∃ pre : List (Fin len × UInt8), Came len V pre ∧ i = .int .i64 ((len : Int) - 1 - pre.length) ∧ J pre wr ∧ Reach Bs b off len cap V wr)
    (fun i _ => (intOf i + 1).toNat)
  case atStart => exact ⟨[], came_nil _ _, by simp, h0, HR.out⟩
  case round =>
    obtain ⟨pre, hC, rfl, hJs, hRs⟩ := hrel
    by_cases hlt : pre.length < len
    · obtain ⟨j, hj⟩ : ∃ j : Nat, j + pre.length + 1 = len := ⟨len - 1 - pre.length, by omega⟩
      have hjl : j < len := by omega
      obtain ⟨v, hv, hV⟩ := hRs.2 j hjl
      have hb := hRs.1
      have ej : (len : Int) - 1 - pre.length = (j : Int) := by omega
      rw [ej]
      obtain ⟨fn, tmps, assign, body, hy, hR⟩ := hY pre (⟨j, hjl⟩, v) wr hJs hlt
      dsimp only at hy
      have HV := Lib.hid hV; clear hV
      have HJ := Lib.hid hj; clear hj
      have HE := Lib.hid ej; clear ej
      have HC := Lib.hid hC; clear hC
      have HRs := Lib.hid hRs; clear hRs
      have hj0 : (0 : Int) ≤ j := by omega
      have hj1 : (j : Int) < len := by have := HJ.out; omega
      gi_wp2
      refine hR.mono ?_
      rintro e W3 (⟨rfl, hJ3, hk3⟩ | ⟨rfl, hJx3⟩)
      · gi_wp2
        go_roundw
        case rel => exact ⟨pre ++ [(⟨j, hjl⟩, v)], came_snoc HC.out hjl HJ.out HV.out, by have := HJ.out; simp; omega, hJ3, hk3 HRs.out⟩
        case measure => simp [intOf]
      · gi_wp2
        refine bodyPost_ret (results_none rfl _ _ _) rfl ?_
        exact ⟨⟨_, rfl⟩, .inr ⟨_, came_snoc HC.out hjl HJ.out HV.out, hJx3⟩⟩
    · have := hC.1
      have el : pre.length = len := by omega
      have ej : (len : Int) - 1 - pre.length = -1 := by omega
      rw [ej]
      gi_wp2
      go_end0
      exact ⟨⟨_, rfl⟩, .inl ⟨pre, ⟨hC, el⟩, hJs⟩⟩

theorem reach_putObj {Bs b off len cap : Nat} {V : Nat → UInt8 → Prop} {W : World} (l : Nat) (o o' : Obj) (h : W.heap[l]? = some o) (ho : o.isCells = false) (hR : Reach Bs b off len cap V W) : Reach Bs b off len cap V (W.putObj l o') := by
  have hk : ∀ r, some l = some r → ∃ o : Obj, W.heap[r]? = some o ∧ o.isCells = false := fun r e => by cases e; exact ⟨_, h, ho⟩
  exact ⟨cell_kept hR.1 (grownBy_putObj' W l o') hk, fun j hj => let ⟨v, hv, hV⟩ := hR.2 j hj; ⟨v, cell_kept hv (grownBy_putObj' W l o') hk, hV⟩⟩

theorem stops (F : Fence) (n : Nat) (h19 : F.fn 258) (hro : F.round = none) (hn : 1 ≤ n) (Bs b off len cap : Nat) (V : Nat → UInt8 → Prop) (hlen : len ≤ 9223372036854775807) (w : World) (hBs : Bs < w.heap.size) (hb : b < w.heap.size) (hR : Reach Bs b off len cap V w) :
    SeqStopsK F n Tryz.prog 258 #[.pointer (some ⟨Bs, 0, none⟩)] (fun x : Fin len × UInt8 => #[Value.int .i64 (x.1.val : Int), Value.int .u8 (x.2.toNat : Int)]) (fun A B => Reach Bs b off len cap V A → Reach Bs b off len cap V B)
      (fun ys => Came len V ys ∧ ys.length = len) (fun pre => Came len V pre) len w := fun l J Jx W hW _ _ hY h0 => by
  refine backward_in F n h19 hro hn l Bs b off len cap V hlen J Jx hY W ⟨(hW.cell (p := ⟨Bs, 0, none⟩) hBs).trans hR.1, fun j hj => ?_⟩ h0
  obtain ⟨v, hv, hV⟩ := hR.2 j hj
  exact ⟨v, (hW.cell (p := ⟨b, off + j, none⟩) hb).trans hv, hV⟩
end Go.Proofs.YtafbidhbmfdlkaaGreatDoor
/-
  A region that draws its order, in a round of a range over a function, is walked as it is everywhere, where nothing in it is deferred.
-/
namespace Go.Proofs.YtafbidhbmfdlkaaGreatDoor
open Go
set_option maxRecDepth 100000

def noDefer (ops : List Oper) : Bool := ops.all fun o => match o.op with | .defer _ => false | _ => true
theorem noDefer_spec {ops : List Oper} (h : noDefer ops = true) {o : Oper} (ho : o ∈ ops) : ∀ c, o.op ≠ .defer c := by
  intro c e
  have := List.all_eq_true.1 h o ho
  rw [e] at this
  cases this

section
variable {P : Program} {Q : Exit → Act → World → Prop} {md : Region.Mode} {l m : Nat}

theorem rowsIn_of_rows {row : String} {args : Array Value} {w : World} {R : Value → World → Prop} (h : Rows P row args w R) : RowsIn (Fence.wide.inRound l) m P row args w R :=
  fun c cs _ => let ⟨v, w', r, s⟩ := h c cs; ⟨v, w', r, stepsIn_wide.2 s⟩

theorem uponIn_of_upon {o : Oper} {a : Act} {K K' : Act → World → Prop} (hK : ∀ a w, K a w → K' a w) {r : Result Next} (h : o.upon P a K Q r) : o.uponIn (Fence.wide.inRound l) m P a K' Q r := by
  cases r with
  | ok x w' =>
    cases x <;> simp only [Oper.upon, Oper.uponIn] at h ⊢
    case value => exact hK _ _ h
    case skip => exact hK _ _ h
    case defer => exact hK _ _ h
    case enter f args =>
      refine ⟨fun h => by simp [Fence.wide] at h, CallsIn.mono (CallsIn.inRound l (callsIn_wide.2 h)) fun e w'' he => ?_⟩
      cases e <;> first | exact hK _ _ he | exact he
    case row row args => exact ⟨fun h => by simp [Fence.wide] at h, (rowsIn_of_rows h).mono fun _ _ he => hK _ _ he⟩
  | halt x w' => cases x <;> simp only [Oper.upon, Oper.uponIn] at h ⊢ <;> exact h

theorem wpAnyIn_of_wpAny {ops : List Oper} (hnd : noDefer ops = true) (hlo : ¬ LetsOut Q) : ∀ (fuel : Nat) (listed : Array Bool) (a : Act) (w : World), wpAny P md ops.toArray Q fuel listed a w → wpAnyIn (Fence.wide.inRound l) m P md ops.toArray Q fuel listed a w
  | 0, _, _, _, h => h
  | fuel + 1, listed, a, w, h => by
    refine ⟨h.1, fun i hi => ?_⟩
    have hop := h.2 i hi
    have ih : ∀ a w, wpAny P md ops.toArray Q fuel (listed.setIfInBounds i true) a w → wpAnyIn (Fence.wide.inRound l) m P md ops.toArray Q fuel (listed.setIfInBounds i true) a w := fun a w => wpAnyIn_of_wpAny hnd hlo fuel _ a w
    unfold wpOp at hop
    unfold wpOpIn
    cases ho : ops.toArray[i]? with
    | none => rw [ho] at hop; exact ih _ _ hop
    | some o =>
      rw [ho] at hop
      have hmem : o ∈ ops := by
        rw [List.getElem?_toArray] at ho
        exact List.mem_of_getElem? ho
      simp only at hop ⊢
      split
      · rename_i hw
        rw [if_pos hw] at hop
        rcases hop with hop | ⟨_, hl⟩
        · refine ⟨fun _ _ => trivial, ?_⟩
          show Oper.uponIn _ _ _ _ _ _ _ (Sem.run P (o.semAt (some l) a.eval) w)
          rw [Oper.semAt_some l _ _ (noDefer_spec hnd hmem)]
          exact uponIn_of_upon ih hop
        · exact absurd hl hlo
      · rename_i hw
        rw [if_neg hw] at hop
        exact ⟨fun _ _ => trivial, ih _ _ hop⟩

/-- A region that draws its order, in a round: as everywhere, where nothing is deferred. -/
theorem region_round {ops : List Oper} {id : Nat} {a : Act} {w : World} (hm : P.follows .mixedOrders = true) (hnd : noDefer ops = true) (hlo : ¬ LetsOut Q)
    (h : wpAny P .any ops.toArray Q ops.length (Array.replicate ops.length false) a w.drew) : (Code.region id ops.toArray true).wpIn (Fence.wide.inRound l) m P Q a w :=
  wpIn_region_any hm (by simpa using wpAnyIn_of_wpAny (l := l) (m := m) hnd hlo _ _ _ _ h)

/-- Reads, and one write at the end: the reads in the text's order, then the write. -/
theorem region_round_tail {ops : List Oper} {id : Nat} {a : Act} {w : World} (n : Nat) (hm : P.follows .mixedOrders = true) (hnd : noDefer ops = true) (hlo : ¬ LetsOut Q) (hB : Region.lexTailB .any ops.toArray n = true)
    (h : wpStill P ops.toArray w.drew (fun a' => wpList P ops.toArray Q (ops.drop n) a' w.drew) (ops.take n) a) : (Code.region id ops.toArray true).wpIn (Fence.wide.inRound l) m P Q a w := by
  refine region_round hm hnd hlo ?_
  simp only [Region.lexTailB, Bool.and_eq_true, decide_eq_true_eq] at hB
  obtain ⟨⟨⟨⟨hsel, hn⟩, hs⟩, hc⟩, hlex⟩ := hB
  have hn' : n < ops.length := by simpa using hn
  have ht : (ops.take n).length = n := by simp; omega
  have hst : HeadInv .any ops.toArray n (Array.replicate ops.toArray.size false) :=
    ⟨by simp, fun j oj _ hl => (by rw [getD_replicate_false] at hl; cases hl), fun t _ ht => getD_in (by simpa using ht) (getD_replicate_false _ _)⟩
  have H := wpAnyL_lex (md := .any) (g := ops.toArray.size - n) hsel hs hc hn (ops.take n) 0 _ a (fun j hj => by rw [ht] at hj; simp [hj]) (by omega) hst (by rw [ht]; exact hlex) h
  have G := wpAny_of_head (Q' := Q) (g := ops.toArray.size - n) (fun listed a' hL => by
    have := wpAny_of_seq (md := .any) (Q' := Q) (ops.drop n) n listed a' w.drew (fun j => by simp) (by simpa using hL.1) hL.2
    simpa using this) _ _ _ H
  have e : (ops.take n).length + (ops.toArray.size - n) = ops.length := by simp; omega
  rw [e] at G
  simpa using G
end
end Go.Proofs.YtafbidhbmfdlkaaGreatDoor
/-
  code.Put, of a number and a size that may be, returns a new slice of the number's bytes, the lowest first, and OK; nothing that was there is written.
-/
namespace Go.Proofs.YtafbidhbmfdlkaaGreatDoor
open Go.RowKit Go.Shelf
set_option maxRecDepth 100000
attribute [local go_sem] Oper.semAt_some

theorem make1 (w : World) : (Instr.makeSlice 26 (.int .i64 1) (.int .i64 1)).run Tryz.prog w = .ok (.slice (some ⟨w.heap.size, 0, none⟩) 1 1) (w.alloc (.cells #[.int .u8 0] 5)) := by kernel_rfl
theorem make2 (w : World) : (Instr.makeSlice 26 (.int .i64 2) (.int .i64 2)).run Tryz.prog w = .ok (.slice (some ⟨w.heap.size, 0, none⟩) 2 2) (w.alloc (.cells #[.int .u8 0, .int .u8 0] 5)) := by kernel_rfl
theorem make3 (w : World) : (Instr.makeSlice 26 (.int .i64 3) (.int .i64 3)).run Tryz.prog w = .ok (.slice (some ⟨w.heap.size, 0, none⟩) 3 3) (w.alloc (.cells #[.int .u8 0, .int .u8 0, .int .u8 0] 5)) := by kernel_rfl
theorem make4 (w : World) : (Instr.makeSlice 26 (.int .i64 4) (.int .i64 4)).run Tryz.prog w = .ok (.slice (some ⟨w.heap.size, 0, none⟩) 4 4) (w.alloc (.cells #[.int .u8 0, .int .u8 0, .int .u8 0, .int .u8 0] 5)) := by kernel_rfl
theorem make_any (k : Nat) (h1 : 1 ≤ k) (h2 : k ≤ 4) (w : World) : (Instr.makeSlice 26 (.int .i64 k) (.int .i64 k)).run Tryz.prog w = .ok (.slice (some ⟨w.heap.size, 0, none⟩) k k) (w.alloc (.cells (Array.replicate k (.int .u8 0)) 5)) := by
  have hs : k = 1 ∨ k = 2 ∨ k = 3 ∨ k = 4 := by omega
  rcases hs with rfl | rfl | rfl | rfl
  · exact make1 w
  · exact make2 w
  · exact make3 w
  · exact make4 w


/-- The byte at place i of n. -/
def byteAt (n i : Nat) : UInt8 := UInt8.ofNat (n / 256 ^ i % 256)

/-- What the loop of Put keeps: the box of n, the box of the slice, and each cell: the byte where it has come, else nought. -/
def PutI (g n k : Nat) (w : World) (pre : List (Fin k × UInt8)) (W : World) : Prop :=
  (W.cell? ⟨g, 0, none⟩ = some (.int .i64 n) ∧ W.cell? ⟨g + 2, 0, none⟩ = some (.slice (some ⟨g + 1, 0, none⟩) k k) ∧
    ∀ j, j < k → W.cell? ⟨g + 1, j, none⟩ = some (.int .u8 ((if j ∈ pre.map (·.1.val) then byteAt n j else 0 : UInt8).toNat : Int)) ∧ W.frozen? ⟨g + 1, j, none⟩ = false) ∧ Below g w W

theorem byteAt_toNat (n i : Nat) : (byteAt n i).toNat = n / 256 ^ i % 256 := by simp [byteAt]
theorem byteAt_0 (n : Nat) : (((byteAt n 0).toNat : Nat) : Int) = (n : Int) % 256 := by rw [byteAt_toNat]; simp
theorem byteAt_1 (n : Nat) : (((byteAt n 1).toNat : Nat) : Int) = (n : Int) / 256 % 256 := by rw [byteAt_toNat]; simp
theorem byteAt_2 (n : Nat) : (((byteAt n 2).toNat : Nat) : Int) = (n : Int) / 65536 % 256 := by rw [byteAt_toNat]; simp
theorem byteAt_3 (n : Nat) : (((byteAt n 3).toNat : Nat) : Int) = (n : Int) / 16777216 % 256 := by rw [byteAt_toNat]; simp

theorem putI_all {k : Nat} {V : Nat → UInt8 → Prop} {ys : List (Fin k × UInt8)} (hC : Came k V ys) (hl : ys.length = k) (j : Nat) (hj : j < k) : j ∈ ys.map (·.1.val) := by
  have hi : k - 1 - j < ys.length := by omega
  have := (hC.2 (k - 1 - j) hi).1
  exact List.mem_map.2 ⟨ys[k - 1 - j], List.getElem_mem hi, by omega⟩

theorem putI_step {g n k i B : Nat} {w W : World} {pre : List (Fin k × UInt8)} {v : UInt8} {x : Int} (hi : i < k) (hI : PutI g n k w pre W) (hx : x = (((byteAt n i).toNat : Nat) : Int)) :
    KeepsFrom B W (W.setCell ⟨g + 1, i, none⟩ (.int .u8 x)).drew ∧ (Reach (g + 1 + 1 + 1) (g + 1) 0 k k (fun _ _ => True) W → Reach (g + 1 + 1 + 1) (g + 1) 0 k k (fun _ _ => True) (W.setCell ⟨g + 1, i, none⟩ (.int .u8 x)).drew) ∧
      PutI g n k w (pre ++ [(⟨i, hi⟩, v)]) (W.setCell ⟨g + 1, i, none⟩ (.int .u8 x)).drew := by
  subst hx
  obtain ⟨⟨h0, h2, h1⟩, hB⟩ := hI
  refine ⟨((KeepsOthers.setCell _ _ _).trans (KeepsOthers.drew _)).from _, fun hR => ⟨?_, fun j hj => ?_⟩, ⟨⟨?_, ?_, fun j hj => ⟨?_, ?_⟩⟩, ?_⟩⟩
  · exact (World.cell?_setCell_other W _ _ _ (by simp)).trans hR.1
  · rw [Nat.zero_add]
    by_cases e : j = i
    · subst e
      exact ⟨_, World.cell?_setCell_same' W _ _ (by rw [(h1 j hj).1]; rfl), trivial⟩
    · obtain ⟨v', hv', _⟩ := hR.2 j hj
      rw [Nat.zero_add] at hv'
      exact ⟨v', (World.cell?_setCell_other W _ _ _ (by simp; first | done | exact fun h => e h.symm)).trans hv', trivial⟩
  · exact (World.cell?_setCell_other W _ _ _ (by simp)).trans h0
  · exact (World.cell?_setCell_other W _ _ _ (by simp)).trans h2
  · by_cases e : j = i
    · subst e
      rw [if_pos (by simp)]
      exact World.cell?_setCell_same' W _ _ (by rw [(h1 j hj).1]; rfl)
    · have : (j ∈ (pre ++ [((⟨i, hi⟩ : Fin k), v)]).map (·.1.val)) ↔ j ∈ pre.map (·.1.val) := by simp [e]
      simp only [this]
      exact (World.cell?_setCell_other W _ _ _ (by simp; first | done | exact fun h => e h.symm)).trans (h1 j hj).1
  · exact (World.frozen?_setCell _ _ _ _).trans (h1 j hj).2
  · exact (hB.setCell (p := ⟨g + 1, i, none⟩) (by simp) _).drew

set_option maxHeartbeats 2000000 in
theorem put_in (m : Nat) (hn : 3 ≤ m) (n k : Nat) (h1 : 1 ≤ k) (h2 : k ≤ 4) (hm : n < 256 ^ k) (w : World) :
    CallsIn Fence.wide m Tryz.prog 194 #[.int .i64 n, .int .i64 k] w fun e W' => e = .returned (.tuple #[.slice (some ⟨w.heap.size + 1, 0, none⟩) k k, .int .i64 0]) ∧
      (∀ j, j < k → W'.cell? ⟨w.heap.size + 1, j, none⟩ = some (.int .u8 ((byteAt n j).toNat : Int))) ∧ Below w.heap.size w W' ∧ w.heap.size + 1 < W'.heap.size := by
  have hro : Fence.wide.round = none := rfl
  have hk1 : (1:Int) ≤ k := by omega
  have hk2 : (k:Int) ≤ 4 := by omega
  have hmk := make_any k h1 h2
  have HM := Lib.hid hm; clear hm
  refine callsIn_of_wp_marks Tryz.func194 rfl trivial ?_ hro
  simp only [Tryz.ntmps194, List.size_toArray, List.length_cons, List.length_nil, Nat.reduceAdd, Nat.reduceSub, Array.replicate_succ, Array.replicate_zero, List.push_toArray, List.append_toArray, List.nil_append, List.cons_append]
  have hd : 1 ≤ m := by omega
  gi_wp2_with (refine ⟨trivial, ?_⟩; first | (gi_at_call 199; refine (callsIn_wide.2 (isSize_yes _ (by omega) (by omega) _)).mono ?_; rintro e w' ⟨rfl, rfl⟩) | (gi_at_call 256; refine (callsIn_wide.2 (fits_yes n k HM.out h1 h2 _)).mono ?_; rintro e w' ⟨rfl, rfl⟩) | (gi_at_call 200; refine (back_in Fence.wide (m - 1) trivial hro _ _ _ _).mono ?_; rintro e w' ⟨rfl, rfl⟩))
  obtain ⟨g, hg⟩ : ∃ g, w.heap.size = g := ⟨_, rfl⟩
  obtain ⟨W0, hW0⟩ : ∃ W0, ((((w.alloc (Obj.cells #[Value.int IntKind.i64 ↑n] 3)).alloc (Obj.cells (Array.replicate k (Value.int IntKind.u8 0)) 5)).alloc (Obj.cells #[Value.slice (some { block := w.heap.size + 1, off := 0 }) k k] 26)).alloc (Obj.cells #[Value.slice (some { block := w.heap.size + 1, off := 0 }) k k] 26)) = W0 := ⟨_, rfl⟩
  have hsz : W0.heap.size = g + 4 := by rw [← hW0]; simp [hg]
  have hB0 : Below g w W0 := by rw [← hW0, ← hg]; exact ((((Below.refl _ w).alloc (Nat.le_refl _) _).alloc (by simp) _).alloc (by simp; omega) _).alloc (by simp; omega) _
  have c0 : W0.cell? ⟨g, 0, none⟩ = some (.int .i64 n) := by rw [← hW0, ← hg]; exact ((((Boxed.new w 3 _).alloc _).alloc _).alloc _).cell
  have c1 : ∀ j, j < k → W0.cell? ⟨g + 1, j, none⟩ = some (.int .u8 0) ∧ W0.frozen? ⟨g + 1, j, none⟩ = false := by
    intro j hj
    have hh : W0.heap[g + 1]? = some (.cells (Array.replicate k (Value.int IntKind.u8 0)) 5 (0, 0)) := by
      rw [← hW0, ← hg, Below.heap_alloc _ _ _ (by simp), Below.heap_alloc _ _ _ (by simp)]
      have := World.alloc_heap_new (w.alloc (Obj.cells #[Value.int IntKind.i64 ↑n] 3)) (Obj.cells (Array.replicate k (Value.int IntKind.u8 0)) 5)
      rwa [World.size_alloc] at this
    exact ⟨by simp [World.cell?, hh, hj], by simp [World.frozen?, hh]⟩
  have c2 : W0.cell? ⟨g + 2, 0, none⟩ = some (.slice (some ⟨g + 1, 0, none⟩) k k) := by
    rw [← hW0, ← hg]
    have := (Boxed.new ((w.alloc (Obj.cells #[Value.int IntKind.i64 ↑n] 3)).alloc (Obj.cells (Array.replicate k (Value.int IntKind.u8 0)) 5)) 26 (Value.slice (some { block := w.heap.size + 1, off := 0 }) k k)).alloc (Obj.cells #[Value.slice (some { block := w.heap.size + 1, off := 0 }) k k] 26)
    rw [World.size_alloc, World.size_alloc] at this
    exact this.cell
  have c3 : W0.cell? ⟨g + 3, 0, none⟩ = some (.slice (some ⟨g + 1, 0, none⟩) k k) := by
    rw [← hW0, ← hg]
    have := Boxed.new (((w.alloc (Obj.cells #[Value.int IntKind.i64 ↑n] 3)).alloc (Obj.cells (Array.replicate k (Value.int IntKind.u8 0)) 5)).alloc (Obj.cells #[Value.slice (some { block := w.heap.size + 1, off := 0 }) k k] 26)) 26 (Value.slice (some { block := w.heap.size + 1, off := 0 }) k k)
    rw [World.size_alloc, World.size_alloc, World.size_alloc] at this
    exact this.cell
  rw [hW0, hg]
  have hR : Reach (g + 3) (g + 1) 0 k k (fun _ _ => True) W0 := ⟨c3, fun j hj => ⟨0, by simpa using (c1 j hj).1, trivial⟩⟩
  refine wpIn_rangeFunc_ownG hro hd (gf := 258) (lb := #[.pointer (some ⟨g + 1 + 1 + 1, 0, none⟩)]) rfl trivial (enters_of Tryz.func258 (by kernel_rfl) rfl)
    (stops Fence.wide (m - 1) trivial hro (by omega) (g + 1 + 1 + 1) (g + 1) 0 k k (fun _ _ => True) (by omega) W0 (by omega) (by omega) hR) (fun h k r => k (h r)) (fun W l o o' _ h ho _ => reach_putObj l o o' h ho) (Below.refl _ _) (fun _ => rfl)
    (PutI g n k w) (fun _ _ _ => False) ?hI (fun _ _ _ _ _ hs _ _ => hs) ⟨⟨c0, c2, fun j hj => by simpa using c1 j hj⟩, hB0⟩
    (fun x => { tmps := #[Value.int IntKind.i64 ↑n, Value.int IntKind.i64 ↑k, Value.pointer (some { block := g, off := 0 }), undef, Value.slice none 0 0, Value.int IntKind.i64 0, Value.pointer (some { block := g + 1 + 1, off := 0 }), .int .i64 (x.1.val : Int), Value.int IntKind.i64 ↑k, Value.bool true, Value.bool false, Value.bool false, Value.int IntKind.i64 ↑n, Value.int IntKind.i64 ↑k, Value.bool true, Value.bool false, Value.bool false, Value.int IntKind.i64 ↑k, Value.slice (some { block := g + 1, off := 0 }) k k, Value.slice (some { block := g + 1, off := 0 }) k k, Value.func (Fn.func 258) #[] #[Value.pointer (some { block := g + 1 + 1 + 1, off := 0 })], .int .i64 (x.1.val : Int), .int .u8 (x.2.toNat : Int), undef, undef, undef, undef, undef, undef, undef, undef, undef], defers := [] }) ?assign ?body ?done ?stop
  case hI =>
    refine OwnFrom.and (Own.from (fun s A B row hs hg hr => ?_) _) (ownFrom_below (by omega) (by omega))
    obtain ⟨h0, h2, h1⟩ := hs
    exact ⟨cell_kept h0 hg hr, cell_kept h2 hg hr, fun j hj => ⟨cell_kept (h1 j hj).1 hg hr, (frozen_kept (h1 j hj).1 hg hr).trans (h1 j hj).2⟩⟩
  case assign =>
    intro l x W K hK
    gi_wp2
    exact hK
  case body =>
    rintro l pre ⟨⟨i, hi⟩, v⟩ W ⟨⟨hcn, hcs, hcj⟩, hB⟩ _
    obtain ⟨hci, hfi⟩ := hcj i hi
    have H := Lib.hid hcj; clear hcj
    have hi4 : i = 0 ∨ i = 1 ∨ i = 2 ∨ i = 3 := by omega
    have hmx : Tryz.prog.follows Departure.mixedOrders = true := by kernel_rfl
    have e0 : IntKind.i64.wrap 0 = 0 := by decide
    have e8 : IntKind.i64.wrap 8 = 8 := by decide
    have e16 : IntKind.i64.wrap 16 = 16 := by decide
    have e24 : IntKind.i64.wrap 24 = 24 := by decide
    have step := fun x (hx : x = (((byteAt n i).toNat : Nat) : Int)) => putI_step (B := W0.heap.size) (v := v) (x := x) hi ⟨⟨hcn, hcs, H.out⟩, hB⟩ hx
    have HS := Lib.hid step; clear step
    have HB := Lib.hid hB; clear hB
    rcases hi4 with rfl | rfl | rfl | rfl
    · have hi0 : (0 : Int) < k := by omega
      dsimp only
      gi_wp2
      refine region_round_tail 8 hmx (by kernel_rfl) (fun h => by obtain ⟨_, _, h⟩ := h; exact h) (by kernel_rfl) ?_
      simp only [List.take_succ_cons, List.take_zero, List.drop_succ_cons, List.drop_zero]
      repeat still_step
      refine wpStill_nil ?_
      go_wp2
      exact HS.out _ (by rw [byteAt_0])
    · have hi0 : (1 : Int) < k := by omega
      dsimp only
      gi_wp2
      refine region_round_tail 8 hmx (by kernel_rfl) (fun h => by obtain ⟨_, _, h⟩ := h; exact h) (by kernel_rfl) ?_
      simp only [List.take_succ_cons, List.take_zero, List.drop_succ_cons, List.drop_zero]
      repeat still_step
      refine wpStill_nil ?_
      go_wp2
      exact HS.out _ (by rw [byteAt_1])
    · have hi0 : (2 : Int) < k := by omega
      dsimp only
      gi_wp2
      refine region_round_tail 8 hmx (by kernel_rfl) (fun h => by obtain ⟨_, _, h⟩ := h; exact h) (by kernel_rfl) ?_
      simp only [List.take_succ_cons, List.take_zero, List.drop_succ_cons, List.drop_zero]
      repeat still_step
      refine wpStill_nil ?_
      go_wp2
      exact HS.out _ (by rw [byteAt_2])
    · have hi0 : (3 : Int) < k := by omega
      dsimp only
      gi_wp2
      refine region_round_tail 8 hmx (by kernel_rfl) (fun h => by obtain ⟨_, _, h⟩ := h; exact h) (by kernel_rfl) ?_
      simp only [List.take_succ_cons, List.take_zero, List.drop_succ_cons, List.drop_zero]
      repeat still_step
      refine wpStill_nil ?_
      go_wp2
      exact HS.out _ (by rw [byteAt_3])
  case done =>
    rintro D ys W hD ⟨hC, hl⟩ ⟨⟨h0, h2, h1⟩, hB⟩ hK
    have hD' : g + 4 ≤ D := by omega
    have H1 := Lib.hid h1; clear h1
    have HC := Lib.hid hC; clear hC
    have HL := Lib.hid hl; clear hl
    have h2' : W.cell? ⟨g + 1 + 1, 0, none⟩ = some (.slice (some ⟨g + 1, 0, none⟩) k k) := h2
    gi_wp2
    refine ⟨by simp, .inl ⟨_, _, rfl, run_takeDeferred hK, ?_⟩⟩
    subst hg
    refine ⟨.tuple #[.slice (some ⟨w.heap.size + 1, 0, none⟩) k k, .int .i64 0], by simp [results, Tryz.f194, go_sem], rfl, fun j hj => ?_, hB.trans (belowK_b (w := w) (by omega) W D _ _ (by omega) hK rfl rfl), ?_⟩
    · have := putI_all HC.out HL.out j hj
      have hc := (H1.out j hj).1
      rw [if_pos this] at hc
      exact cell_kept hc (grownBy_putObj' _ D (.deferred none)) (fun r e => by cases e; exact ⟨_, hK, rfl⟩)
    · have := (Array.getElem?_eq_some_iff.1 hK).1
      simp; omega
  case stop =>
    rintro D c pre W _ _ h _
    exact h.elim
end Go.Proofs.YtafbidhbmfdlkaaGreatDoor
/-
  code.Get, of a slice that has the bytes, returns the number whose bytes they are, and OK; else 0 and the error of the chapter; nothing that was there is written.
-/
namespace Go.Proofs.YtafbidhbmfdlkaaGreatDoor
open Go.RowKit Go.Shelf
set_option maxRecDepth 100000
attribute [local go_sem] Oper.semAt_some

/-- The number whose bytes these are, the lowest first. -/
def leN : List UInt8 → Nat
  | [] => 0
  | x :: r => x.toNat + 256 * leN r

/-- What the loop of Get has in its box when these have come. -/
def accN {k : Nat} (pre : List (Fin k × UInt8)) : Nat := pre.foldl (fun a x => a * 256 + x.2.toNat) 0
theorem accN_snoc {k : Nat} (pre : List (Fin k × UInt8)) (x : Fin k × UInt8) : accN (pre ++ [x]) = accN pre * 256 + x.2.toNat := by simp [accN]
theorem accN_eq {k : Nat} (pre : List (Fin k × UInt8)) : accN pre = leN (pre.map (·.2)).reverse := by
  have h : ∀ l : List UInt8, leN l.reverse = l.foldl (fun a x => a * 256 + x.toNat) 0 := by
    intro l
    have : ∀ l : List UInt8, l.foldr (fun x a => a * 256 + x.toNat) 0 = leN l := by
      intro l
      induction l with
      | nil => rfl
      | cons x r ih => simp only [List.foldr_cons, leN, ih]; omega
    rw [← this, List.foldr_reverse]
  rw [h, List.foldl_map]
  rfl
theorem leN_lt : ∀ l, leN l < 256 ^ l.length
  | [] => by simp [leN]
  | x :: r => by
    have h1 := leN_lt r
    have h2 := x.toNat_lt
    simp only [leN, List.length_cons, Nat.pow_succ]; omega
theorem accN_lt {k : Nat} (pre : List (Fin k × UInt8)) : accN pre < 256 ^ pre.length := by
  rw [accN_eq]
  have := leN_lt (pre.map (·.2)).reverse
  simpa using this
theorem accN_all {k i : Nat} {s : List UInt8} {ys : List (Fin k × UInt8)} (hC : Came k (fun j v => s[i + j]? = some v) ys) (hl : ys.length = k) (hk : i + k ≤ s.length) : accN ys = leN ((s.drop i).take k) := by
  rw [accN_eq]
  congr 1
  apply List.ext_getElem
  · simp; omega
  · intro j h1 h2
    have hj : j < k := by simp at h1; omega
    have hm : k - 1 - j < ys.length := by omega
    obtain ⟨e1, e2⟩ := hC.2 (k - 1 - j) hm
    have e3 : (ys[k - 1 - j]).1.val = j := by omega
    rw [e3] at e2
    have hx : i + j < s.length := by omega
    rw [List.getElem?_eq_getElem hx] at e2
    simp only [List.getElem_reverse, List.getElem_map, List.getElem_take, List.getElem_drop, List.length_map]
    have e4 : ys.length - 1 - j = k - 1 - j := by omega
    simp only [e4]
    exact (Option.some.inj e2).symm
theorem or_byte (a b : Nat) (ha : a ≤ 16777215) (hb : b < 256) : bits .or .i64 ((a : Int) * 256) (b : Int) = ((a * 256 + b : Nat) : Int) := by
  have e : (a : Int) * 256 = ((a * 256 : Nat) : Int) := by omega
  rw [e]
  show IntKind.i64.wrap ((BitVec.ofInt 64 ((a * 256 : Nat) : Int) ||| BitVec.ofInt 64 (b : Int)).toNat : Int) = _
  have h := Nat.two_pow_add_eq_or_of_lt (i := 8) (b := b) (by omega) a
  rw [BitVec.toNat_or, ofInt_u64 _ (by omega), ofInt_u64 _ (by omega), show a * 256 = 2 ^ 8 * a by omega, ← h, show 2 ^ 8 * a + b = 256 * a + b by omega]
  exact Lib.wrap_i64_small _ (by omega)
def GetI (g k : Nat) (w : World) (pre : List (Fin k × UInt8)) (W : World) : Prop :=
  (W.cell? ⟨g, 0, none⟩ = some (.int .i64 (accN pre : Nat)) ∧ W.frozen? ⟨g, 0, none⟩ = false) ∧ Below g w W

set_option maxHeartbeats 2000000 in
theorem get_in (m : Nat) (hn : 3 ≤ m) (b off len cap at_ k : Nat) (s : List UInt8) (hs : s.length = len) (hlc : len ≤ cap) (hcm : cap ≤ 9223372036854775807) (h1 : 1 ≤ k) (h2 : k ≤ 4) (hk : at_ + k ≤ len) (w : World) (hb : b < w.heap.size)
    (hc : ∀ i (h : i < s.length), w.cell? ⟨b, off + i, none⟩ = some (.int .u8 ((s[i]).toNat : Int))) :
    CallsIn Fence.wide m Tryz.prog 134 #[.slice (some ⟨b, off, none⟩) len cap, .int .i64 at_, .int .i64 k] w fun e W' => e = .returned (.tuple #[.int .i64 (leN ((s.drop at_).take k) : Nat), .int .i64 0]) ∧ Below w.heap.size w W' := by
  have hro : Fence.wide.round = none := rfl
  have hd : 1 ≤ m := by omega
  have hk1 : (1:Int) ≤ k := by omega
  have hk2 : (k:Int) ≤ 4 := by omega
  have a0 : (0:Int) ≤ at_ := by omega
  have a1 : (at_:Int) ≤ len := by omega
  have a2 : (k:Int) ≤ len - at_ := by omega
  have hlm : (len:Int) ≤ 9223372036854775807 := by omega
  have ea : (at_ : Int) + k = ((at_ + k : Nat) : Int) := by omega
  have HS := Lib.hid hs; clear hs
  have HC := Lib.hid hc; clear hc
  have hsl := fun W => Lib.run_slice_window (P := Tryz.prog) W 26 5 Tryz.underlying26 (fun _ => by kernel_rfl) b off len cap at_ (at_ + k) (by omega) (by omega)
  simp only [← ea] at hsl
  have HE := Lib.hid ea; clear ea
  refine callsIn_of_wp_marks Tryz.func134 rfl trivial ?_ hro
  simp only [Tryz.ntmps134, List.size_toArray, List.length_cons, List.length_nil, Nat.reduceAdd, Nat.reduceSub, Array.replicate_succ, Array.replicate_zero, List.push_toArray, List.append_toArray, List.nil_append, List.cons_append]
  gi_wp2_with (refine ⟨trivial, ?_⟩; first | (gi_at_call 199; refine (callsIn_wide.2 (isSize_yes _ (by omega) (by omega) _)).mono ?_; rintro e w' ⟨rfl, rfl⟩) | (gi_at_call 200; refine (back_in Fence.wide (m - 1) trivial hro _ _ _ _).mono ?_; rintro e w' ⟨rfl, rfl⟩))
  obtain ⟨g, hg⟩ : ∃ g, w.heap.size = g := ⟨_, rfl⟩
  obtain ⟨W0, hW0⟩ : ∃ W0, ((w.alloc (Obj.cells #[Value.int IntKind.i64 0] 3)).alloc (Obj.cells #[Value.slice (some { block := b, off := off + at_ }) k (cap - at_)] 26)) = W0 := ⟨_, rfl⟩
  have hsz : W0.heap.size = g + 2 := by rw [← hW0]; simp [hg]
  have hB0 : Below g w W0 := by rw [← hW0, ← hg]; exact ((Below.refl _ w).alloc (Nat.le_refl _) _).alloc (by simp) _
  have c0 : W0.cell? ⟨g, 0, none⟩ = some (.int .i64 0) ∧ W0.frozen? ⟨g, 0, none⟩ = false := by rw [← hW0, ← hg]; exact ⟨((Boxed.new w 3 _).alloc _).cell, ((Boxed.new w 3 _).alloc _).frozen⟩
  have c1 : W0.cell? ⟨g + 1, 0, none⟩ = some (.slice (some ⟨b, off + at_, none⟩) k (cap - at_)) := by
    rw [← hW0, ← hg]
    have := Boxed.new (w.alloc (Obj.cells #[Value.int IntKind.i64 0] 3)) 26 (Value.slice (some { block := b, off := off + at_ }) k (cap - at_))
    rw [World.size_alloc] at this
    exact this.cell
  rw [hW0, hg]
  have hR : Reach (g + 1) b (off + at_) k (cap - at_) (fun j v => s[at_ + j]? = some v) W0 := ⟨c1, fun j hj => by
    have hl : at_ + j < s.length := by have := HS.out; omega
    exact ⟨s[at_ + j], (hB0.cell (p := ⟨b, off + at_ + j, none⟩) (by simp <;> omega)).trans (by rw [Nat.add_assoc]; exact HC.out _ hl), List.getElem?_eq_getElem hl⟩⟩
  refine wpIn_rangeFunc_ownG hro hd (gf := 258) (lb := #[.pointer (some ⟨g + 1, 0, none⟩)]) rfl trivial (enters_of Tryz.func258 (by kernel_rfl) rfl)
    (stops Fence.wide (m - 1) trivial hro (by omega) (g + 1) b (off + at_) k (cap - at_) (fun j v => s[at_ + j]? = some v) (by omega) W0 (by omega) (by omega) hR) (fun h k r => k (h r)) (fun W l o o' _ h ho _ => reach_putObj l o o' h ho) (Below.refl _ _) (fun _ => rfl)
    (GetI g k w) (fun _ _ _ => False) ?hI (fun _ _ _ _ _ hs _ _ => hs) ⟨c0, hB0⟩
    (fun x => { tmps := #[Value.slice (some { block := b, off := off }) len cap, Value.int IntKind.i64 ↑at_, Value.int IntKind.i64 ↑k,
          undef, undef, undef, Value.int IntKind.i64 0, Value.int IntKind.i64 0,
          Value.pointer (some { block := g, off := 0 }), undef, .int .u8 (x.2.toNat : Int), Value.int IntKind.i64 ↑k,
          Value.bool true, Value.bool false, Value.bool false, Value.int IntKind.i64 ↑at_,
          Value.bool (decide ((at_ : Int) < 0)), Value.bool (decide ((at_ : Int) < 0)), Value.bool (decide ((at_ : Int) < 0)),
          Value.int IntKind.i64 ↑at_, Value.slice (some { block := b, off := off }) len cap, Value.int IntKind.i64 ↑len,
          Value.bool false, Value.bool (decide ((at_ : Int) < 0)), Value.slice (some { block := b, off := off }) len cap,
          Value.int IntKind.i64 ↑len, Value.int IntKind.i64 ↑at_, Value.int IntKind.i64 (↑len - ↑at_),
          Value.int IntKind.i64 ↑k, Value.bool (decide ((len : Int) - at_ < k)),
          Value.slice (some { block := b, off := off }) len cap, Value.int IntKind.i64 ↑at_, Value.int IntKind.i64 ↑at_,
          Value.int IntKind.i64 ↑k, Value.int IntKind.i64 (↑at_ + ↑k),
          Value.slice (some { block := b, off := off + at_ }) k (cap - at_),
          Value.func (Fn.func 258) #[] #[Value.pointer (some { block := g + 1, off := 0 })], .int .i64 (x.1.val : Int), .int .u8 (x.2.toNat : Int),
          undef, undef, undef, undef, undef, undef], defers := [] }) ?assign ?body ?done ?stop
  case hI => exact OwnFrom.and (Own.from (fun s A B row hs hg hr => ⟨cell_kept hs.1 hg hr, (frozen_kept hs.1 hg hr).trans hs.2⟩) _) (ownFrom_below (by omega) (by omega))
  case assign =>
    intro l x W K hK
    gi_wp2
    exact hK
  case body =>
    rintro l pre ⟨⟨i, hi⟩, v⟩ W ⟨⟨hcn, hfn⟩, hB⟩ hlt
    have hv0 : (0 : Int) ≤ v.toNat := by omega
    have hv1 : (v.toNat : Int) ≤ 255 := by have := v.toNat_lt; omega
    have hA0 : (0 : Int) ≤ accN pre := by omega
    have hA1 : (accN pre : Int) ≤ 16777215 := by
      have h3 : pre.length ≤ 3 := by omega
      have h4 := accN_lt pre
      have h5 : 256 ^ pre.length ≤ 256 ^ 3 := Nat.pow_le_pow_right (by omega) h3
      omega
    have hor := or_byte (accN pre) v.toNat (by omega) (by omega)
    have HO := Lib.hid hor; clear hor
    dsimp only
    gi_wp2
    rw [HO.out]
    refine ⟨(KeepsOthers.setCell _ _ _).from _, fun hR => ⟨(World.cell?_setCell_other W _ _ _ (by simp)).trans hR.1, fun j hj => ?_⟩, ⟨⟨?_, (World.frozen?_setCell _ _ _ _).trans hfn⟩, hB.setCell (p := ⟨g, 0, none⟩) (Nat.le_refl _) _⟩⟩
    · obtain ⟨v', hv', hV⟩ := hR.2 j hj
      exact ⟨v', (World.cell?_setCell_other W _ _ _ (by simp <;> omega)).trans hv', hV⟩
    · rw [accN_snoc]; exact World.cell?_setCell_same' W _ _ (by rw [hcn]; rfl)
  case done =>
    rintro D ys W hD ⟨hC, hl⟩ ⟨⟨h0, _⟩, hB⟩ hK
    have hD' : g + 2 ≤ D := by omega
    have hfin := accN_all hC hl (by have := HS.out; omega)
    have HF := Lib.hid hfin; clear hfin
    have HCm := Lib.hid hC; clear hC
    have HL := Lib.hid hl; clear hl
    gi_wp2
    refine ⟨by simp, .inl ⟨_, _, rfl, run_takeDeferred hK, ?_⟩⟩
    subst hg
    exact ⟨.tuple #[.int .i64 (accN ys : Nat), .int .i64 0], by simp [results, Tryz.f134, go_sem], by rw [HF.out], hB.trans (belowK_b (w := w) (by omega) W D _ _ (by omega) hK rfl rfl)⟩
  case stop =>
    rintro D c pre W _ _ h _
    exact h.elim
end Go.Proofs.YtafbidhbmfdlkaaGreatDoor
/-
  What code.Put and code.Get answer, in one word each, for every number, size, place and slice of bytes; slices of bytes, windows of them, and strings made of them.
-/
namespace Go.Proofs.YtafbidhbmfdlkaaGreatDoor
open Go.RowKit Go.Shelf
set_option maxRecDepth 100000

/-- The bytes of n, so many as k says, the lowest first. -/
def leB (k n : Nat) : List UInt8 := (List.range k).map (byteAt n)
theorem leB_length (k n : Nat) : (leB k n).length = k := by simp [leB]

theorem put_ok (n k : Nat) (h1 : 1 ≤ k) (h2 : k ≤ 4) (hm : n < 256 ^ k) (w : World) :
    Calls Tryz.prog 194 #[.int .i64 n, .int .i64 k] w fun e W' => e = .returned (.tuple #[.slice (some ⟨w.heap.size + 1, 0, none⟩) k k, .int .i64 0]) ∧ Holds W' (w.heap.size + 1) (leB k n) ∧ Below w.heap.size w W' ∧ w.heap.size + 1 < W'.heap.size :=
  (callsIn_wide.1 (put_in 3 (Nat.le_refl _) n k h1 h2 hm w)).mono fun e W' ⟨he, hc, hb, hs⟩ => ⟨he, fun i hi => by
    have hi' : i < k := by simpa [leB] using hi
    rw [hc i hi']; simp [leB], hb, hs⟩

theorem get_ok (b off len cap i k : Nat) (s : List UInt8) (hs : s.length = len) (hlc : len ≤ cap) (hcm : cap ≤ 9223372036854775807) (h1 : 1 ≤ k) (h2 : k ≤ 4) (hk : i + k ≤ len) (w : World) (hb : b < w.heap.size)
    (hc : ∀ i (h : i < s.length), w.cell? ⟨b, off + i, none⟩ = some (.int .u8 ((s[i]).toNat : Int))) :
    Calls Tryz.prog 134 #[.slice (some ⟨b, off, none⟩) len cap, .int .i64 i, .int .i64 k] w fun e W' => e = .returned (.tuple #[.int .i64 (leN ((s.drop i).take k) : Nat), .int .i64 0]) ∧ Below w.heap.size w W' :=
  callsIn_wide.1 (get_in 3 (Nat.le_refl _) b off len cap i k s hs hlc hcm h1 h2 hk w hb hc)

theorem byteAt_succ (n i : Nat) : byteAt n (i + 1) = byteAt (n / 256) i := by
  unfold byteAt; rw [Nat.pow_succ, Nat.mul_comm, ← Nat.div_div_eq_div_mul]
theorem leB_succ (k n : Nat) : leB (k + 1) n = byteAt n 0 :: leB k (n / 256) := by
  unfold leB
  rw [List.range_succ_eq_map, List.map_cons, List.map_map]
  congr 1
  apply List.map_congr_left
  intro i _
  exact byteAt_succ n i
theorem leN_leB : ∀ (k n : Nat), n < 256 ^ k → leN (leB k n) = n
  | 0, n, h => by simp at h; simp [leB, leN, h]
  | k + 1, n, h => by
    have h' : n / 256 < 256 ^ k := by rw [Nat.pow_succ] at h; omega
    rw [leB_succ, leN, leN_leB k _ h', byteAt_toNat]
    simp <;> omega
theorem get_bsl {w : World} {a : Option Addr} {len cap : Nat} {s : List UInt8} (h : Bsl w w.heap.size a len cap s) (i k : Nat) (h1 : 1 ≤ k) (h2 : k ≤ 4) (hk : i + k ≤ len) :
    Calls Tryz.prog 134 #[.slice a len cap, .int .i64 i, .int .i64 k] w fun e W' => e = .returned (.tuple #[.int .i64 (leN ((s.drop i).take k) : Nat), .int .i64 0]) ∧ Below w.heap.size w W' := by
  obtain ⟨e1, e2, e3, _, e5⟩ := h
  obtain ⟨b, off, rfl, hb, hc⟩ := e5 (by omega)
  exact get_ok b off len cap i k s e1 e2 (by unfold maxLen at e3; omega) h1 h2 hk w hb hc
end Go.Proofs.YtafbidhbmfdlkaaGreatDoor
/-
  Words for pointers by value (api.Ptr): five numbers; two of them compared; a row of them in memory.
-/
namespace Go.Proofs.YtafbidhbmfdlkaaGreatDoor
open Go.RowKit Go.Shelf
set_option maxRecDepth 100000

/-- A pointer: At, Birth, Iv, Tag, Sum. -/
abbrev Pt := Int × Nat × Nat × Nat × Nat
/-- The pointer as a value. -/
@[reducible] def ptV (p : Pt) : Value := .agg #[.int .i64 p.1, .int .u32 (p.2.1 : Int), .int .u32 (p.2.2.1 : Int), .int .u32 (p.2.2.2.1 : Int), .int .u32 (p.2.2.2.2 : Int)]
/-- Its cells. -/
def ptC (p : Pt) : List Value := [.int .i64 p.1, .int .u32 (p.2.1 : Int), .int .u32 (p.2.2.1 : Int), .int .u32 (p.2.2.2.1 : Int), .int .u32 (p.2.2.2.2 : Int)]
/-- Each of its numbers is one of its kind. -/
def WfP (p : Pt) : Prop := (-9223372036854775808 ≤ p.1 ∧ p.1 ≤ 9223372036854775807) ∧ p.2.1 < 4294967296 ∧ p.2.2.1 < 4294967296 ∧ p.2.2.2.1 < 4294967296 ∧ p.2.2.2.2 < 4294967296
/-- None. -/
abbrev p0 : Pt := (0, 0, 0, 0, 0)
theorem wf_p0 : WfP p0 := ⟨⟨by decide, by decide⟩, by decide, by decide, by decide, by decide⟩
/-- A pointer may be. -/
def MayP (p : Pt) : Prop := p = p0 ∨ ((12 ≤ p.1 ∧ p.1 < 256) ∧ 1 ≤ p.2.1 ∧ p.2.1 ≤ 16777215)
instance (p : Pt) : Decidable (MayP p) := by unfold MayP; exact inferInstance
theorem may_p0 : MayP p0 := .inl rfl

/-- Two pointers are the same just where their numbers are. -/
def eqP (p q : Pt) : Bool := decide (p = q)
theorem eqP_iff (p q : Pt) : eqP p q = true ↔ p = q := by simp [eqP]
theorem eqP_parts (p q : Pt) : eqP p q = ((p.1 == q.1) && (((p.2.1 : Nat) : Int) == ((q.2.1 : Nat) : Int) && (((p.2.2.1 : Nat) : Int) == ((q.2.2.1 : Nat) : Int) && (((p.2.2.2.1 : Nat) : Int) == ((q.2.2.2.1 : Nat) : Int) && ((p.2.2.2.2 : Nat) : Int) == ((q.2.2.2.2 : Nat) : Int))))) := by
  obtain ⟨a, b, c, d, e⟩ := p
  obtain ⟨a', b', c', d', e'⟩ := q
  rw [Bool.eq_iff_iff]
  simp [eqP]
  omega
theorem eqF_step {P : Program} {w : World} {d : Nat} {xs ys : Array Value} {f : Field} {fs : List Field} {a b : Value} {r R : Bool} (hn : f.name ≠ "_") (ha : (part f.type xs f.offset).run P w = .ok a w) (hb : (part f.type ys f.offset).run P w = .ok b w)
    (he : (Op.equalIn d f.type a b).run P w = .ok r w) (hr : (Op.eqFields d xs ys fs).run P w = .ok R w) : (Op.eqFields d xs ys (f :: fs)).run P w = .ok (r && R) w := by
  simp only [Op.eqFields, if_pos hn, Sem.run_bind, ha, hb, he, Result.andThen_ok]
  cases r <;> simp [hr]
theorem eqPt (p q : Pt) (w : World) : (Op.equalIn 10000 31 (ptV p) (ptV q)).run Tryz.prog w = .ok (eqP p q) w := by
  have hu : Tryz.prog.underlying 31 = some (.struct (Tryz.prog.fieldsOf 31)) := by kernel_rfl
  have hs : Tryz.prog.stoodInHeld 31 = false := by kernel_rfl
  obtain ⟨f0, f1, f2, f3, f4, hf, n0, n1, n2, n3, n4, t0, t1, t2, t3, t4, o0, o1, o2, o3, o4⟩ : ∃ f0 f1 f2 f3 f4 : Field, (Tryz.prog.fieldsOf 31).toList = [f0, f1, f2, f3, f4] ∧ f0.name ≠ "_" ∧ f1.name ≠ "_" ∧ f2.name ≠ "_" ∧ f3.name ≠ "_" ∧ f4.name ≠ "_" ∧ f0.type = 3 ∧ f1.type = 27 ∧ f2.type = 27 ∧ f3.type = 27 ∧ f4.type = 27 ∧ f0.offset = 0 ∧ f1.offset = 1 ∧ f2.offset = 2 ∧ f3.offset = 3 ∧ f4.offset = 4 :=
    ⟨_, _, _, _, _, rfl, by decide, by decide, by decide, by decide, by decide, rfl, rfl, rfl, rfl, rfl, rfl, rfl, rfl, rfl, rfl⟩
  rw [ptV, ptV, run_equalIn_struct w 9999 31 _ _ hu hs, hf]
  have pI : ∀ (cs : Array Value) (i : Nat) (v : Value) (_ : cs[i]? = some v) (w : World), (part 3 cs i).run Tryz.prog w = .ok v w := fun cs i v h w => run_part_plain w (by kernel_rfl) h
  have pU : ∀ (cs : Array Value) (i : Nat) (v : Value) (_ : cs[i]? = some v) (w : World), (part 27 cs i).run Tryz.prog w = .ok v w := fun cs i v h w => run_part_plain w (by kernel_rfl) h
  have eI : ∀ (a b : Int) (w : World), (Op.equalIn 9999 3 (.int .i64 a) (.int .i64 b)).run Tryz.prog w = .ok (a == b) w := fun a b w => run_equalIn_int w 9998 3 .i64 .i64 a b Tryz.underlying3
  have eU : ∀ (a b : Int) (w : World), (Op.equalIn 9999 27 (.int .u32 a) (.int .u32 b)).run Tryz.prog w = .ok (a == b) w := fun a b w => run_equalIn_int w 9998 27 .u32 .u32 a b Tryz.underlying27
  have nil : (Op.eqFields 9999 #[.int .i64 p.1, .int .u32 (p.2.1 : Int), .int .u32 (p.2.2.1 : Int), .int .u32 (p.2.2.2.1 : Int), .int .u32 (p.2.2.2.2 : Int)] #[.int .i64 q.1, .int .u32 (q.2.1 : Int), .int .u32 (q.2.2.1 : Int), .int .u32 (q.2.2.2.1 : Int), .int .u32 (q.2.2.2.2 : Int)] []).run Tryz.prog w = .ok true w := rfl
  have h4 := eqF_step n4 (by rw [t4, o4]; exact pU _ 4 _ rfl w) (by rw [t4, o4]; exact pU _ 4 _ rfl w) (by rw [t4]; exact eU _ _ w) nil
  have h3 := eqF_step n3 (by rw [t3, o3]; exact pU _ 3 _ rfl w) (by rw [t3, o3]; exact pU _ 3 _ rfl w) (by rw [t3]; exact eU _ _ w) h4
  have h2 := eqF_step n2 (by rw [t2, o2]; exact pU _ 2 _ rfl w) (by rw [t2, o2]; exact pU _ 2 _ rfl w) (by rw [t2]; exact eU _ _ w) h3
  have h1 := eqF_step n1 (by rw [t1, o1]; exact pU _ 1 _ rfl w) (by rw [t1, o1]; exact pU _ 1 _ rfl w) (by rw [t1]; exact eU _ _ w) h2
  have h0 := eqF_step n0 (by rw [t0, o0]; exact pI _ 0 _ rfl w) (by rw [t0, o0]; exact pI _ 0 _ rfl w) (by rw [t0]; exact eI _ _ w) h1
  rw [h0, eqP_parts, Bool.and_true]
/-- As the walk meets it. -/
theorem eqPt_lit (x : Int) (a b c d : Nat) (x' : Int) (a' b' c' d' : Nat) (w : World) : (Op.equalIn 10000 31 (.agg #[.int .i64 x, .int .u32 (a : Int), .int .u32 (b : Int), .int .u32 (c : Int), .int .u32 (d : Int)]) (.agg #[.int .i64 x', .int .u32 (a' : Int), .int .u32 (b' : Int), .int .u32 (c' : Int), .int .u32 (d' : Int)])).run Tryz.prog w = .ok (eqP (x, a, b, c, d) (x', a', b', c', d')) w := eqPt (x, a, b, c, d) (x', a', b', c', d') w
theorem eqPt_zero (x : Int) (a b c d : Nat) (w : World) : (Op.equalIn 10000 31 (.agg #[.int .i64 x, .int .u32 (a : Int), .int .u32 (b : Int), .int .u32 (c : Int), .int .u32 (d : Int)]) (.agg #[.int .i64 0, .int .u32 0, .int .u32 0, .int .u32 0, .int .u32 0])).run Tryz.prog w = .ok (eqP (x, a, b, c, d) p0) w := eqPt (x, a, b, c, d) p0 w

/-- A slice of pointers that lies below block B reads as L. -/
def Pts (w : World) (B : Nat) (a : Option Addr) (len cap : Nat) (L : List Pt) : Prop :=
  L.length = len ∧ len ≤ cap ∧ cap ≤ maxLen ∧ (a = none → cap = 0) ∧
    (0 < len → ∃ b off, a = some ⟨b, off, none⟩ ∧ b < B ∧ ∀ i (h : i < L.length), WfP L[i] ∧ ∀ j u, (ptC L[i])[j]? = some u → w.cell? ⟨b, off + i * 5 + j, none⟩ = some u)
theorem pts_nil (w : World) (B : Nat) : Pts w B none 0 0 [] := ⟨rfl, Nat.le_refl _, Nat.zero_le _, fun _ => rfl, fun h => absurd h (Nat.lt_irrefl _)⟩
section
variable {w w' : World} {B len cap : Nat} {a : Option Addr} {L : List Pt}
theorem Pts.below (h : Pts w B a len cap L) (hb : Below B w w') : Pts w' B a len cap L := by
  obtain ⟨h1, h2, h3, h4, h5⟩ := h
  refine ⟨h1, h2, h3, h4, fun hl => ?_⟩
  obtain ⟨b, off, e, hlt, hc⟩ := h5 hl
  exact ⟨b, off, e, hlt, fun i hi => ⟨(hc i hi).1, fun j u hu => (hb.cell (p := ⟨b, off + i * 5 + j, none⟩) hlt).trans ((hc i hi).2 j u hu)⟩⟩
theorem Pts.more {B' : Nat} (h : Pts w B a len cap L) (hB : B ≤ B') : Pts w B' a len cap L := by
  obtain ⟨h1, h2, h3, h4, h5⟩ := h
  refine ⟨h1, h2, h3, h4, fun hl => ?_⟩
  obtain ⟨b, off, e, hlt, hc⟩ := h5 hl
  exact ⟨b, off, e, by omega, hc⟩
theorem Pts.step (h : Pts w w.heap.size a len cap L) (hb : Below w.heap.size w w') : Pts w' w'.heap.size a len cap L := (h.below hb).more hb.size
theorem Pts.wf (h : Pts w B a len cap L) {p : Pt} (hp : p ∈ L) : WfP p := by
  obtain ⟨i, hi, rfl⟩ := List.getElem_of_mem hp
  obtain ⟨b, off, _, _, hc⟩ := h.2.2.2.2 (by rw [← h.1]; omega)
  exact (hc i hi).1
/-- The five cells of a pointer. -/
theorem Pts.cells (h : Pts w B a len cap L) (i : Nat) (hi : i < len) : ∃ b off, a = some ⟨b, off, none⟩ ∧ b < B ∧ WfP (L.getD i p0) ∧ w.cell? ⟨b, off + i * 5, none⟩ = some (.int .i64 (L.getD i p0).1) ∧ w.cell? ⟨b, off + i * 5 + 1, none⟩ = some (.int .u32 ((L.getD i p0).2.1 : Int)) ∧ w.cell? ⟨b, off + i * 5 + 2, none⟩ = some (.int .u32 ((L.getD i p0).2.2.1 : Int)) ∧
    w.cell? ⟨b, off + i * 5 + 3, none⟩ = some (.int .u32 ((L.getD i p0).2.2.2.1 : Int)) ∧ w.cell? ⟨b, off + i * 5 + 4, none⟩ = some (.int .u32 ((L.getD i p0).2.2.2.2 : Int)) := by
  obtain ⟨b, off, e, hb, hc⟩ := h.2.2.2.2 (by omega)
  have hl : i < L.length := by rw [h.1]; exact hi
  obtain ⟨hw, hx⟩ := hc i hl
  have hg : L.getD i p0 = L[i] := by rw [List.getD_eq_getElem?_getD, List.getElem?_eq_getElem hl]; rfl
  rw [hg]
  exact ⟨b, off, e, hb, hw, hx 0 _ rfl, hx 1 _ rfl, hx 2 _ rfl, hx 3 _ rfl, hx 4 _ rfl⟩
end
/-- The cells of pointers. -/
def ptCs (L : List Pt) : List Value := L.flatMap ptC
theorem ptCs_length : ∀ L : List Pt, (ptCs L).length = L.length * 5
  | [] => rfl
  | p :: L => by
    show (ptC p ++ ptCs L).length = _
    rw [List.length_append, ptCs_length L, List.length_cons]
    show 5 + _ = _
    omega
theorem ptCs_append (L M : List Pt) : ptCs (L ++ M) = ptCs L ++ ptCs M := by simp [ptCs]
theorem ptCs_get : ∀ (L : List Pt) (i : Nat) (h : i < L.length) (j : Nat) (u : Value), (ptC L[i])[j]? = some u → (ptCs L)[i * 5 + j]? = some u
  | p :: L, 0, _, j, u, hu => by
    show (ptC p ++ ptCs L)[_]? = _
    have hj : j < (ptC p).length := by
      rcases Nat.lt_or_ge j (ptC p).length with hj | hj
      · exact hj
      · rw [show ((p :: L)[0]) = p from rfl, List.getElem?_eq_none hj] at hu; cases hu
    rw [List.getElem?_append_left (by omega), Nat.zero_mul, Nat.zero_add]
    exact hu
  | p :: L, i + 1, h, j, u, hu => by
    show (ptC p ++ ptCs L)[_]? = _
    have hl : (ptC p).length = 5 := rfl
    rw [List.getElem?_append_right (by omega), hl, show (i + 1) * 5 + j - 5 = i * 5 + j by omega]
    exact ptCs_get L i (by simpa using h) j u hu
/-- A row of the call's own, of pointers. -/
def PRow (w : World) (base : Nat) (v : Value) (L : List Pt) : Prop := w.ownsRow base 31 5 v L.length (ptCs L) ∧ ∀ p ∈ L, WfP p
theorem PRow.pts {w : World} {base : Nat} {v : Value} {L : List Pt} (h : PRow w base v L) : ∃ a c, v = .slice a L.length c ∧ Pts w w.heap.size a L.length c L := by
  obtain ⟨⟨hl, ⟨rfl, h0⟩ | ⟨g, cap, cur, rfl, _, h3, h4, h5, h6, h7⟩⟩, hw⟩ := h
  · have : L = [] := List.eq_nil_of_length_eq_zero h0
    subst this
    exact ⟨none, 0, rfl, pts_nil _ _⟩
  · refine ⟨_, _, rfl, rfl, h4, h5, fun e => (by cases e), fun _ => ⟨g, 0, rfl, (Array.getElem?_eq_some_iff.1 h3).1, fun i hi => ⟨hw _ (List.getElem_mem hi), fun j u hu => ?_⟩⟩⟩
    have hg := ptCs_get L i hi j u hu
    have hj : i * 5 + j < L.length * 5 := by
      rcases Nat.lt_or_ge (i * 5 + j) (ptCs L).length with hj | hj
      · rw [ptCs_length] at hj; exact hj
      · rw [List.getElem?_eq_none hj] at hg; cases hg
    rw [Nat.zero_add, cell_of_row w g _ cur 31 (0, 0) h3, ← Array.getElem?_toList, ← hg, ← h7, List.getElem?_take_of_lt hj]
theorem PRow.below {w w' : World} {base : Nat} {v : Value} {L : List Pt} (h : PRow w base v L) (hb : Below w.heap.size w w') : PRow w' base v L := ⟨own_below h.1 hb, h.2⟩
theorem prow_nil (w : World) (base : Nat) : PRow w base (.slice none 0 0) [] := ⟨World.ownsRow_nil _ _ _ _, fun _ h => (by cases h)⟩
theorem PRow.mono {w : World} {B B' : Nat} {v : Value} {L : List Pt} (h : PRow w B v L) (hB : B' ≤ B) : PRow w B' v L := ⟨own_mono h.1 hB, h.2⟩
/-- The cells of a block that is a pointer. -/
theorem Blk.five {w : World} {g : Nat} {t : TypeId} {a : Int} {b c d e : Nat} (h : Blk w g t #[.int .i64 a, .int .u32 (b : Int), .int .u32 (c : Int), .int .u32 (d : Int), .int .u32 (e : Int)]) : w.cell? ⟨g, 0, none⟩ = some (.int .i64 a) ∧ w.cell? ⟨g, 1, none⟩ = some (.int .u32 (b : Int)) ∧ w.cell? ⟨g, 2, none⟩ = some (.int .u32 (c : Int)) ∧ w.cell? ⟨g, 3, none⟩ = some (.int .u32 (d : Int)) ∧ w.cell? ⟨g, 4, none⟩ = some (.int .u32 (e : Int)) :=
  ⟨h.cell 0, h.cell 1, h.cell 2, h.cell 3, h.cell 4⟩
/-- Five cells are written. -/
@[reducible] def set5 (w : World) (g : Nat) (v0 v1 v2 v3 v4 : Value) : World := ((((w.setCell ⟨g, 0, none⟩ v0).setCell ⟨g, 1, none⟩ v1).setCell ⟨g, 2, none⟩ v2).setCell ⟨g, 3, none⟩ v3).setCell ⟨g, 4, none⟩ v4
theorem Blk.set5 {w : World} {g : Nat} {t : TypeId} {u0 u1 u2 u3 u4 : Value} (h : Blk w g t #[u0, u1, u2, u3, u4]) (v0 v1 v2 v3 v4 : Value) : Blk (set5 w g v0 v1 v2 v3 v4) g t #[v0, v1, v2, v3, v4] :=
  ((((h.set_ 0 v0).set_ 1 v1).set_ 2 v2).set_ 3 v3).set_ 4 v4
theorem below_set5 {B : Nat} {a w : World} {g : Nat} (h : Below B a w) (hg : B ≤ g) (v0 v1 v2 v3 v4 : Value) : Below B a (set5 w g v0 v1 v2 v3 v4) :=
  ((((h.setCell (p := ⟨g, 0, none⟩) hg v0).setCell (p := ⟨g, 1, none⟩) hg v1).setCell (p := ⟨g, 2, none⟩) hg v2).setCell (p := ⟨g, 3, none⟩) hg v3).setCell (p := ⟨g, 4, none⟩) hg v4
theorem only_set5 {a w : World} {g : Nat} (h : a.grownBy w (some g)) (v0 v1 v2 v3 v4 : Value) : a.grownBy (set5 w g v0 v1 v2 v3 v4) (some g) :=
  only_setCell (only_setCell (only_setCell (only_setCell (only_setCell h (.inl rfl) v0) (.inl rfl) v1) (.inl rfl) v2) (.inl rfl) v3) (.inl rfl) v4
end Go.Proofs.YtafbidhbmfdlkaaGreatDoor
/-
  A row of the call's own that holds a text, and is written byte by byte.
-/
namespace Go.Proofs.YtafbidhbmfdlkaaGreatDoor
open Go.RowKit Go.Shelf
set_option maxRecDepth 100000

/-- A row of the call's own that holds a text. -/
def RowI (W : World) (g len cap : Nat) (t : List UInt8) : Prop := ∃ cur : Array Value, Blk W g 5 cur ∧ cur.size = cap ∧ t.length = len ∧ len ≤ cap ∧ cur.toList.take len = vals t
theorem RowI.set_ {W : World} {g len cap : Nat} {t : List UInt8} (h : RowI W g len cap t) {j : Nat} (_hj : j < len) (y : UInt8) : RowI (W.setCell ⟨g, j, none⟩ (.int .u8 (y.toNat : Int))) g len cap (t.set j y) := by
  obtain ⟨cur, hb, hs, ht, hl, hc⟩ := h
  refine ⟨_, hb.set_ j _, by simpa using hs, by rw [List.length_set]; exact ht, hl, ?_⟩
  rw [Array.toList_setIfInBounds, List.take_set, hc, vals, vals, List.map_set]
theorem RowI.below {W W1 : World} {g len cap B : Nat} {t : List UInt8} (h : RowI W g len cap t) (hb : Below B W W1) (hg : g < B) : RowI W1 g len cap t := by
  obtain ⟨cur, h1, h2⟩ := h
  exact ⟨cur, h1.below hb hg, h2⟩
end Go.Proofs.YtafbidhbmfdlkaaGreatDoor
/-
  ptr.mayBe, ptr.put and ptr.get, whatever pointer and whichever sixteen bytes they are handed; nothing that was there is written.
-/
namespace Go.Proofs.YtafbidhbmfdlkaaGreatDoor
open Go.RowKit Go.Shelf
set_option maxRecDepth 100000

/-- The sizes lie where the program's initialiser laid them. -/
def Szs (w : World) : Prop := 0 < w.heap.size ∧ w.cell? ⟨0, 0, none⟩ = some (.int .i64 1) ∧ w.cell? ⟨0, 1, none⟩ = some (.int .i64 3) ∧ w.cell? ⟨0, 2, none⟩ = some (.int .i64 4) ∧ w.cell? ⟨0, 3, none⟩ = some (.int .i64 4) ∧ w.cell? ⟨0, 4, none⟩ = some (.int .i64 4)
theorem Szs.below {B : Nat} {w w' : World} (h : Szs w) (hb : Below B w w') (hB : 0 < B) : Szs w' := by
  obtain ⟨h0, h1, h2, h3, h4, h5⟩ := h
  exact ⟨Nat.lt_of_lt_of_le h0 hb.size, (hb.cell (p := ⟨0, 0, none⟩) hB).trans h1, (hb.cell (p := ⟨0, 1, none⟩) hB).trans h2, (hb.cell (p := ⟨0, 2, none⟩) hB).trans h3, (hb.cell (p := ⟨0, 3, none⟩) hB).trans h4, (hb.cell (p := ⟨0, 4, none⟩) hB).trans h5⟩
theorem Szs.step {w w' : World} (h : Szs w) (hb : Below w.heap.size w w') : Szs w' := h.below hb h.1

theorem szIdx0 (W : World) : (Instr.index 253 (.agg #[.int .i64 1, .int .i64 3, .int .i64 4, .int .i64 4, .int .i64 4]) (.int .i64 0)).run Tryz.prog W = .ok (.int .i64 1) W := by kernel_rfl
theorem szIdx1 (W : World) : (Instr.index 253 (.agg #[.int .i64 1, .int .i64 3, .int .i64 4, .int .i64 4, .int .i64 4]) (.int .i64 1)).run Tryz.prog W = .ok (.int .i64 3) W := by kernel_rfl
theorem szIdx2 (W : World) : (Instr.index 253 (.agg #[.int .i64 1, .int .i64 3, .int .i64 4, .int .i64 4, .int .i64 4]) (.int .i64 2)).run Tryz.prog W = .ok (.int .i64 4) W := by kernel_rfl
theorem szIdx3 (W : World) : (Instr.index 253 (.agg #[.int .i64 1, .int .i64 3, .int .i64 4, .int .i64 4, .int .i64 4]) (.int .i64 3)).run Tryz.prog W = .ok (.int .i64 4) W := by kernel_rfl
theorem szIdx4 (W : World) : (Instr.index 253 (.agg #[.int .i64 1, .int .i64 3, .int .i64 4, .int .i64 4, .int .i64 4]) (.int .i64 4)).run Tryz.prog W = .ok (.int .i64 4) W := by kernel_rfl
/-- A pointer's bytes. -/
def bytesP (p : Pt) : List UInt8 := leB 1 p.1.toNat ++ leB 3 p.2.1 ++ leB 4 p.2.2.1 ++ leB 4 p.2.2.2.1 ++ leB 4 p.2.2.2.2
theorem bytesP_length (p : Pt) : (bytesP p).length = 16 := by simp [bytesP, leB_length]
/-- The pointer whose bytes these are. -/
def getP (s : List UInt8) : Pt := (((leN ((s.drop 0).take 1) : Nat) : Int), leN ((s.drop 1).take 3), leN ((s.drop 4).take 4), leN ((s.drop 8).take 4), leN ((s.drop 12).take 4))
theorem leN_le (s : List UInt8) (i k : Nat) : leN ((s.drop i).take k) < 256 ^ k :=
  Nat.lt_of_lt_of_le (leN_lt _) (Nat.pow_le_pow_right (by omega) (by simp; omega))
theorem wf_getP (s : List UInt8) : WfP (getP s) := by
  have h0 := leN_le s 0 1
  have h1 := leN_le s 1 3
  have h2 := leN_le s 4 4
  have h3 := leN_le s 8 4
  have h4 := leN_le s 12 4
  refine ⟨⟨?_, ?_⟩, ?_, ?_, ?_, ?_⟩ <;> simp only [getP] <;> omega
/-- A pointer that may be has numbers that have room. -/
theorem MayP.room {p : Pt} (h : MayP p) : (0 ≤ p.1 ∧ p.1 < 256) ∧ p.2.1 < 16777216 := by
  rcases h with rfl | ⟨⟨h1, h2⟩, h3, h4⟩
  · decide
  · omega
theorem getP_bytesP {p : Pt} (h : MayP p) (hw : WfP p) : getP (bytesP p) = p := by
  obtain ⟨⟨h1, h2⟩, h3⟩ := h.room
  obtain ⟨_, _, h4, h5, h6⟩ := hw
  obtain ⟨a, b, c, d, e⟩ := p
  dsimp only at h1 h2 h3 h4 h5 h6
  have e0 : ((bytesP (a, b, c, d, e)).drop 0).take 1 = leB 1 a.toNat := by simp [bytesP, leB_length]
  have l1 := leB_length 1 a.toNat
  have l2 := leB_length 3 b
  have l3 := leB_length 4 c
  have l4 := leB_length 4 d
  have l5 := leB_length 4 e
  have cut : ∀ (A B C : List UInt8) (i k : Nat), A.length = i → B.length = k → ((A ++ (B ++ C)).drop i).take k = B := fun A B C i k h1 h2 => by
    subst h1; subst h2; simp
  have e1 : ((bytesP (a, b, c, d, e)).drop 1).take 3 = leB 3 b := by
    have := cut (leB 1 a.toNat) (leB 3 b) (leB 4 c ++ leB 4 d ++ leB 4 e) 1 3 l1 l2
    simpa [bytesP] using this
  have e2 : ((bytesP (a, b, c, d, e)).drop 4).take 4 = leB 4 c := by
    have := cut (leB 1 a.toNat ++ leB 3 b) (leB 4 c) (leB 4 d ++ leB 4 e) 4 4 (by simp [leB_length]) l3
    simpa [bytesP] using this
  have e3 : ((bytesP (a, b, c, d, e)).drop 8).take 4 = leB 4 d := by
    have := cut (leB 1 a.toNat ++ leB 3 b ++ leB 4 c) (leB 4 d) (leB 4 e) 8 4 (by simp [leB_length]) l4
    simpa [bytesP] using this
  have e4 : ((bytesP (a, b, c, d, e)).drop 12).take 4 = leB 4 e := by
    have := cut (leB 1 a.toNat ++ leB 3 b ++ leB 4 c ++ leB 4 d) (leB 4 e) [] 12 4 (by simp [leB_length]) l5
    simpa [bytesP] using this
  rw [getP, e0, e1, e2, e3, e4, leN_leB 1 _ (by omega), leN_leB 3 _ (by omega), leN_leB 4 _ (by omega), leN_leB 4 _ (by omega), leN_leB 4 _ (by omega)]
  have : ((a.toNat : Nat) : Int) = a := by omega
  rw [this]
theorem isTaken_any (a : Int) (w : World) : Calls Tryz.prog 197 #[.int .i64 a] w fun e w' => e = .returned (.bool (decide (12 ≤ a ∧ a < 256))) ∧ w = w' := by
  by_cases h : 12 ≤ a
  · by_cases h2 : a < 256
    · rw [decide_eq_true (And.intro h h2)]
      go_enter Tryz.func197, Tryz.ntmps197
      go_wp2_with fail
      go_ret
      exact ⟨rfl, rfl⟩
    · rw [decide_eq_false (fun hh : 12 ≤ a ∧ a < 256 => h2 hh.2)]
      go_enter Tryz.func197, Tryz.ntmps197
      go_wp2_with fail
      go_ret
      exact ⟨rfl, rfl⟩
  · rw [decide_eq_false (fun hh : 12 ≤ a ∧ a < 256 => h hh.1)]
    go_enter Tryz.func197, Tryz.ntmps197
    go_wp2_with fail
    go_ret
    exact ⟨rfl, rfl⟩
theorem isSync_any (b : Nat) (w : World) : Calls Tryz.prog 198 #[.int .u32 (b : Int)] w fun e w' => e = .returned (.bool (decide (1 ≤ b ∧ b ≤ 16777215))) ∧ w = w' := by
  by_cases h : 1 ≤ b
  · by_cases h2 : b ≤ 16777215
    · rw [decide_eq_true (And.intro h h2)]
      have i1 : (1 : Int) ≤ (b : Int) := by omega
      have i2 : (b : Int) ≤ 16777215 := by omega
      go_enter Tryz.func198, Tryz.ntmps198
      go_wp2_with fail
      go_ret
      exact ⟨rfl, rfl⟩
    · rw [decide_eq_false (fun hh : 1 ≤ b ∧ b ≤ 16777215 => h2 hh.2)]
      have i1 : (1 : Int) ≤ (b : Int) := by omega
      have i2 : ¬ (b : Int) ≤ 16777215 := by omega
      go_enter Tryz.func198, Tryz.ntmps198
      go_wp2_with fail
      go_ret
      exact ⟨rfl, rfl⟩
  · rw [decide_eq_false (fun hh : 1 ≤ b ∧ b ≤ 16777215 => h hh.1)]
    have i1 : ¬ (1 : Int) ≤ (b : Int) := by omega
    go_enter Tryz.func198, Tryz.ntmps198
    go_wp2_with fail
    go_ret
    exact ⟨rfl, rfl⟩
theorem mayBe_any (p : Pt) (w : World) : Calls Tryz.prog 133 #[ptV p] w fun e w' => e = .returned (.bool (decide (MayP p))) ∧ Below w.heap.size w w' := by
  obtain ⟨a, b, c, d, e⟩ := p
  have heq := eqPt_zero a b c d e
  by_cases h0 : eqP (a, b, c, d, e) p0 = true
  · have hm : decide (MayP (a, b, c, d, e)) = true := decide_eq_true (.inl ((eqP_iff _ _).1 h0))
    rw [hm]
    rw [h0] at heq
    go_enter Tryz.func133, Tryz.ntmps133
    go_wp2_with fail
    go_ret
    exact ⟨rfl, (Below.refl _ w).alloc (Nat.le_refl _) _⟩
  · have h0' : eqP (a, b, c, d, e) p0 = false := by simpa using h0
    rw [h0'] at heq
    have hne : (a, b, c, d, e) ≠ p0 := fun hh => h0 ((eqP_iff _ _).2 hh)
    by_cases h1 : 12 ≤ a ∧ a < 256
    · have hm : decide (MayP (a, b, c, d, e)) = decide (1 ≤ b ∧ b ≤ 16777215) := by
        rw [decide_eq_decide]
        exact ⟨fun hh => (hh.resolve_left hne).2, fun hh => .inr ⟨h1, hh⟩⟩
      rw [hm]
      have ht := isTaken_any a
      rw [decide_eq_true h1] at ht
      have hs := isSync_any b
      obtain ⟨r, hr⟩ : ∃ r, decide (1 ≤ b ∧ b ≤ 16777215) = r := ⟨_, rfl⟩
      rw [hr] at hs ⊢
      clear hm hr h1 hne h0 h0'
      go_enter Tryz.func133, Tryz.ntmps133
      go_wp2_with (first | (go_at_call 197; refine (ht _).mono ?_; rintro e w' ⟨rfl, rfl⟩) | (go_at_call 198; refine (hs _).mono ?_; rintro e w' ⟨rfl, rfl⟩))
      go_ret
      exact ⟨rfl, (Below.refl _ w).alloc (Nat.le_refl _) _⟩
    · have hm : decide (MayP (a, b, c, d, e)) = false := decide_eq_false fun hh => h1 (hh.resolve_left hne).1
      rw [hm]
      have ht := isTaken_any a
      rw [decide_eq_false h1] at ht
      clear hm h1 hne h0 h0'
      go_enter Tryz.func133, Tryz.ntmps133
      go_wp2_with (go_at_call 197; refine (ht _).mono ?_; rintro e w' ⟨rfl, rfl⟩)
      go_ret
      exact ⟨rfl, (Below.refl _ w).alloc (Nat.le_refl _) _⟩
end Go.Proofs.YtafbidhbmfdlkaaGreatDoor
/-
  ptr.put: the bytes of a pointer whose numbers have room, in a row of the call's own.
-/
namespace Go.Proofs.YtafbidhbmfdlkaaGreatDoor
open Go.RowKit Go.Shelf
set_option maxRecDepth 100000

/-- make([]byte, 0, 16). -/
theorem make_room (n : Nat) (hn : n ≤ 1000000) (W : World) : (Instr.makeSlice 26 (.int .i64 0) (.int .i64 (n : Int))).run Tryz.prog W = .ok (.slice (some ⟨W.heap.size, 0, none⟩) 0 n) (W.alloc (.cells (Array.replicate n (.int .u8 0)) 5)) := by
  obtain ⟨i0, hi, hz0, hz1, hz2⟩ := info_parts infoU8
  have hr := run_make (P := Tryz.prog) W 26 5 i0 (.int .u8 0) Tryz.underlying26 hi hz0 .i64 .i64 0 n (by omega) (by omega) (by rw [hz2]; omega) (by omega)
  rw [hz1] at hr
  simp only [Int.toNat_natCast] at hr
  have e : madeCells (Value.int .u8 0).cells (n * 1) = Array.replicate n (Value.int .u8 0) := by
    apply Array.ext
    · simp [size_madeCells]
    · intro i h1 h2
      simp [madeCells, Value.cells, Nat.mod_one]
  rw [e] at hr
  exact hr
theorem own_room0 (w : World) (n : Nat) (hn : n ≤ 1000000) : (w.alloc (.cells (Array.replicate n (.int .u8 0)) 5)).ownsRow w.heap.size 5 1 (.slice (some ⟨w.heap.size, 0, none⟩) 0 n) 0 (vals []) :=
  ⟨rfl, .inr ⟨w.heap.size, n, _, rfl, Nat.le_refl _, heap_alloc_new w _, Nat.zero_le _, by unfold maxLen; omega, by simp, rfl⟩⟩
/-- The bytes of the first numbers. -/
def putTo (p : Pt) : Nat → List UInt8
  | 0 => []
  | 1 => leB 1 p.1.toNat
  | 2 => leB 1 p.1.toNat ++ leB 3 p.2.1
  | 3 => leB 1 p.1.toNat ++ leB 3 p.2.1 ++ leB 4 p.2.2.1
  | 4 => leB 1 p.1.toNat ++ leB 3 p.2.1 ++ leB 4 p.2.2.1 ++ leB 4 p.2.2.2.1
  | _ => bytesP p
/-- How many bytes the first numbers have. -/
def stP : Nat → Nat
  | 0 => 0
  | 1 => 1
  | 2 => 4
  | 3 => 8
  | 4 => 12
  | _ => 16
set_option maxHeartbeats 1000000 in
theorem put_any (p : Pt) (hw : WfP p) (hroom : (0 ≤ p.1 ∧ p.1 < 256) ∧ p.2.1 < 16777216) (w : World) (hz : Szs w) : Calls Tryz.prog 201 #[ptV p] w (OwnV 16 (bytesP p) w) := by
  obtain ⟨a, b, c, d, e⟩ := p
  obtain ⟨_, _, h4, h5, h6⟩ := hw
  obtain ⟨⟨h1, h2⟩, h3⟩ := hroom
  dsimp only at h1 h2 h3 h4 h5 h6
  obtain ⟨A, rfl⟩ := Int.eq_ofNat_of_zero_le h1
  have i1 : (0 : Int) ≤ (b : Int) := by omega
  have i2 : (b : Int) ≤ 4294967295 := by omega
  have i3 : (0 : Int) ≤ (c : Int) := by omega
  have i4 : (c : Int) ≤ 4294967295 := by omega
  have i5 : (0 : Int) ≤ (d : Int) := by omega
  have i6 : (d : Int) ≤ 4294967295 := by omega
  have i7 : (0 : Int) ≤ (e : Int) := by omega
  have i8 : (e : Int) ≤ 4294967295 := by omega
  have hmk : ∀ W : World, (Instr.makeSlice 26 (.int .i64 0) (.int .i64 16)).run Tryz.prog W = _ := make_room 16 (by omega)
  have HZ := Lib.hid hz; clear hz
  obtain ⟨g, hg⟩ : ∃ g, w.heap.size = g := ⟨_, rfl⟩
  have HG := Lib.hid hg
  have hz3 := HZ.out.2
  obtain ⟨z0, z1, z2, z3, z4⟩ := hz3
  have y0 : ∀ o1 o2 o3 : Obj, (((w.alloc o1).alloc o2).alloc o3).cell? ⟨0, 0, none⟩ = some (.int .i64 1) := fun o1 o2 o3 => (HZ.out.step (below_alloc3' w o1 o2 o3)).2.1
  have y1 : ∀ o1 o2 o3 : Obj, (((w.alloc o1).alloc o2).alloc o3).cell? ⟨0, 1, none⟩ = some (.int .i64 3) := fun o1 o2 o3 => (HZ.out.step (below_alloc3' w o1 o2 o3)).2.2.1
  have y2 : ∀ o1 o2 o3 : Obj, (((w.alloc o1).alloc o2).alloc o3).cell? ⟨0, 2, none⟩ = some (.int .i64 4) := fun o1 o2 o3 => (HZ.out.step (below_alloc3' w o1 o2 o3)).2.2.2.1
  have y3 : ∀ o1 o2 o3 : Obj, (((w.alloc o1).alloc o2).alloc o3).cell? ⟨0, 3, none⟩ = some (.int .i64 4) := fun o1 o2 o3 => (HZ.out.step (below_alloc3' w o1 o2 o3)).2.2.2.2.1
  have y4 : ∀ o1 o2 o3 : Obj, (((w.alloc o1).alloc o2).alloc o3).cell? ⟨0, 4, none⟩ = some (.int .i64 4) := fun o1 o2 o3 => (HZ.out.step (below_alloc3' w o1 o2 o3)).2.2.2.2.2
  clear z0 z1 z2 z3 z4
  go_enter Tryz.func201, Tryz.ntmps201
  go_wp2_with fail
  clear y0 y1 y2 y3 y4
  go_loopw [4, 26] (fun v i wr => ∃ j : Nat, j ≤ 5 ∧ i = .int .i64 j ∧ wr.ownsRow (g + 2) 5 1 v (stP j) (vals (putTo (A, b, c, d, e) j)) ∧ Below g w wr ∧ Blk wr (g + 1) 253 #[.int .i64 (A : Int), .int .i64 (b : Int), .int .i64 (c : Int), .int .i64 (d : Int), .int .i64 (e : Int)] ∧ g + 3 ≤ wr.heap.size)
    (fun _ i _ => 5 - (intOf i).toNat)
  case atStart =>
    have hz2 : ((w.alloc (Obj.cells #[Value.int IntKind.i64 (A : Int), Value.int IntKind.u32 (b : Int), Value.int IntKind.u32 (c : Int), Value.int IntKind.u32 (d : Int), Value.int IntKind.u32 (e : Int)] 31)).alloc (Obj.cells #[Value.int IntKind.i64 (A : Int), Value.int IntKind.i64 (b : Int), Value.int IntKind.i64 (c : Int), Value.int IntKind.i64 (d : Int), Value.int IntKind.i64 (e : Int)] 253)).heap.size = g + 2 := by simp [hg]
    have hz1 : (w.alloc (Obj.cells #[Value.int IntKind.i64 (A : Int), Value.int IntKind.u32 (b : Int), Value.int IntKind.u32 (c : Int), Value.int IntKind.u32 (d : Int), Value.int IntKind.u32 (e : Int)] 31)).heap.size = g + 1 := by simp [hg]
    refine ⟨0, by omega, rfl, ?_, ?_, ?_, ?_⟩
    · have := own_room0 ((w.alloc (Obj.cells #[Value.int IntKind.i64 (A : Int), Value.int IntKind.u32 (b : Int), Value.int IntKind.u32 (c : Int), Value.int IntKind.u32 (d : Int), Value.int IntKind.u32 (e : Int)] 31)).alloc (Obj.cells #[Value.int IntKind.i64 (A : Int), Value.int IntKind.i64 (b : Int), Value.int IntKind.i64 (c : Int), Value.int IntKind.i64 (d : Int), Value.int IntKind.i64 (e : Int)] 253)) 16 (by omega)
      rw [hz2] at this
      exact this
    · have := below_alloc3' w (Obj.cells #[Value.int IntKind.i64 (A : Int), Value.int IntKind.u32 (b : Int), Value.int IntKind.u32 (c : Int), Value.int IntKind.u32 (d : Int), Value.int IntKind.u32 (e : Int)] 31) (Obj.cells #[Value.int IntKind.i64 (A : Int), Value.int IntKind.i64 (b : Int), Value.int IntKind.i64 (c : Int), Value.int IntKind.i64 (d : Int), Value.int IntKind.i64 (e : Int)] 253) (Obj.cells (Array.replicate 16 (Value.int IntKind.u8 0)) 5)
      rw [hg] at this
      exact this
    · have := (Blk.new (w.alloc (Obj.cells #[Value.int IntKind.i64 (A : Int), Value.int IntKind.u32 (b : Int), Value.int IntKind.u32 (c : Int), Value.int IntKind.u32 (d : Int), Value.int IntKind.u32 (e : Int)] 31)) 253 #[Value.int IntKind.i64 (A : Int), Value.int IntKind.i64 (b : Int), Value.int IntKind.i64 (c : Int), Value.int IntKind.i64 (d : Int), Value.int IntKind.i64 (e : Int)]).alloc (Obj.cells (Array.replicate 16 (Value.int IntKind.u8 0)) 5)
      rw [hz1] at this
      exact this
    · simp [hg]
  case round =>
    obtain ⟨j, hj, rfl, ho, hb, hn, hs⟩ := hrel
    have HO := Lib.hid ho; clear ho
    have HL := Lib.hid hb; clear hb
    have HN := Lib.hid hn; clear hn
    have HS := Lib.hid hs; clear hs
    obtain ⟨v, hv⟩ : ∃ v : Value, u4 = v := ⟨_, rfl⟩
    rw [hv] at HO ⊢
    clear hv
    have hcs : j = 0 ∨ j = 1 ∨ j = 2 ∨ j = 3 ∨ j = 4 ∨ j = 5 := by omega
    rcases hcs with rfl | rfl | rfl | rfl | rfl | rfl
    · have hn : wr.cell? ⟨g + 1, 0, none⟩ = some (.int .i64 ((A : Nat) : Int)) := HN.out.cell 0
      have hidx := szIdx0 wr
      have hput : ∀ (W : World), Calls Tryz.prog 194 #[.int .i64 (A : Nat), .int .i64 1] W _ := fun W => put_ok A 1 (by omega) (by omega) (by omega) W
      have HP := Lib.hid (hput wr); clear hput
      go_wp2_with fail
      refine HP.out.mono ?_
      rintro ev w1 ⟨rfl, hh, b1, s1⟩
      have HB1 := Lib.hid (bsl_of_holds (cap := 1) (leB_length 1 A) (Nat.le_refl _) (by unfold maxLen; omega) s1 hh)
      have HO1 := Lib.hid (own_below HO.out b1)
      have hsz1 : wr.heap.size ≤ w1.heap.size := b1.size
      have HS1 := Lib.hid hsz1; clear hsz1
      have HL1 := Lib.hid (HL.out.trans (b1.mono (by have := HS.out; omega)))
      have HN1 := Lib.hid (HN.out.below b1 HN.out.lt)
      clear hh s1 b1
      go_wp2_with (at_builtin
                   refine wpList_append_bsl rfl (.tmp 38) (.tmp 39) rfl (g + 2) v 0 _ rfl HO1.out w1.heap.size (some ⟨wr.heap.size + 1, 0, none⟩) 1 1 (leB 1 A) rfl HB1.out (by omega) (by have := HS.out; have := HS1.out; omega) ?_
                   intro v2 w2 h2 hgr2
                   have HO2 := Lib.hid h2; clear h2
                   have HGR := Lib.hid hgr2; clear hgr2)
      go_roundw
      case rel =>
        have hne : ∀ r, v.ownBlock = some r → g + 2 ≤ r := fun r hr => (HO1.out.lt r hr).1
        refine ⟨1, by omega, by first | rfl | go_num, ?_, ?_, ?_, ?_⟩
        · have := HO2.out; simpa [putTo, stP, bytesP] using this
        · exact HL1.out.grown HGR.out (by have := HS.out; have := HS1.out; omega) (fun r hr => by have := hne r hr; omega)
        · exact HN1.out.grown HGR.out (fun er => by have := hne (g + 1) er.symm; omega)
        · have := HGR.out.size; have := HS1.out; have := HS.out; omega
      case measure => simp [intOf]
    · have hn : wr.cell? ⟨g + 1, 1, none⟩ = some (.int .i64 ((b : Nat) : Int)) := HN.out.cell 1
      have hidx := szIdx1 wr
      have hput : ∀ (W : World), Calls Tryz.prog 194 #[.int .i64 (b : Nat), .int .i64 3] W _ := fun W => put_ok b 3 (by omega) (by omega) (by omega) W
      have HP := Lib.hid (hput wr); clear hput
      go_wp2_with fail
      refine HP.out.mono ?_
      rintro ev w1 ⟨rfl, hh, b1, s1⟩
      have HB1 := Lib.hid (bsl_of_holds (cap := 3) (leB_length 3 b) (Nat.le_refl _) (by unfold maxLen; omega) s1 hh)
      have HO1 := Lib.hid (own_below HO.out b1)
      have hsz1 : wr.heap.size ≤ w1.heap.size := b1.size
      have HS1 := Lib.hid hsz1; clear hsz1
      have HL1 := Lib.hid (HL.out.trans (b1.mono (by have := HS.out; omega)))
      have HN1 := Lib.hid (HN.out.below b1 HN.out.lt)
      clear hh s1 b1
      go_wp2_with (at_builtin
                   refine wpList_append_bsl rfl (.tmp 38) (.tmp 39) rfl (g + 2) v 1 _ rfl HO1.out w1.heap.size (some ⟨wr.heap.size + 1, 0, none⟩) 3 3 (leB 3 b) rfl HB1.out (by omega) (by have := HS.out; have := HS1.out; omega) ?_
                   intro v2 w2 h2 hgr2
                   have HO2 := Lib.hid h2; clear h2
                   have HGR := Lib.hid hgr2; clear hgr2)
      go_roundw
      case rel =>
        have hne : ∀ r, v.ownBlock = some r → g + 2 ≤ r := fun r hr => (HO1.out.lt r hr).1
        refine ⟨2, by omega, by first | rfl | go_num, ?_, ?_, ?_, ?_⟩
        · have := HO2.out; simpa [putTo, stP, bytesP] using this
        · exact HL1.out.grown HGR.out (by have := HS.out; have := HS1.out; omega) (fun r hr => by have := hne r hr; omega)
        · exact HN1.out.grown HGR.out (fun er => by have := hne (g + 1) er.symm; omega)
        · have := HGR.out.size; have := HS1.out; have := HS.out; omega
      case measure => simp [intOf]
    · have hn : wr.cell? ⟨g + 1, 2, none⟩ = some (.int .i64 ((c : Nat) : Int)) := HN.out.cell 2
      have hidx := szIdx2 wr
      have hput : ∀ (W : World), Calls Tryz.prog 194 #[.int .i64 (c : Nat), .int .i64 4] W _ := fun W => put_ok c 4 (by omega) (by omega) (by omega) W
      have HP := Lib.hid (hput wr); clear hput
      go_wp2_with fail
      refine HP.out.mono ?_
      rintro ev w1 ⟨rfl, hh, b1, s1⟩
      have HB1 := Lib.hid (bsl_of_holds (cap := 4) (leB_length 4 c) (Nat.le_refl _) (by unfold maxLen; omega) s1 hh)
      have HO1 := Lib.hid (own_below HO.out b1)
      have hsz1 : wr.heap.size ≤ w1.heap.size := b1.size
      have HS1 := Lib.hid hsz1; clear hsz1
      have HL1 := Lib.hid (HL.out.trans (b1.mono (by have := HS.out; omega)))
      have HN1 := Lib.hid (HN.out.below b1 HN.out.lt)
      clear hh s1 b1
      go_wp2_with (at_builtin
                   refine wpList_append_bsl rfl (.tmp 38) (.tmp 39) rfl (g + 2) v 4 _ rfl HO1.out w1.heap.size (some ⟨wr.heap.size + 1, 0, none⟩) 4 4 (leB 4 c) rfl HB1.out (by omega) (by have := HS.out; have := HS1.out; omega) ?_
                   intro v2 w2 h2 hgr2
                   have HO2 := Lib.hid h2; clear h2
                   have HGR := Lib.hid hgr2; clear hgr2)
      go_roundw
      case rel =>
        have hne : ∀ r, v.ownBlock = some r → g + 2 ≤ r := fun r hr => (HO1.out.lt r hr).1
        refine ⟨3, by omega, by first | rfl | go_num, ?_, ?_, ?_, ?_⟩
        · have := HO2.out; simpa [putTo, stP, bytesP] using this
        · exact HL1.out.grown HGR.out (by have := HS.out; have := HS1.out; omega) (fun r hr => by have := hne r hr; omega)
        · exact HN1.out.grown HGR.out (fun er => by have := hne (g + 1) er.symm; omega)
        · have := HGR.out.size; have := HS1.out; have := HS.out; omega
      case measure => simp [intOf]
    · have hn : wr.cell? ⟨g + 1, 3, none⟩ = some (.int .i64 ((d : Nat) : Int)) := HN.out.cell 3
      have hidx := szIdx3 wr
      have hput : ∀ (W : World), Calls Tryz.prog 194 #[.int .i64 (d : Nat), .int .i64 4] W _ := fun W => put_ok d 4 (by omega) (by omega) (by omega) W
      have HP := Lib.hid (hput wr); clear hput
      go_wp2_with fail
      refine HP.out.mono ?_
      rintro ev w1 ⟨rfl, hh, b1, s1⟩
      have HB1 := Lib.hid (bsl_of_holds (cap := 4) (leB_length 4 d) (Nat.le_refl _) (by unfold maxLen; omega) s1 hh)
      have HO1 := Lib.hid (own_below HO.out b1)
      have hsz1 : wr.heap.size ≤ w1.heap.size := b1.size
      have HS1 := Lib.hid hsz1; clear hsz1
      have HL1 := Lib.hid (HL.out.trans (b1.mono (by have := HS.out; omega)))
      have HN1 := Lib.hid (HN.out.below b1 HN.out.lt)
      clear hh s1 b1
      go_wp2_with (at_builtin
                   refine wpList_append_bsl rfl (.tmp 38) (.tmp 39) rfl (g + 2) v 8 _ rfl HO1.out w1.heap.size (some ⟨wr.heap.size + 1, 0, none⟩) 4 4 (leB 4 d) rfl HB1.out (by omega) (by have := HS.out; have := HS1.out; omega) ?_
                   intro v2 w2 h2 hgr2
                   have HO2 := Lib.hid h2; clear h2
                   have HGR := Lib.hid hgr2; clear hgr2)
      go_roundw
      case rel =>
        have hne : ∀ r, v.ownBlock = some r → g + 2 ≤ r := fun r hr => (HO1.out.lt r hr).1
        refine ⟨4, by omega, by first | rfl | go_num, ?_, ?_, ?_, ?_⟩
        · have := HO2.out; simpa [putTo, stP, bytesP] using this
        · exact HL1.out.grown HGR.out (by have := HS.out; have := HS1.out; omega) (fun r hr => by have := hne r hr; omega)
        · exact HN1.out.grown HGR.out (fun er => by have := hne (g + 1) er.symm; omega)
        · have := HGR.out.size; have := HS1.out; have := HS.out; omega
      case measure => simp [intOf]
    · have hn : wr.cell? ⟨g + 1, 4, none⟩ = some (.int .i64 ((e : Nat) : Int)) := HN.out.cell 4
      have hidx := szIdx4 wr
      have hput : ∀ (W : World), Calls Tryz.prog 194 #[.int .i64 (e : Nat), .int .i64 4] W _ := fun W => put_ok e 4 (by omega) (by omega) (by omega) W
      have HP := Lib.hid (hput wr); clear hput
      go_wp2_with fail
      refine HP.out.mono ?_
      rintro ev w1 ⟨rfl, hh, b1, s1⟩
      have HB1 := Lib.hid (bsl_of_holds (cap := 4) (leB_length 4 e) (Nat.le_refl _) (by unfold maxLen; omega) s1 hh)
      have HO1 := Lib.hid (own_below HO.out b1)
      have hsz1 : wr.heap.size ≤ w1.heap.size := b1.size
      have HS1 := Lib.hid hsz1; clear hsz1
      have HL1 := Lib.hid (HL.out.trans (b1.mono (by have := HS.out; omega)))
      have HN1 := Lib.hid (HN.out.below b1 HN.out.lt)
      clear hh s1 b1
      go_wp2_with (at_builtin
                   refine wpList_append_bsl rfl (.tmp 38) (.tmp 39) rfl (g + 2) v 12 _ rfl HO1.out w1.heap.size (some ⟨wr.heap.size + 1, 0, none⟩) 4 4 (leB 4 e) rfl HB1.out (by omega) (by have := HS.out; have := HS1.out; omega) ?_
                   intro v2 w2 h2 hgr2
                   have HO2 := Lib.hid h2; clear h2
                   have HGR := Lib.hid hgr2; clear hgr2)
      go_roundw
      case rel =>
        have hne : ∀ r, v.ownBlock = some r → g + 2 ≤ r := fun r hr => (HO1.out.lt r hr).1
        refine ⟨5, by omega, by first | rfl | go_num, ?_, ?_, ?_, ?_⟩
        · have := HO2.out; simpa [putTo, stP, bytesP] using this
        · exact HL1.out.grown HGR.out (by have := HS.out; have := HS1.out; omega) (fun r hr => by have := hne r hr; omega)
        · exact HN1.out.grown HGR.out (fun er => by have := hne (g + 1) er.symm; omega)
        · have := HGR.out.size; have := HS1.out; have := HS.out; omega
      case measure => simp [intOf]
    · go_wp2_with fail
      go_ret
      have := HO.out
      refine ⟨_, rfl, own_mono this (by have := HG.out; omega), ?_⟩
      rw [HG.out]
      exact HL.out
end Go.Proofs.YtafbidhbmfdlkaaGreatDoor
/-
  ptr.get: the pointer whose sixteen bytes these are.
-/
namespace Go.Proofs.YtafbidhbmfdlkaaGreatDoor
open Go.RowKit Go.Shelf
set_option maxRecDepth 100000

/-- The numbers that are there yet. -/
def numTo (n0 n1 n2 n3 n4 : Nat) : Nat → Array Value
  | 0 => #[.int .i64 0, .int .i64 0, .int .i64 0, .int .i64 0, .int .i64 0]
  | 1 => #[.int .i64 (n0 : Int), .int .i64 0, .int .i64 0, .int .i64 0, .int .i64 0]
  | 2 => #[.int .i64 (n0 : Int), .int .i64 (n1 : Int), .int .i64 0, .int .i64 0, .int .i64 0]
  | 3 => #[.int .i64 (n0 : Int), .int .i64 (n1 : Int), .int .i64 (n2 : Int), .int .i64 0, .int .i64 0]
  | 4 => #[.int .i64 (n0 : Int), .int .i64 (n1 : Int), .int .i64 (n2 : Int), .int .i64 (n3 : Int), .int .i64 0]
  | _ => #[.int .i64 (n0 : Int), .int .i64 (n1 : Int), .int .i64 (n2 : Int), .int .i64 (n3 : Int), .int .i64 (n4 : Int)]
/-- Where the next one stands. -/
def atP : Nat → Nat
  | 0 => 0
  | 1 => 1
  | 2 => 4
  | 3 => 8
  | 4 => 12
  | _ => 16
set_option maxHeartbeats 1000000 in
theorem get_any (a : Option Addr) (cap : Nat) (s : List UInt8) (w : World) (hB : Bsl w w.heap.size a 16 cap s) (hz : Szs w) : Calls Tryz.prog 132 #[.slice a 16 cap] w fun e w' => e = .returned (ptV (getP s)) ∧ Below w.heap.size w w' := by
  have l0 := leN_le s 0 1
  have l1 := leN_le s 1 3
  have l2 := leN_le s 4 4
  have l3 := leN_le s 8 4
  have l4 := leN_le s 12 4
  obtain ⟨P, hP⟩ : ∃ P, getP s = P := ⟨_, rfl⟩
  rw [hP]
  rw [getP] at hP
  obtain ⟨n0, h0⟩ : ∃ n, leN ((s.drop 0).take 1) = n := ⟨_, rfl⟩
  obtain ⟨n1, h1⟩ : ∃ n, leN ((s.drop 1).take 3) = n := ⟨_, rfl⟩
  obtain ⟨n2, h2⟩ : ∃ n, leN ((s.drop 4).take 4) = n := ⟨_, rfl⟩
  obtain ⟨n3, h3⟩ : ∃ n, leN ((s.drop 8).take 4) = n := ⟨_, rfl⟩
  obtain ⟨n4, h4⟩ : ∃ n, leN ((s.drop 12).take 4) = n := ⟨_, rfl⟩
  rw [h0, h1, h2, h3, h4] at hP
  rw [h0] at l0
  rw [h1] at l1
  rw [h2] at l2
  rw [h3] at l3
  rw [h4] at l4
  subst hP
  have i0 : (0 : Int) ≤ (n0 : Int) := by omega
  have j0 : (n0 : Int) ≤ 4294967295 := by omega
  have i1 : (0 : Int) ≤ (n1 : Int) := by omega
  have j1 : (n1 : Int) ≤ 4294967295 := by omega
  have i2 : (0 : Int) ≤ (n2 : Int) := by omega
  have j2 : (n2 : Int) ≤ 4294967295 := by omega
  have i3 : (0 : Int) ≤ (n3 : Int) := by omega
  have j3 : (n3 : Int) ≤ 4294967295 := by omega
  have i4 : (0 : Int) ≤ (n4 : Int) := by omega
  have j4 : (n4 : Int) ≤ 4294967295 := by omega
  obtain ⟨g, hg⟩ : ∃ g, w.heap.size = g := ⟨_, rfl⟩
  have HG := Lib.hid hg
  have HZ := Lib.hid hz; clear hz
  have HB := Lib.hid hB; clear hB
  have al2 : ∀ o1 o2 : Obj, Below w.heap.size w ((w.alloc o1).alloc o2) := fun o1 o2 => ((Below.refl _ w).alloc (Nat.le_refl _) _).alloc (by simp) _
  have y0 : ∀ o1 o2 : Obj, ((w.alloc o1).alloc o2).cell? ⟨0, 0, none⟩ = some (.int .i64 1) := fun o1 o2 => (HZ.out.step (al2 o1 o2)).2.1
  have y1 : ∀ o1 o2 : Obj, ((w.alloc o1).alloc o2).cell? ⟨0, 1, none⟩ = some (.int .i64 3) := fun o1 o2 => (HZ.out.step (al2 o1 o2)).2.2.1
  have y2 : ∀ o1 o2 : Obj, ((w.alloc o1).alloc o2).cell? ⟨0, 2, none⟩ = some (.int .i64 4) := fun o1 o2 => (HZ.out.step (al2 o1 o2)).2.2.2.1
  have y3 : ∀ o1 o2 : Obj, ((w.alloc o1).alloc o2).cell? ⟨0, 3, none⟩ = some (.int .i64 4) := fun o1 o2 => (HZ.out.step (al2 o1 o2)).2.2.2.2.1
  have y4 : ∀ o1 o2 : Obj, ((w.alloc o1).alloc o2).cell? ⟨0, 4, none⟩ = some (.int .i64 4) := fun o1 o2 => (HZ.out.step (al2 o1 o2)).2.2.2.2.2
  have H0 := Lib.hid h0; clear h0
  have H1 := Lib.hid h1; clear h1
  have H2 := Lib.hid h2; clear h2
  have H3 := Lib.hid h3; clear h3
  have H4 := Lib.hid h4; clear h4
  have AL := Lib.hid al2; clear al2
  go_enter Tryz.func132, Tryz.ntmps132
  go_wp2_with fail
  clear y0 y1 y2 y3 y4
  go_loopw [4, 8] (fun t i wr => ∃ j : Nat, j ≤ 5 ∧ i = .int .i64 j ∧ t = .int .i64 (atP j : Nat) ∧ Below g w wr ∧ Blk wr (g + 1) 253 (numTo n0 n1 n2 n3 n4 j) ∧ Blk wr g 31 #[.int .i64 0, .int .u32 0, .int .u32 0, .int .u32 0, .int .u32 0])
    (fun _ i _ => 5 - (intOf i).toNat)
  case atStart =>
    refine ⟨0, by omega, rfl, rfl, ?_, ?_, ?_⟩
    · have := AL.out (Obj.cells #[.int .i64 0, .int .u32 0, .int .u32 0, .int .u32 0, .int .u32 0] 31) (Obj.cells #[.int .i64 0, .int .i64 0, .int .i64 0, .int .i64 0, .int .i64 0] 253)
      rw [HG.out] at this
      exact this
    · have := Blk.new (w.alloc (Obj.cells #[.int .i64 0, .int .u32 0, .int .u32 0, .int .u32 0, .int .u32 0] 31)) 253 #[.int .i64 0, .int .i64 0, .int .i64 0, .int .i64 0, .int .i64 0]
      rw [World.size_alloc, HG.out] at this
      exact this
    · have := (Blk.new w 31 #[.int .i64 0, .int .u32 0, .int .u32 0, .int .u32 0, .int .u32 0]).alloc (Obj.cells #[.int .i64 0, .int .i64 0, .int .i64 0, .int .i64 0, .int .i64 0] 253)
      rw [HG.out] at this
      exact this
  case round =>
    obtain ⟨j, hj, rfl, rfl, hb, hn, hp⟩ := hrel
    have HL := Lib.hid hb; clear hb
    have HN := Lib.hid hn; clear hn
    have HP := Lib.hid hp; clear hp
    have hcs : j = 0 ∨ j = 1 ∨ j = 2 ∨ j = 3 ∨ j = 4 ∨ j = 5 := by omega
    rcases hcs with rfl | rfl | rfl | rfl | rfl | rfl
    · have hidx := szIdx0 wr
      have hB1 : Bsl wr wr.heap.size a 16 cap s := (HB.out.below (by rw [HG.out]; exact HL.out)).more HL.out.size
      have hget : Calls Tryz.prog 134 #[.slice a 16 cap, .int .i64 0, .int .i64 1] wr _ := get_bsl hB1 0 1 (by omega) (by omega) (by omega)
      rw [H0.out] at hget
      have HGT := Lib.hid hget; clear hget hB1
      have e0 : ((atP 0 : Nat) : Int) = 0 := rfl
      rw [e0]
      go_wp2_with fail
      refine HGT.out.mono ?_
      rintro ev w1 ⟨rfl, b1⟩
      have HN1 := Lib.hid (HN.out.below b1 HN.out.lt)
      have HP1 := Lib.hid (HP.out.below b1 HP.out.lt)
      have HL1 := Lib.hid (HL.out.trans (b1.mono (by have := HN.out.lt; omega)))
      have hcj : w1.cell? ⟨g + 1, 0, none⟩ = some (.int .i64 0) := HN1.out.cell 0
      have hfj : w1.frozen? ⟨g + 1, 0, none⟩ = false := HN1.out.frozen 0
      clear b1
      go_wp2_with fail
      go_roundw
      case rel =>
        refine ⟨1, by omega, by first | rfl | go_num, by first | rfl | go_num, ?_, ?_, ?_⟩
        · exact HL1.out.setCell (p := ⟨g + 1, 0, none⟩) (by show g ≤ g + 1; omega) _
        · exact HN1.out.set_ 0 (.int .i64 (n0 : Int))
        · exact HP1.out.far (by show g ≠ g + 1; omega) _
      case measure => simp [intOf]
    · have hidx := szIdx1 wr
      have hB1 : Bsl wr wr.heap.size a 16 cap s := (HB.out.below (by rw [HG.out]; exact HL.out)).more HL.out.size
      have hget : Calls Tryz.prog 134 #[.slice a 16 cap, .int .i64 1, .int .i64 3] wr _ := get_bsl hB1 1 3 (by omega) (by omega) (by omega)
      rw [H1.out] at hget
      have HGT := Lib.hid hget; clear hget hB1
      have e0 : ((atP 1 : Nat) : Int) = 1 := rfl
      rw [e0]
      go_wp2_with fail
      refine HGT.out.mono ?_
      rintro ev w1 ⟨rfl, b1⟩
      have HN1 := Lib.hid (HN.out.below b1 HN.out.lt)
      have HP1 := Lib.hid (HP.out.below b1 HP.out.lt)
      have HL1 := Lib.hid (HL.out.trans (b1.mono (by have := HN.out.lt; omega)))
      have hcj : w1.cell? ⟨g + 1, 1, none⟩ = some (.int .i64 0) := HN1.out.cell 1
      have hfj : w1.frozen? ⟨g + 1, 1, none⟩ = false := HN1.out.frozen 1
      clear b1
      go_wp2_with fail
      go_roundw
      case rel =>
        refine ⟨2, by omega, by first | rfl | go_num, by first | rfl | go_num, ?_, ?_, ?_⟩
        · exact HL1.out.setCell (p := ⟨g + 1, 1, none⟩) (by show g ≤ g + 1; omega) _
        · exact HN1.out.set_ 1 (.int .i64 (n1 : Int))
        · exact HP1.out.far (by show g ≠ g + 1; omega) _
      case measure => simp [intOf]
    · have hidx := szIdx2 wr
      have hB1 : Bsl wr wr.heap.size a 16 cap s := (HB.out.below (by rw [HG.out]; exact HL.out)).more HL.out.size
      have hget : Calls Tryz.prog 134 #[.slice a 16 cap, .int .i64 4, .int .i64 4] wr _ := get_bsl hB1 4 4 (by omega) (by omega) (by omega)
      rw [H2.out] at hget
      have HGT := Lib.hid hget; clear hget hB1
      have e0 : ((atP 2 : Nat) : Int) = 4 := rfl
      rw [e0]
      go_wp2_with fail
      refine HGT.out.mono ?_
      rintro ev w1 ⟨rfl, b1⟩
      have HN1 := Lib.hid (HN.out.below b1 HN.out.lt)
      have HP1 := Lib.hid (HP.out.below b1 HP.out.lt)
      have HL1 := Lib.hid (HL.out.trans (b1.mono (by have := HN.out.lt; omega)))
      have hcj : w1.cell? ⟨g + 1, 2, none⟩ = some (.int .i64 0) := HN1.out.cell 2
      have hfj : w1.frozen? ⟨g + 1, 2, none⟩ = false := HN1.out.frozen 2
      clear b1
      go_wp2_with fail
      go_roundw
      case rel =>
        refine ⟨3, by omega, by first | rfl | go_num, by first | rfl | go_num, ?_, ?_, ?_⟩
        · exact HL1.out.setCell (p := ⟨g + 1, 2, none⟩) (by show g ≤ g + 1; omega) _
        · exact HN1.out.set_ 2 (.int .i64 (n2 : Int))
        · exact HP1.out.far (by show g ≠ g + 1; omega) _
      case measure => simp [intOf]
    · have hidx := szIdx3 wr
      have hB1 : Bsl wr wr.heap.size a 16 cap s := (HB.out.below (by rw [HG.out]; exact HL.out)).more HL.out.size
      have hget : Calls Tryz.prog 134 #[.slice a 16 cap, .int .i64 8, .int .i64 4] wr _ := get_bsl hB1 8 4 (by omega) (by omega) (by omega)
      rw [H3.out] at hget
      have HGT := Lib.hid hget; clear hget hB1
      have e0 : ((atP 3 : Nat) : Int) = 8 := rfl
      rw [e0]
      go_wp2_with fail
      refine HGT.out.mono ?_
      rintro ev w1 ⟨rfl, b1⟩
      have HN1 := Lib.hid (HN.out.below b1 HN.out.lt)
      have HP1 := Lib.hid (HP.out.below b1 HP.out.lt)
      have HL1 := Lib.hid (HL.out.trans (b1.mono (by have := HN.out.lt; omega)))
      have hcj : w1.cell? ⟨g + 1, 3, none⟩ = some (.int .i64 0) := HN1.out.cell 3
      have hfj : w1.frozen? ⟨g + 1, 3, none⟩ = false := HN1.out.frozen 3
      clear b1
      go_wp2_with fail
      go_roundw
      case rel =>
        refine ⟨4, by omega, by first | rfl | go_num, by first | rfl | go_num, ?_, ?_, ?_⟩
        · exact HL1.out.setCell (p := ⟨g + 1, 3, none⟩) (by show g ≤ g + 1; omega) _
        · exact HN1.out.set_ 3 (.int .i64 (n3 : Int))
        · exact HP1.out.far (by show g ≠ g + 1; omega) _
      case measure => simp [intOf]
    · have hidx := szIdx4 wr
      have hB1 : Bsl wr wr.heap.size a 16 cap s := (HB.out.below (by rw [HG.out]; exact HL.out)).more HL.out.size
      have hget : Calls Tryz.prog 134 #[.slice a 16 cap, .int .i64 12, .int .i64 4] wr _ := get_bsl hB1 12 4 (by omega) (by omega) (by omega)
      rw [H4.out] at hget
      have HGT := Lib.hid hget; clear hget hB1
      have e0 : ((atP 4 : Nat) : Int) = 12 := rfl
      rw [e0]
      go_wp2_with fail
      refine HGT.out.mono ?_
      rintro ev w1 ⟨rfl, b1⟩
      have HN1 := Lib.hid (HN.out.below b1 HN.out.lt)
      have HP1 := Lib.hid (HP.out.below b1 HP.out.lt)
      have HL1 := Lib.hid (HL.out.trans (b1.mono (by have := HN.out.lt; omega)))
      have hcj : w1.cell? ⟨g + 1, 4, none⟩ = some (.int .i64 0) := HN1.out.cell 4
      have hfj : w1.frozen? ⟨g + 1, 4, none⟩ = false := HN1.out.frozen 4
      clear b1
      go_wp2_with fail
      go_roundw
      case rel =>
        refine ⟨5, by omega, by first | rfl | go_num, by first | rfl | go_num, ?_, ?_, ?_⟩
        · exact HL1.out.setCell (p := ⟨g + 1, 4, none⟩) (by show g ≤ g + 1; omega) _
        · exact HN1.out.set_ 4 (.int .i64 (n4 : Int))
        · exact HP1.out.far (by show g ≠ g + 1; omega) _
      case measure => simp [intOf]
    · have q0 : wr.cell? ⟨g + 1, 0, none⟩ = some (.int .i64 (n0 : Int)) := HN.out.cell 0
      have q1 : wr.cell? ⟨g + 1, 1, none⟩ = some (.int .i64 (n1 : Int)) := HN.out.cell 1
      have q2 : wr.cell? ⟨g + 1, 2, none⟩ = some (.int .i64 (n2 : Int)) := HN.out.cell 2
      have q3 : wr.cell? ⟨g + 1, 3, none⟩ = some (.int .i64 (n3 : Int)) := HN.out.cell 3
      have q4 : wr.cell? ⟨g + 1, 4, none⟩ = some (.int .i64 (n4 : Int)) := HN.out.cell 4
      have d0 : wr.cell? ⟨g, 0, none⟩ = some (.int .i64 0) := HP.out.cell 0
      have d1 : wr.cell? ⟨g, 1, none⟩ = some (.int .u32 0) := HP.out.cell 1
      have d2 : wr.cell? ⟨g, 2, none⟩ = some (.int .u32 0) := HP.out.cell 2
      have d3 : wr.cell? ⟨g, 3, none⟩ = some (.int .u32 0) := HP.out.cell 3
      have d4 : wr.cell? ⟨g, 4, none⟩ = some (.int .u32 0) := HP.out.cell 4
      have fr : ∀ i, wr.frozen? ⟨g, i, none⟩ = false := fun i => HP.out.frozen i
      go_wp2_with fail
      obtain ⟨wf, hwf⟩ : ∃ wf, set5 wr g (.int .i64 (n0 : Int)) (.int .u32 (n1 : Int)) (.int .u32 (n2 : Int)) (.int .u32 (n3 : Int)) (.int .u32 (n4 : Int)) = wf := ⟨_, rfl⟩
      have HX := Lib.hid (HP.out.set5 (.int .i64 (n0 : Int)) (.int .u32 (n1 : Int)) (.int .u32 (n2 : Int)) (.int .u32 (n3 : Int)) (.int .u32 (n4 : Int)))
      have HBF := Lib.hid (below_set5 HL.out (Nat.le_refl g) (.int .i64 (n0 : Int)) (.int .u32 (n1 : Int)) (.int .u32 (n2 : Int)) (.int .u32 (n3 : Int)) (.int .u32 (n4 : Int)))
      rw [hwf] at HX HBF
      simp only [set5] at hwf
      rw [hwf]
      clear hwf q0 q1 q2 q3 q4 d0 d1 d2 d3 d4 fr
      have e0 := HX.out.cell 0
      have e1 := HX.out.cell 1
      have e2 := HX.out.cell 2
      have e3 := HX.out.cell 3
      have e4 := HX.out.cell 4
      refine bodyPost_ret (v := ptV (n0, n1, n2, n3, n4)) (by simp [results, Tryz.f132, go_sem, e0, e1, e2, e3, e4]) rfl ⟨rfl, ?_⟩
      rw [HG.out]
      exact HBF.out
end Go.Proofs.YtafbidhbmfdlkaaGreatDoor
/-
  ptr.Check, whatever it is handed; nothing that was there is written.
-/
namespace Go.Proofs.YtafbidhbmfdlkaaGreatDoor
open Go.RowKit Go.Shelf
set_option maxRecDepth 100000

/-- What Check answers. -/
def pcheckO (p : Pt) : Int := if MayP p then 0 else 8
theorem Check_any (p : Pt) (w : World) : Calls Tryz.prog 100 #[ptV p] w fun e w' => e = .returned (.int .i64 (pcheckO p)) ∧ Below w.heap.size w w' := by
  have hm := mayBe_any p (w.alloc (.cells (ptC p).toArray 31))
  have hb1 : Below w.heap.size w (w.alloc (.cells (ptC p).toArray 31)) := (Below.refl _ w).alloc (Nat.le_refl _) _
  have HB := Lib.hid hb1; clear hb1
  rw [pcheckO]
  by_cases h : MayP p
  · rw [if_pos h]
    rw [decide_eq_true h] at hm
    obtain ⟨a, b, c, d, e⟩ := p
    have HM := Lib.hid hm; clear hm
    go_enter Tryz.func100, Tryz.ntmps100
    go_wp2_with (go_at_call 133; refine HM.out.mono ?_; rintro ev w1 ⟨rfl, b1⟩; have HB1 := Lib.hid (HB.out.trans (b1.mono (by simp [ptC]))); clear b1)
    go_ret
    exact ⟨rfl, HB1.out⟩
  · rw [if_neg h]
    rw [decide_eq_false h] at hm
    obtain ⟨a, b, c, d, e⟩ := p
    have HM := Lib.hid hm; clear hm
    go_enter Tryz.func100, Tryz.ntmps100
    go_wp2_with (go_at_call 133; refine HM.out.mono ?_; rintro ev w1 ⟨rfl, b1⟩; have HB1 := Lib.hid (HB.out.trans (b1.mono (by simp [ptC]))); clear b1)
    go_ret
    exact ⟨rfl, HB1.out⟩
end Go.Proofs.YtafbidhbmfdlkaaGreatDoor
/-
  ptr.Check, ptr.Write and ptr.Read, whatever they are handed; nothing that was there is written.
-/
namespace Go.Proofs.YtafbidhbmfdlkaaGreatDoor
open Go.RowKit Go.Shelf
set_option maxRecDepth 100000

/-- A list of the call's own, and an error's number. -/
def OutB (S : List UInt8) (c : Int) (w : World) (e : Ending) (w' : World) : Prop := ∃ v, e = .returned (.tuple #[v, .int .i64 c]) ∧ w'.ownsRow w.heap.size 5 1 v S.length (vals S) ∧ Below w.heap.size w w'
theorem outB_no {w w' : World} {c : Int} {e : Ending} (he : e = .returned (.tuple #[.slice none 0 0, .int .i64 c])) (hb : Below w.heap.size w w') : OutB [] c w e w' := ⟨_, he, own_nil _ _, hb⟩
/-- A pointer, and an error's number. -/
def OutP (p : Pt) (c : Int) (w : World) (e : Ending) (w' : World) : Prop := e = .returned (.tuple #[ptV p, .int .i64 c]) ∧ Below w.heap.size w w'
/-- What Write answers. -/
def pwriteO (p : Pt) : List UInt8 × Int := if MayP p then (bytesP p, 0) else ([], 8)
/-- What Read answers. -/
def preadO (s : List UInt8) : Pt × Int := if s.length = 16 then (if MayP (getP s) then (getP s, 0) else (p0, 8)) else (p0, 3)

theorem Write_any (p : Pt) (hw : WfP p) (w : World) (hz : Szs w) : Calls Tryz.prog 137 #[ptV p] w (OutB (pwriteO p).1 (pwriteO p).2 w) := by
  have hm := mayBe_any p (w.alloc (.cells (ptC p).toArray 31))
  have hb1 : Below w.heap.size w (w.alloc (.cells (ptC p).toArray 31)) := (Below.refl _ w).alloc (Nat.le_refl _) _
  have HB := Lib.hid hb1; clear hb1
  have HZ := Lib.hid hz; clear hz
  have HW := Lib.hid hw; clear hw
  have hk : Blk (w.alloc (.cells (ptC p).toArray 31)) w.heap.size 31 (ptC p).toArray := Blk.new w _ _
  have HK := Lib.hid hk; clear hk
  rw [pwriteO]
  by_cases h : MayP p
  · rw [if_pos h]
    rw [decide_eq_true h] at hm
    have HR := Lib.hid h.room
    clear h
    obtain ⟨a, b, c, d, e⟩ := p
    have HM := Lib.hid hm; clear hm
    go_enter Tryz.func137, Tryz.ntmps137
    go_wp2_with (first
      | (go_at_call 133
         refine HM.out.mono ?_
         rintro ev w1 ⟨rfl, b1⟩
         have HB1 := Lib.hid (HB.out.trans (b1.mono (by simp [ptC])))
         obtain ⟨c0, c1, c2, c3, c4⟩ := (HK.out.below b1 HK.out.lt).five
         have HP := Lib.hid (put_any (a, b, c, d, e) HW.out HR.out w1 (HZ.out.step HB1.out))
         clear b1)
      | (go_at_call 201
         refine HP.out.mono ?_
         rintro ev w2 ⟨v2, rfl, o2, b2⟩
         have HO2 := Lib.hid (own_mono o2 HB1.out.size)
         have HB2 := Lib.hid (HB1.out.trans (b2.mono HB1.out.size))
         clear b2 o2))
    go_ret2
    refine ⟨v2, rfl, ?_, HB2.out⟩
    rw [bytesP_length]
    exact HO2.out
  · rw [if_neg h]
    rw [decide_eq_false h] at hm
    obtain ⟨a, b, c, d, e⟩ := p
    have HM := Lib.hid hm; clear hm
    go_enter Tryz.func137, Tryz.ntmps137
    go_wp2_with (go_at_call 133; refine HM.out.mono ?_; rintro ev w1 ⟨rfl, b1⟩; have HB1 := Lib.hid (HB.out.trans (b1.mono (by simp [ptC]))); clear b1)
    refine bodyPost_ret (v := .tuple #[.slice none 0 0, .int .i64 8]) (by simp [results, Tryz.f137, go_sem]) rfl ?_
    exact outB_no rfl HB1.out

theorem Read_any (a : Option Addr) (len cap : Nat) (s : List UInt8) (w : World) (hB : Bsl w w.heap.size a len cap s) (hz : Szs w) : Calls Tryz.prog 79 #[.slice a len cap] w (OutP (preadO s).1 (preadO s).2 w) := by
  have hl := hB.1
  rw [preadO]
  have hk : Blk (w.alloc (.cells #[.int .i64 0, .int .u32 0, .int .u32 0, .int .u32 0, .int .u32 0] 31)) w.heap.size 31 #[.int .i64 0, .int .u32 0, .int .u32 0, .int .u32 0, .int .u32 0] := Blk.new w _ _
  have hb1 : Below w.heap.size w (w.alloc (.cells #[.int .i64 0, .int .u32 0, .int .u32 0, .int .u32 0, .int .u32 0] 31)) := (Below.refl _ w).alloc (Nat.le_refl _) _
  have HK := Lib.hid hk; clear hk
  have HB1 := Lib.hid hb1; clear hb1
  have i0 : (0 : Int) ≤ (len : Int) := by omega
  have i1 : (len : Int) ≤ 9223372036854775807 := by have h1 := hB.2.1; have h2 := hB.2.2.1; unfold maxLen at h2; omega
  by_cases h16 : s.length = 16
  · rw [if_pos h16]
    obtain rfl : len = 16 := by omega
    have hb2 : Bsl (w.alloc (.cells #[.int .i64 0, .int .u32 0, .int .u32 0, .int .u32 0, .int .u32 0] 31)) (w.alloc (.cells #[.int .i64 0, .int .u32 0, .int .u32 0, .int .u32 0, .int .u32 0] 31)).heap.size a 16 cap s := hB.step HB1.out
    have HG := Lib.hid (get_any a cap s _ hb2 (hz.step HB1.out)); clear hb2
    have hm := fun w => mayBe_any (getP s) w
    obtain ⟨P, hP⟩ : ∃ P, getP s = P := ⟨_, rfl⟩
    rw [hP] at HG hm ⊢
    clear hP hl hz hB h16
    by_cases h : MayP P
    · rw [if_pos h]
      rw [decide_eq_true h] at hm
      clear h
      obtain ⟨a', b', c', d', e'⟩ := P
      have HM := Lib.hid hm; clear hm
      go_enter Tryz.func79, Tryz.ntmps79
      go_wp2_with (first
        | (go_at_call 132
           refine HG.out.mono ?_
           rintro ev w1 ⟨rfl, b1⟩
           have HB2 := Lib.hid (HB1.out.trans (b1.mono (by simp)))
           have HK2 := Lib.hid (HK.out.below b1 HK.out.lt)
           have HB3 := Lib.hid (HB2.out.alloc HB2.out.size (.cells #[.int .i64 a', .int .u32 (b' : Int), .int .u32 (c' : Int), .int .u32 (d' : Int), .int .u32 (e' : Int)] 31))
           have HK3 := Lib.hid (HK2.out.alloc (.cells #[.int .i64 a', .int .u32 (b' : Int), .int .u32 (c' : Int), .int .u32 (d' : Int), .int .u32 (e' : Int)] 31))
           have HP3 := Lib.hid (Blk.new w1 31 #[.int .i64 a', .int .u32 (b' : Int), .int .u32 (c' : Int), .int .u32 (d' : Int), .int .u32 (e' : Int)])
           clear b1)
        | (go_at_call 133
           refine (HM.out _).mono ?_
           rintro ev w2 ⟨rfl, b2⟩
           have HB4 := Lib.hid (HB3.out.trans (b2.mono HB3.out.size))
           have HK4 := Lib.hid (HK3.out.below b2 HK3.out.lt)
           obtain ⟨c0, c1, c2, c3, c4⟩ := (HP3.out.below b2 HP3.out.lt).five
           have d0 : w2.cell? ⟨w.heap.size, 0, none⟩ = some (.int .i64 0) := HK4.out.cell 0
           have d1 : w2.cell? ⟨w.heap.size, 1, none⟩ = some (.int .u32 0) := HK4.out.cell 1
           have d2 : w2.cell? ⟨w.heap.size, 2, none⟩ = some (.int .u32 0) := HK4.out.cell 2
           have d3 : w2.cell? ⟨w.heap.size, 3, none⟩ = some (.int .u32 0) := HK4.out.cell 3
           have d4 : w2.cell? ⟨w.heap.size, 4, none⟩ = some (.int .u32 0) := HK4.out.cell 4
           have fr : ∀ i, w2.frozen? ⟨w.heap.size, i, none⟩ = false := fun i => HK4.out.frozen i
           clear b2))
      obtain ⟨wf, hwf⟩ : ∃ wf, set5 w2 w.heap.size (.int .i64 a') (.int .u32 (b' : Int)) (.int .u32 (c' : Int)) (.int .u32 (d' : Int)) (.int .u32 (e' : Int)) = wf := ⟨_, rfl⟩
      have HXF := Lib.hid (HK4.out.set5 (.int .i64 a') (.int .u32 (b' : Int)) (.int .u32 (c' : Int)) (.int .u32 (d' : Int)) (.int .u32 (e' : Int)))
      have HBF := Lib.hid (below_set5 HB4.out (Nat.le_refl w.heap.size) (.int .i64 a') (.int .u32 (b' : Int)) (.int .u32 (c' : Int)) (.int .u32 (d' : Int)) (.int .u32 (e' : Int)))
      rw [hwf] at HXF HBF
      simp only [set5] at hwf
      rw [hwf]
      clear hwf d0 d1 d2 d3 d4 fr
      have e0 := HXF.out.cell 0
      have e1 := HXF.out.cell 1
      have e2 := HXF.out.cell 2
      have e3 := HXF.out.cell 3
      have e4 := HXF.out.cell 4
      exact bodyPost_ret (v := .tuple #[ptV (a', b', c', d', e'), .int .i64 0]) (by simp [results, Tryz.f79, go_sem, e0, e1, e2, e3, e4]) rfl ⟨rfl, HBF.out⟩
    · rw [if_neg h]
      rw [decide_eq_false h] at hm
      clear h
      obtain ⟨a', b', c', d', e'⟩ := P
      have HM := Lib.hid hm; clear hm
      go_enter Tryz.func79, Tryz.ntmps79
      go_wp2_with (first
        | (go_at_call 132
           refine HG.out.mono ?_
           rintro ev w1 ⟨rfl, b1⟩
           have HB2 := Lib.hid (HB1.out.trans (b1.mono (by simp)))
           have HK2 := Lib.hid (HK.out.below b1 HK.out.lt)
           have HB3 := Lib.hid (HB2.out.alloc HB2.out.size (.cells #[.int .i64 a', .int .u32 (b' : Int), .int .u32 (c' : Int), .int .u32 (d' : Int), .int .u32 (e' : Int)] 31))
           have HK3 := Lib.hid (HK2.out.alloc (.cells #[.int .i64 a', .int .u32 (b' : Int), .int .u32 (c' : Int), .int .u32 (d' : Int), .int .u32 (e' : Int)] 31))
           have HP3 := Lib.hid (Blk.new w1 31 #[.int .i64 a', .int .u32 (b' : Int), .int .u32 (c' : Int), .int .u32 (d' : Int), .int .u32 (e' : Int)])
           clear b1)
        | (go_at_call 133
           refine (HM.out _).mono ?_
           rintro ev w2 ⟨rfl, b2⟩
           have HB4 := Lib.hid (HB3.out.trans (b2.mono HB3.out.size))
           have HK4 := Lib.hid (HK3.out.below b2 HK3.out.lt)
           obtain ⟨c0, c1, c2, c3, c4⟩ := (HP3.out.below b2 HP3.out.lt).five
           have d0 : w2.cell? ⟨w.heap.size, 0, none⟩ = some (.int .i64 0) := HK4.out.cell 0
           have d1 : w2.cell? ⟨w.heap.size, 1, none⟩ = some (.int .u32 0) := HK4.out.cell 1
           have d2 : w2.cell? ⟨w.heap.size, 2, none⟩ = some (.int .u32 0) := HK4.out.cell 2
           have d3 : w2.cell? ⟨w.heap.size, 3, none⟩ = some (.int .u32 0) := HK4.out.cell 3
           have d4 : w2.cell? ⟨w.heap.size, 4, none⟩ = some (.int .u32 0) := HK4.out.cell 4
           have fr : ∀ i, w2.frozen? ⟨w.heap.size, i, none⟩ = false := fun i => HK4.out.frozen i
           clear b2))
      obtain ⟨wf, hwf⟩ : ∃ wf, set5 w2 w.heap.size (.int .i64 0) (.int .u32 0) (.int .u32 0) (.int .u32 0) (.int .u32 0) = wf := ⟨_, rfl⟩
      have HXF := Lib.hid (HK4.out.set5 (.int .i64 0) (.int .u32 0) (.int .u32 0) (.int .u32 0) (.int .u32 0))
      have HBF := Lib.hid (below_set5 HB4.out (Nat.le_refl w.heap.size) (.int .i64 0) (.int .u32 0) (.int .u32 0) (.int .u32 0) (.int .u32 0))
      rw [hwf] at HXF HBF
      simp only [set5] at hwf
      rw [hwf]
      clear hwf d0 d1 d2 d3 d4 fr
      have e0 := HXF.out.cell 0
      have e1 := HXF.out.cell 1
      have e2 := HXF.out.cell 2
      have e3 := HXF.out.cell 3
      have e4 := HXF.out.cell 4
      exact bodyPost_ret (v := .tuple #[ptV p0, .int .i64 8]) (by simp [results, Tryz.f79, go_sem, e0, e1, e2, e3, e4]) rfl ⟨rfl, HBF.out⟩
  · rw [if_neg h16]
    have hne : ¬ (len : Int) = 16 := by omega
    have d0 : (w.alloc (.cells #[.int .i64 0, .int .u32 0, .int .u32 0, .int .u32 0, .int .u32 0] 31)).cell? ⟨w.heap.size, 0, none⟩ = some (.int .i64 0) := HK.out.cell 0
    have d1 : (w.alloc (.cells #[.int .i64 0, .int .u32 0, .int .u32 0, .int .u32 0, .int .u32 0] 31)).cell? ⟨w.heap.size, 1, none⟩ = some (.int .u32 0) := HK.out.cell 1
    have d2 : (w.alloc (.cells #[.int .i64 0, .int .u32 0, .int .u32 0, .int .u32 0, .int .u32 0] 31)).cell? ⟨w.heap.size, 2, none⟩ = some (.int .u32 0) := HK.out.cell 2
    have d3 : (w.alloc (.cells #[.int .i64 0, .int .u32 0, .int .u32 0, .int .u32 0, .int .u32 0] 31)).cell? ⟨w.heap.size, 3, none⟩ = some (.int .u32 0) := HK.out.cell 3
    have d4 : (w.alloc (.cells #[.int .i64 0, .int .u32 0, .int .u32 0, .int .u32 0, .int .u32 0] 31)).cell? ⟨w.heap.size, 4, none⟩ = some (.int .u32 0) := HK.out.cell 4
    have fr : ∀ i, (w.alloc (.cells #[.int .i64 0, .int .u32 0, .int .u32 0, .int .u32 0, .int .u32 0] 31)).frozen? ⟨w.heap.size, i, none⟩ = false := fun i => HK.out.frozen i
    go_enter Tryz.func79, Tryz.ntmps79
    go_wp2_with fail
    exact bodyPost_ret (v := .tuple #[ptV p0, .int .i64 3]) (by simp [results, Tryz.f79, go_sem, d0, d1, d2, d3, d4]) rfl ⟨rfl, HB1.out⟩
end Go.Proofs.YtafbidhbmfdlkaaGreatDoor
/-
  A region that draws its order and holds calls that make memory, walked in one order of one's own: each operation that reads yields the same in every world that what follows may come to; each call stands alone when its turn comes (or two stand side by side: both ways are walked); an operation that has its own place in the order may do what it likes.
-/
namespace Go.Proofs.YtafbidhbmfdlkaaGreatDoor
open Go Go.RowKit
set_option maxRecDepth 100000

/-- What lay as it lay still does. -/
def Stays (w w' : World) : Prop := ∀ X : World, Below X.heap.size X w → Below X.heap.size X w'
theorem Stays.refl (w : World) : Stays w w := fun _ h => h
theorem Stays.trans {a b c : World} (h : Stays a b) (k : Stays b c) : Stays a c := fun X hx => k X (h X hx)
theorem Stays.of_below {w w' : World} (b : Below w.heap.size w w') : Stays w w' := fun _ h => h.trans (b.mono h.size)
theorem Stays.drew (w : World) : Stays w w.drew := fun _ h => h.drew
theorem Stays.same {w w' : World} (h : w' = w) : Stays w w' := h ▸ Stays.refl w

section
variable {P : Program} {ops : Array Oper} {Q : Exit → Act → World → Prop} {md : Region.Mode}

/-- What is listed has all listed that it waits for. -/
def Closed (md : Region.Mode) (ops : Array Oper) (L : Array Bool) : Prop := ∀ k o, ops[k]? = some o → L.getD k false = true → ∀ e ∈ o.after, Region.binds md e = true → L.getD e.on false = true
def closedB (md : Region.Mode) (ops : Array Oper) (L : Array Bool) : Bool :=
  (List.range ops.size).all fun k => !L.getD k false || match ops[k]? with
    | some o => o.after.toList.all fun e => !Region.binds md e || L.getD e.on false
    | none => true
theorem closedB_spec {L : Array Bool} (h : closedB md ops L = true) : Closed md ops L := by
  intro k o hk hl e he hb
  unfold closedB at h
  simp only [List.all_eq_true, List.mem_range] at h
  have h1 := h k (Array.getElem?_eq_some_iff.1 hk).1
  rw [hl, hk] at h1
  simp only [Bool.not_true, Bool.false_or, List.all_eq_true] at h1
  have h2 := h1 e (by simpa using he)
  rw [hb] at h2
  simpa using h2
theorem closed_set {L : Array Bool} {j : Nat} (h : Closed md ops L) (hj : j ∈ Region.ready md ops L) : Closed md ops (L.setIfInBounds j true) := by
  intro k o hk hl e he hb
  by_cases hkj : j = k
  · subst hkj
    obtain ⟨_, oj, hoj, hall⟩ := mem_ready.1 hj
    rw [hk] at hoj
    cases hoj
    exact getD_set_true (hall e he hb)
  · rw [getD_set_ne false hkj] at hl
    exact getD_set_true (h k o hk hl e he hb)
/-- j waits for k, by at most so many steps. -/
def waitsB (md : Region.Mode) (ops : Array Oper) : Nat → Nat → Nat → Bool
  | 0, _, _ => false
  | n + 1, j, k => match ops[j]? with
    | some o => o.after.toList.any fun e => Region.binds md e && (e.on == k || waitsB md ops n e.on k)
    | none => false
theorem waits_listed {L : Array Bool} (hc : Closed md ops L) {k : Nat} : ∀ (n j : Nat), waitsB md ops n j k = true → (∀ o, ops[j]? = some o → ∀ e ∈ o.after, Region.binds md e = true → L.getD e.on false = true) → L.getD k false = true
  | 0, _, h, _ => by cases h
  | n + 1, j, h, hd => by
    unfold waitsB at h
    cases ho : ops[j]? with
    | none => rw [ho] at h; cases h
    | some o =>
      rw [ho] at h
      simp only [List.any_eq_true, Bool.and_eq_true, Bool.or_eq_true, beq_iff_eq] at h
      obtain ⟨e, he, hb, h1⟩ := h
      have hl := hd o ho e (by simpa using he) hb
      rcases h1 with h1 | h1
      · rw [← h1]; exact hl
      · exact waits_listed hc n e.on h1 fun o' ho' e' he' hb' => hc e.on o' ho' hl e' he' hb'
theorem unready {L : Array Bool} {i : Nat} (h : i ∈ Region.ready md ops L) (hl : L.getD i false = true) : False := by
  have h0 := (mem_ready.1 h).1
  rcases Nat.lt_or_ge i L.size with h' | h'
  · simp [h'] at h0 hl; rw [h0] at hl; cases hl
  · simp [Array.getElem?_eq_none h'] at hl
/-- The operation of number i, written out. -/
def nthOp : List Oper → Nat → Option Oper
  | [], _ => none
  | o :: _, 0 => some o
  | _ :: l, n + 1 => nthOp l n
theorem nthOp_eq : ∀ (l : List Oper) (i : Nat), nthOp l i = l.toArray[i]?
  | [], _ => rfl
  | _ :: _, 0 => rfl
  | _ :: l, n + 1 => by
    rw [nthOp, nthOp_eq l n]
    simp

theorem wpOp_of {P : Program} {l : List Oper} {Q : Exit → Act → World → Prop} {i : Nat} {o : Oper} {a : Act} {w : World} {K : Act → World → Prop} (hi : nthOp l i = some o)
    (h : if Region.wanted o (yielded l.toArray a.tmps) then o.wp P a w K Q else K (a.put o.dst undef) w) : wpOp P l.toArray Q i K a w := by
  unfold wpOp
  rw [← nthOp_eq, hi]
  simp only
  split
  · rename_i hw; rw [if_pos hw] at h; exact .inl h
  · rename_i hw; rw [if_neg hw] at h; exact h
end
end Go.Proofs.YtafbidhbmfdlkaaGreatDoor
/-
  A region that draws its order, walked in one order of one's own, in worlds that keep a word of one's own: each operation keeps it; each that reads yields the same in every world that keeps it.
-/
namespace Go.Proofs.YtafbidhbmfdlkaaGreatDoor
open Go Go.RowKit
set_option maxRecDepth 100000

section
variable {P : Program} {ops : Array Oper} {Q : Exit → Act → World → Prop} {md : Region.Mode} {S : World → Prop}
/-- Whatever order is picked from here on, each operation keeps the word. -/
def wpMI (P : Program) (md : Region.Mode) (S : World → Prop) (ops : Array Oper) (Q : Exit → Act → World → Prop) : Nat → Array Bool → Act → World → Prop
  | 0, listed, a, w => Region.ready md ops listed = [] ∧ Q .normal a w
  | fuel + 1, listed, a, w =>
    (Region.ready md ops listed = [] → Q .normal a w) ∧
    ∀ i ∈ Region.ready md ops listed, wpOp P ops Q i (fun a' w' => S w' ∧ wpMI P md S ops Q fuel (listed.setIfInBounds i true) a' w') a w
theorem wpAny_of_mi : ∀ (fuel : Nat) (listed : Array Bool) (a : Act) (w : World), wpMI P md S ops Q fuel listed a w → wpAny P md ops Q fuel listed a w
  | 0, _, _, _, h => h
  | fuel + 1, _, _, _, h => ⟨h.1, fun i hi => wpOp_mono (fun a' w' h' => wpAny_of_mi fuel _ a' w' h'.2) (h.2 i hi)⟩
theorem wpMI_first {i : Nat} {oi : Oper} {v : Value} (hi : ops[i]? = some oi) (hsel : ∀ (j : Nat) (o : Oper) cs b, ops[j]? = some o → o.op ≠ .select cs b)
    (hQ : ∀ c a w, Q (.panic c) (a.put oi.dst v) w → Q (.panic c) a w) :
    ∀ (fuel : Nat) (listed : Array Bool) (a : Act) (w : World), S w →
      (∀ j oj, ops[j]? = some oj → j ≠ i → listed.getD j true = false → (∀ e ∈ oj.after, Region.binds md e = true → e.on ≠ i) → oi.apart ops oj = true) →
      i ∈ Region.ready md ops listed → YieldsIf P ops S oi v a →
      wpMI P md S ops Q fuel (listed.setIfInBounds i true) (a.put oi.dst v) w → wpMI P md S ops Q (fuel + 1) listed a w := by
  intro fuel
  induction fuel with
  | zero =>
    intro listed a w hS _ hr hy H
    refine ⟨fun h => (by rw [h] at hr; cases hr), fun j hj => ?_⟩
    by_cases hji : j = i
    · subst hji; exact hy.wpOp hi hS ⟨hS, H⟩
    · have := ready_mono hj hji
      rw [H.1] at this
      cases this
  | succ fuel ih =>
    intro listed a w hS hfree hr hy H
    refine ⟨fun h => (by rw [h] at hr; cases hr), fun j hj => ?_⟩
    by_cases hji : j = i
    · subst hji; exact hy.wpOp hi hS ⟨hS, H⟩
    · have g1 := H.2 j (ready_mono hj hji)
      obtain ⟨hjun, oj, hoj, hall⟩ := mem_ready.1 hj
      have hnot : ∀ e ∈ oj.after, Region.binds md e = true → e.on ≠ i := by
        intro e he hb heq
        have t1 := hall e he hb
        have t0 := (mem_ready.1 hr).1
        rw [heq] at t1
        rcases Nat.lt_or_ge i listed.size with h' | h'
        · simp [h'] at t0 t1; rw [t0] at t1; cases t1
        · simp [Array.getElem?_eq_none h'] at t1
      have g2 := wpOp_putIf hoj (hfree j oj hoj hji hjun hnot) (fun cs b => hsel i oi cs b hi) (fun cs b => hsel j oj cs b hoj) hQ hy g1
      refine wpOp_mono (fun a' w' g3 => ⟨g3.2.1, ih (listed.setIfInBounds j true) a' w' g3.2.1 ?_ (ready_mono hr (Ne.symm hji)) g3.1 ?_⟩) g2
      · intro k ok hk hki hun hno
        refine hfree k ok hk hki ?_ hno
        by_cases hjk : j = k
        · subst hjk; exact hjun
        · rw [getD_set_ne true hjk] at hun; exact hun
      · rw [Array.setIfInBounds_comm _ _ hji]
        exact g3.2.2
/-- In the order σ. -/
def wpI (P : Program) (md : Region.Mode) (S : World → Prop) (ops : List Oper) (Q : Exit → Act → World → Prop) (σ : List Nat) (listed : Array Bool) (a : Act) (w : World) : Prop := wpMI P md S ops.toArray Q σ.length listed a w
theorem wpI_start {l : List Oper} {id : Nat} {a : Act} {w w1 : World} (S : World → Prop) (σ : List Nat) (hm : P.follows .mixedOrders = true) (hl : σ.length = l.length) (hw : w.drew = w1)
    (h : wpI P .any S l Q σ (Array.replicate l.length false) a w1) : (Code.region id l.toArray true).wp P Q a w := by
  subst hw
  refine wp_region_any hm (wpAny_of_mi _ _ _ _ (S := S) ?_)
  unfold wpI at h
  rw [hl] at h
  simpa using h
theorem wpI_read {l : List Oper} {i : Nat} {σ : List Nat} {oi : Oper} {v : Value} {listed : Array Bool} {a : Act} {w : World} (hS : S w) (hi : nthOp l i = some oi)
    (hs : Region.noSelect l.toArray = true) (hf : Region.free md l.toArray listed i = true) (hr : (Region.ready md l.toArray listed).contains i = true)
    (hQ : ∀ c a w, Q (.panic c) (a.put oi.dst v) w → Q (.panic c) a w) (hy : YieldsIf P l.toArray S oi v a)
    (h : wpI P md S l Q σ (listed.setIfInBounds i true) (a.put oi.dst v) w) : wpI P md S l Q (i :: σ) listed a w :=
  wpMI_first (by rw [← nthOp_eq]; exact hi) (Region.noSelect_spec hs) hQ σ.length listed a w hS (Region.free_spec (by rw [← nthOp_eq]; exact hi) hf) (by simpa using hr) hy h
theorem wpI_lone {l : List Oper} {i : Nat} {σ : List Nat} {o : Oper} {listed : Array Bool} {a : Act} {w : World} (hi : nthOp l i = some o) (hr : Region.ready md l.toArray listed = [i])
    (h : ∀ K : Act → World → Prop, (∀ a' w', S w' → wpI P md S l Q σ (listed.setIfInBounds i true) a' w' → K a' w') → if Region.wanted o (yielded l.toArray a.tmps) then o.wp P a w K Q else K (a.put o.dst undef) w) :
    wpI P md S l Q (i :: σ) listed a w := by
  refine ⟨fun h0 => (by rw [hr] at h0; cases h0), fun j hj => ?_⟩
  rw [hr, List.mem_singleton] at hj
  subst hj
  exact wpOp_of hi (h (fun a' w' => S w' ∧ wpMI P md S l.toArray Q σ.length (listed.setIfInBounds j true) a' w') (fun a' w' hS hs => ⟨hS, hs⟩))
/-- Two operations stand side by side: both ways. -/
theorem wpI_fork {l : List Oper} {i j : Nat} {σ : List Nat} {oi oj : Oper} {listed : Array Bool} {a : Act} {w : World} (hi : nthOp l i = some oi) (hj : nthOp l j = some oj) (hr : Region.ready md l.toArray listed = [i, j])
    (h1 : ∀ K : Act → World → Prop, (∀ a' w', S w' → wpI P md S l Q (j :: σ) (listed.setIfInBounds i true) a' w' → K a' w') → if Region.wanted oi (yielded l.toArray a.tmps) then oi.wp P a w K Q else K (a.put oi.dst undef) w)
    (h2 : ∀ K : Act → World → Prop, (∀ a' w', S w' → wpI P md S l Q (i :: σ) (listed.setIfInBounds j true) a' w' → K a' w') → if Region.wanted oj (yielded l.toArray a.tmps) then oj.wp P a w K Q else K (a.put oj.dst undef) w) :
    wpI P md S l Q (i :: j :: σ) listed a w := by
  refine ⟨fun h0 => (by rw [hr] at h0; cases h0), fun k hk => ?_⟩
  rw [hr] at hk
  rcases List.mem_cons.1 hk with rfl | hk
  · exact wpOp_of hi (h1 (fun a' w' => S w' ∧ wpMI P md S l.toArray Q (j :: σ).length (listed.setIfInBounds k true) a' w') (fun a' w' hS hs => ⟨hS, hs⟩))
  · rw [List.mem_singleton] at hk
    subst hk
    exact wpOp_of hj (h2 (fun a' w' => S w' ∧ wpMI P md S l.toArray Q (i :: σ).length (listed.setIfInBounds k true) a' w') (fun a' w' hS hs => ⟨hS, hs⟩))
/-- In another order as long. -/
theorem wpI_turn {l : List Oper} {σ : List Nat} {listed : Array Bool} {a : Act} {w : World} (τ : List Nat) (hl : τ.length = σ.length) (h : wpI P md S l Q τ listed a w) : wpI P md S l Q σ listed a w := by
  unfold wpI at h ⊢
  rw [← hl]
  exact h
theorem wpI_done {l : List Oper} {listed : Array Bool} {a : Act} {w : World} (hr : Region.ready md l.toArray listed = []) (h : Q .normal a w) : wpI P md S l Q [] listed a w := ⟨hr, h⟩
end
end Go.Proofs.YtafbidhbmfdlkaaGreatDoor
/-
  append of bytes to a row of one's own, at any place of a walk; in a region that draws its order.
-/
namespace Go.Proofs.YtafbidhbmfdlkaaGreatDoor
open Go.RowKit Go.Shelf
set_option maxRecDepth 100000

/-- append(v, nil...), whatever capacity nil is written with. -/
theorem run_app_none {P : Program} {w : World} (base : Nat) (t ty e : TypeId) (i : TypeInfo) (size c : Nat) (ht : P.underlying t = some (.slice e)) (hi : P.info? e = some i)
    (v : Value) (n : Nat) (xs : List Value) (hown : w.ownsRow base e size v n xs) : (Builtin.append_ #[t, t] ty #[v, .slice none 0 c]).run P w = .ok v w := by
  rcases hown.2 with ⟨rfl, rfl⟩ | ⟨g, cap, cur, rfl, _, _, hnc, _⟩
  · simp [Builtin.append_, run_underlying ht, sizeOf, typeInfo, hi, Builtin.lenOf, Builtin.firstCells]
  · simp [Builtin.append_, run_underlying ht, sizeOf, typeInfo, hi, Builtin.lenOf, Builtin.firstCells, hnc, storeCells]
section
variable {w : World} {o : Oper} {a : Act} {K : Act → World → Prop} {Q : Exit → Act → World → Prop}
end
section
variable {l : List Oper} {Q : Exit → Act → World → Prop} {md : Region.Mode} {S : World → Prop} {i : Nat} {σ : List Nat} {o : Oper} {listed : Array Bool} {a : Act} {w : World}
end
end Go.Proofs.YtafbidhbmfdlkaaGreatDoor
/-
  copy of bytes over a part of a row that is known whole, into a slice that may be longer than what is copied; parts of slices.
-/
namespace Go.Proofs.YtafbidhbmfdlkaaGreatDoor
open Go.RowKit Go.Shelf
set_option maxRecDepth 100000

theorem copyAt {P : Program} {ops : Array Oper} {Q : Exit → Act → World → Prop} {a : Act} {w : World} {rest : List Oper} {d : Option Tmp} {ty : TypeId} {x : Array Operand} {y : Array TypeId} {pos : String} {af : Array Edge} (h : wpList P ops Q (⟨d, .call { callee := .builtin .copy, args := x, argTypes := y }, ty, pos, af, none⟩ :: rest) a w) : wpList P ops Q (⟨d, .call { callee := .builtin .copy, args := x, argTypes := y }, ty, pos, af, none⟩ :: rest) a w := h
theorem infoB1 : (Tryz.prog.info? 5).map (·.size) = some 1 := by kernel_rfl
/-- s laid over t from o on. -/
def ovrL (t : List UInt8) (o : Nat) (s : List UInt8) : List UInt8 := t.take o ++ (s ++ t.drop (o + s.length))
theorem ovrL_length {t : List UInt8} {o : Nat} {s : List UInt8} (h : o + s.length ≤ t.length) : (ovrL t o s).length = t.length := by simp [ovrL]; omega
/-- copy(dst, src), where what is copied fits. -/
theorem wpList_copy_part {w : World} {ops : Array Oper} {rest : List Oper} {o : Oper} {a : Act} {Q : Exit → Act → World → Prop} (hgd : o.guard = none) (d s : Operand)
    (ho : o.op = .call { callee := .builtin .copy, args := #[d, s], argTypes := #[26, 26] })
    (g off m n cap : Nat) (hd : a.eval d = .slice (some ⟨g, off, none⟩) m cap) (t : List UInt8) (hg : Blk w g 5 (ar t))
    (B : Nat) (A : Option Addr) (c : Nat) (news : List UInt8) (hs : a.eval s = .slice A n c) (hb : Bsl w B A n c news) (hn : 0 < n) (hnm : n ≤ m) (hfit : off + n ≤ t.length)
    (h : ∀ w', Blk w' g 5 (ar (ovrL t off news)) → w.grownBy w' (some g) → w'.heap.size = w.heap.size → wpList Tryz.prog ops Q rest (a.put o.dst (.int .i64 n)) w') : wpList Tryz.prog ops Q (o :: rest) a w := by
  obtain ⟨h1, h2, h3, h4, h5⟩ := hb
  obtain ⟨b, of, rfl, _, hc⟩ := h5 hn
  have hl : (vals news).length = n := by simp [vals, h1]
  refine wpList_copy_own hgd d s 26 26 ho 5 Tryz.underlying26 infoB1 g off m cap ⟨b, of, none⟩ n c hd hs (ar t) 5 hg (vals news) (by rw [hl]; exact (Nat.min_eq_left hnm).symm) (fun j v hv => ?_) (by rw [hl, ar_size]; exact hfit) (fun v hv => ?_) ?_
  · obtain ⟨hj, rfl⟩ := vals_get hv
    have : (⟨b, of, none⟩ : Addr).add j = ⟨b, of + j, none⟩ := by unfold Addr.add; split <;> simp_all
    rw [this]
    exact hc j hj
  · obtain ⟨y, _, rfl⟩ := List.mem_map.1 hv
    rfl
  · have e : ((ar t).toList.take off ++ (vals news ++ (ar t).toList.drop (off + (vals news).length))).toArray = ar (ovrL t off news) := by
      rw [hl]
      simp [ar, ovrL, vals, h1]
    rw [e]
    have hx : (goInt (vals news).length) = .int .i64 n := by rw [hl]; rfl
    rw [hx]
    exact h _ (Blk.setRow hg) ⟨rfl, rfl, rfl, by simp [World.setRow], fun i hi hne => setRow_other w g i _ (fun e => hne (by rw [e]))⟩ (by simp [World.setRow])
/-- s[l:], where it is not empty. -/
theorem slice_from_l (W : World) (g off len cap l : Nat) (hl : l < len) (hc : len ≤ cap) : (Instr.slice 26 (.slice (some ⟨g, off, none⟩) len cap) (some (.int .i64 (l : Int))) none none).run Tryz.prog W = .ok (.slice (some ⟨g, off + l, none⟩) (len - l) (cap - l)) W := by
  rw [run_slice_l W 26 _ _ _ (by kernel_rfl) .i64 _ (by omega) (by omega)]
  have hz : (Go.sizeOf (Tryz.prog.elem 26)).run Tryz.prog W = .ok 1 W := by kernel_rfl
  rw [hz]
  simp [Result.andThen, sliced, Addr.add]
  rw [if_neg (by omega)]
  by_cases h0 : l = 0
  · subst h0; simp
  · rw [if_neg h0]
/-- make([]byte, n). -/
theorem mkBytes (n : Nat) (hn : n ≤ 1000000000000) (W : World) : (Instr.makeSlice 26 (.int .i64 n) (.int .i64 n)).run Tryz.prog W = .ok (.slice (some ⟨W.heap.size, 0, none⟩) n n) (W.alloc (.cells (ar (List.replicate n 0)) 5)) := by
  obtain ⟨i0, hi, hz0, hz1, hz2⟩ := info_parts infoU8
  have hr := run_make (P := Tryz.prog) W 26 5 i0 (.int .u8 0) Tryz.underlying26 hi hz0 .i64 .i64 n n (by omega) (Int.le_refl _) (by rw [hz2]; omega) (by omega)
  rw [hz1] at hr
  simp only [Int.toNat_natCast] at hr
  have e : madeCells (Value.int .u8 0).cells (n * 1) = ar (List.replicate n 0) := by
    apply Array.ext
    · simp [size_madeCells, ar, vals]
    · intro i h1 h2
      simp [madeCells, Value.cells, Nat.mod_one, ar, vals]
  rw [e] at hr
  exact hr
end Go.Proofs.YtafbidhbmfdlkaaGreatDoor
/-
  ptr.Row, whatever pointers it is handed; nothing that was there is written.
-/
namespace Go.Proofs.YtafbidhbmfdlkaaGreatDoor
open Go.RowKit Go.Shelf
set_option maxRecDepth 100000

/-- A row's first k pointers, and noughts. -/
def rowTo (L : List Pt) (k : Nat) : List UInt8 := (L.take k).flatMap bytesP ++ List.replicate (256 - 16 * k) 0
theorem flat_length : ∀ L : List Pt, (L.flatMap bytesP).length = 16 * L.length
  | [] => rfl
  | p :: L => by rw [List.flatMap_cons, List.length_append, bytesP_length, flat_length L, List.length_cons]; omega
theorem rowTo_length (L : List Pt) (k : Nat) (hk : k ≤ L.length) (h16 : k ≤ 16) : (rowTo L k).length = 256 := by
  rw [rowTo, List.length_append, flat_length, List.length_take, List.length_replicate]
  omega
theorem rowTo_step (L : List Pt) (k : Nat) (hk : k < L.length) (h16 : k < 16) : ovrL (rowTo L k) (16 * k) (bytesP (L.getD k p0)) = rowTo L (k + 1) := by
  have hf : ((L.take k).flatMap bytesP).length = 16 * k := by rw [flat_length, List.length_take]; omega
  have hg : L.getD k p0 = L[k] := by rw [List.getD_eq_getElem?_getD, List.getElem?_eq_getElem hk]; rfl
  have e1 : (rowTo L k).take (16 * k) = (L.take k).flatMap bytesP := by rw [rowTo, ← hf, List.take_left]
  have e2 : (rowTo L k).drop (16 * k + 16) = List.replicate (256 - 16 * (k + 1)) 0 := by
    rw [rowTo, List.drop_append, hf, List.drop_eq_nil_of_le (by omega), List.nil_append, List.drop_replicate]
    congr 1
    omega
  rw [ovrL, bytesP_length, e1, e2, hg, rowTo, List.take_succ_eq_append_getElem hk, List.flatMap_append, List.append_assoc]
  simp
/-- What Row answers. -/
def rowO (L : List Pt) : List UInt8 × Int := if 16 < L.length then ([], 4) else if ∀ p ∈ L, MayP p then (rowTo L L.length, 0) else ([], 8)

theorem make_256 : ∀ W : World, (Instr.makeSlice 26 (.int .i64 256) (.int .i64 256)).run Tryz.prog W = .ok (.slice (some ⟨W.heap.size, 0, none⟩) 256 256) (W.alloc (.cells (ar (List.replicate 256 0)) 5)) := mkBytes 256 (by omega)
set_option maxHeartbeats 1000000 in
theorem Row_any (a : Option Addr) (len cap : Nat) (L : List Pt) (w : World) (hL : Pts w w.heap.size a len cap L) (hz : Szs w) : Calls Tryz.prog 118 #[.slice a len cap] w (OutB (rowO L).1 (rowO L).2 w) := by
  have hl := hL.1
  have i0 : (0 : Int) ≤ (len : Int) := by omega
  have i1 : (len : Int) ≤ 9223372036854775807 := by have h1 := hL.2.1; have h2 := hL.2.2.1; unfold maxLen at h2; omega
  rw [rowO]
  by_cases h16 : 16 < L.length
  · rw [if_pos h16]
    have i2 : (16 : Int) < (len : Int) := by omega
    clear hz
    have HLL := Lib.hid hL; clear hL
    have HH := Lib.hid h16; clear h16
    clear hl
    go_enter Tryz.func118, Tryz.ntmps118
    go_wp2_with fail
    go_ret2
    exact outB_no rfl (Below.refl _ _)
  · rw [if_neg h16]
    have i2 : ¬ (16 : Int) < (len : Int) := by omega
    obtain ⟨R, hR⟩ : ∃ R, (if ∀ p ∈ L, MayP p then (rowTo L L.length, (0 : Int)) else ([], 8)) = R := ⟨_, rfl⟩
    rw [hR]
    have HRR := Lib.hid hR; clear hR
    have hmk := make_256
    have HLL := Lib.hid hL; clear hL
    have HH := Lib.hid h16; clear h16
    have HZ := Lib.hid hz; clear hz
    have HLN := Lib.hid hl; clear hl
    go_enter Tryz.func118, Tryz.ntmps118
    go_wp2_with fail
    go_loopw [15] (fun i wr => ∃ k : Nat, k ≤ len ∧ i = .int .i64 k ∧ (∀ j, j < k → MayP (L.getD j p0)) ∧ Blk wr w.heap.size 5 (ar (rowTo L k)) ∧ Below w.heap.size w wr) (fun i _ => len - (intOf i).toNat)
    case atStart =>
      refine ⟨0, Nat.zero_le _, rfl, fun j hj => absurd hj (Nat.not_lt_zero _), ?_, (Below.refl _ w).alloc (Nat.le_refl _) _⟩
      have : rowTo L 0 = List.replicate 256 0 := by simp [rowTo]
      rw [this]
      exact Blk.new w _ _
    case round =>
      obtain ⟨k, hk, rfl, hmay, hx, hb⟩ := hrel
      have k0 : (0 : Int) ≤ k := by omega
      have HX := Lib.hid hx; clear hx
      have HB := Lib.hid hb; clear hb
      have HM := Lib.hid hmay; clear hmay
      by_cases hlt : k < len
      · have k1 : (k : Int) < len := by omega
        have k16 : k < 16 := by have := HH.out; have := HLN.out; omega
        have k2 : (k : Int) ≤ 15 := by omega
        obtain ⟨b, off, ea, hblt, hwf, c0, c1, c2, c3, c4⟩ := (HLL.out.below HB.out).cells k hlt
        have hstep := rowTo_step L k (by rw [HLN.out]; exact hlt) k16
        have hlen := rowTo_length L k (by rw [HLN.out]; exact hk) (by omega)
        have HC := HM.out
        obtain ⟨P, hP⟩ : ∃ P, L.getD k p0 = P := ⟨_, rfl⟩
        rw [hP] at hwf c0 c1 c2 c3 c4 hstep
        have hwrite := Write_any P hwf (wr.alloc (.cells (ptC P).toArray 31)) (HZ.out.step (HB.out.alloc HB.out.size _))
        have HBA := Lib.hid (HB.out.alloc HB.out.size (.cells (ptC P).toArray 31))
        have HXA := Lib.hid (HX.out.alloc (.cells (ptC P).toArray 31))
        have HST := Lib.hid hstep; clear hstep
        have HLE := Lib.hid hlen; clear hlen
        have HP := Lib.hid hP; clear hP
        subst ea
        rw [pwriteO] at hwrite
        by_cases h : MayP P
        · rw [if_pos h] at hwrite
          have HH1 := Lib.hid h; clear h HC
          obtain ⟨a', b', c', d', e'⟩ := P
          have HW := Lib.hid hwrite; clear hwrite
          have hsl := fun W => slice_from_l W w.heap.size 0 256 256 (16 * k) (by omega) (Nat.le_refl _)
          have ek : ((16 * k : Nat) : Int) = (k : Int) * 16 := by omega
          simp only [ek, Nat.zero_add] at hsl
          clear ek
          go_wp2_with (first
            | (go_at_call 137
               refine HW.out.mono ?_
               rintro ev w1 ⟨v1, rfl, o1, b1⟩
               rw [bytesP_length] at o1
               obtain ⟨A1, C1, rfl, s1⟩ := own_to o1
               have HS1 := Lib.hid s1
               have HB1 := Lib.hid (HBA.out.trans (b1.mono HBA.out.size))
               have HX1 := Lib.hid (HXA.out.below b1 HXA.out.lt)
               clear o1 s1 b1)
            | (with_reducible refine copyAt ?_
               refine wpList_copy_part rfl (.tmp 31) (.tmp 32) rfl w.heap.size (16 * k) (256 - 16 * k) 16 (256 - 16 * k) rfl (rowTo L k) HX1.out w1.heap.size A1 C1 (bytesP (a', b', c', d', e')) rfl HS1.out (by omega) (by omega) (by rw [HLE.out]; omega) ?_
               intro w2 x2 g2 z2
               rw [HST.out] at x2
               have HX2 := Lib.hid x2
               have HB2 := Lib.hid (below_only HB1.out (Nat.le_refl _) g2 HB1.out.size)
               clear x2 g2 z2))
          go_roundw
          case rel =>
            refine ⟨k + 1, by omega, by go_num, fun j hj => ?_, HX2.out, HB2.out⟩
            by_cases e : j = k
            · subst e
              rw [HP.out]
              exact HH1.out
            · exact HM.out j (by omega)
          case measure => simp [intOf]; omega
        · rw [if_neg h] at hwrite
          have hno : ¬ ∀ p ∈ L, MayP p := fun hall => h (by
            rw [← HP.out, List.getD_eq_getElem?_getD, List.getElem?_eq_getElem (by rw [HLN.out]; exact hlt)]
            exact hall _ (List.getElem_mem _))
          have hR := HRR.out
          rw [if_neg hno] at hR
          subst hR
          clear h HC hno
          obtain ⟨a', b', c', d', e'⟩ := P
          have HW := Lib.hid hwrite; clear hwrite
          go_wp2_with (go_at_call 137
                       refine HW.out.mono ?_
                       rintro ev w1 ⟨v1, rfl, o1, b1⟩
                       have HB1 := Lib.hid (HBA.out.trans (b1.mono HBA.out.size))
                       clear o1 b1)
          go_ret2
          exact outB_no rfl HB1.out
      · obtain rfl : k = len := by omega
        have hall : ∀ p ∈ L, MayP p := fun p hp => by
          obtain ⟨i, hi, rfl⟩ := List.getElem_of_mem hp
          have := HM.out i (by rw [← HLN.out]; exact hi)
          rwa [List.getD_eq_getElem?_getD, List.getElem?_eq_getElem hi] at this
        have hR := HRR.out
        rw [if_pos hall] at hR
        subst hR
        clear hall
        have hlen := rowTo_length L L.length (Nat.le_refl _) (by have := HH.out; omega)
        have HLE := Lib.hid hlen; clear hlen
        go_wp2_with fail
        go_ret2
        refine ⟨_, rfl, ?_, HB.out⟩
        have hx := HX.out
        rw [← HLN.out] at hx
        show wr.ownsRow _ _ _ _ (rowTo L L.length).length _
        rw [HLE.out]
        refine ⟨by simp [vals, HLE.out], .inr ⟨w.heap.size, 256, _, rfl, Nat.le_refl _, hx, Nat.le_refl _, by unfold maxLen; omega, by rw [ar_size, HLE.out], ?_⟩⟩
        show (ar (rowTo L L.length)).toList.take _ = vals (rowTo L L.length)
        rw [List.take_of_length_le (by simp [ar, vals, HLE.out])]
        simp [ar]
end Go.Proofs.YtafbidhbmfdlkaaGreatDoor
/-
  The document's own Packed and Row of pointers.
-/
namespace Go.Proofs.YtafbidhbmfdlkaaGreatDoor
open Go.RowKit Go.Shelf
set_option maxRecDepth 100000

/-- The bytes of the first k places of a row. -/
def packTo (L : List Pt) (k : Nat) : List UInt8 := (List.range k).flatMap fun i => bytesP (L.getD i p0)
theorem packTo_length (L : List Pt) : ∀ k, (packTo L k).length = 16 * k
  | 0 => rfl
  | k + 1 => by
    rw [packTo, List.range_succ, List.flatMap_append, List.length_append]
    have := packTo_length L k
    rw [packTo] at this
    rw [this, List.flatMap_cons, List.flatMap_nil, List.append_nil, bytesP_length]
    omega
theorem packTo_step (L : List Pt) (k : Nat) : packTo L (k + 1) = packTo L k ++ bytesP (L.getD k p0) := by
  rw [packTo, List.range_succ, List.flatMap_append, List.flatMap_cons, List.flatMap_nil, List.append_nil]
  rfl
theorem bytesP_none : bytesP p0 = List.replicate 16 0 := by decide +kernel
theorem packTo_nil : ∀ m, packTo [] m = List.replicate (16 * m) 0
  | 0 => rfl
  | m + 1 => by
    rw [packTo_step, packTo_nil m]
    show _ ++ bytesP p0 = _
    rw [bytesP_none, List.replicate_append_replicate]
    congr 1
theorem packTo_all : ∀ (L : List Pt) (m : Nat), L.length ≤ m → packTo L m = L.flatMap bytesP ++ List.replicate (16 * (m - L.length)) 0
  | [], m, _ => by rw [packTo_nil]; rfl
  | p :: L, m + 1, h => by
    have ih := packTo_all L m (by simpa using h)
    rw [packTo] at ih ⊢
    rw [List.range_succ_eq_map, List.flatMap_cons, List.flatMap_map]
    show bytesP p ++ (List.range m).flatMap (fun i => bytesP (L.getD i p0)) = _
    rw [ih, List.flatMap_cons, List.append_assoc, List.length_cons, Nat.add_sub_add_right]
theorem packTo_row (L : List Pt) (h : L.length ≤ 16) : packTo L 16 = rowTo L L.length := by
  rw [packTo_all L 16 h, rowTo, List.take_length]
  congr 2
  omega
theorem getD_may {L : List Pt} (h : ∀ p ∈ L, MayP p) (i : Nat) : MayP (L.getD i p0) := by
  rcases Nat.lt_or_ge i L.length with hi | hi
  · rw [List.getD_eq_getElem?_getD, List.getElem?_eq_getElem hi]
    exact h _ (List.getElem_mem hi)
  · rw [List.getD_eq_getElem?_getD, List.getElem?_eq_none hi]
    exact may_p0
theorem getD_wf {L : List Pt} (h : ∀ p ∈ L, WfP p) (i : Nat) : WfP (L.getD i p0) := by
  rcases Nat.lt_or_ge i L.length with hi | hi
  · rw [List.getD_eq_getElem?_getD, List.getElem?_eq_getElem hi]
    exact h _ (List.getElem_mem hi)
  · rw [List.getD_eq_getElem?_getD, List.getElem?_eq_none hi]
    exact wf_p0
end Go.Proofs.YtafbidhbmfdlkaaGreatDoor
/-
  A region that draws its order, at the wide fence, is walked as it is everywhere, where nothing in it is deferred.
-/
namespace Go.Proofs.YtafbidhbmfdlkaaGreatDoor
open Go
set_option maxRecDepth 100000

section
variable {P : Program} {Q : Exit → Act → World → Prop} {md : Region.Mode} {m : Nat}

theorem rowsIn_of_rows_w {row : String} {args : Array Value} {w : World} {R : Value → World → Prop} (h : Rows P row args w R) : RowsIn Fence.wide m P row args w R :=
  fun c cs _ => let ⟨v, w', r, s⟩ := h c cs; ⟨v, w', r, stepsIn_wide.2 s⟩

theorem uponIn_of_upon_w {o : Oper} {a : Act} {K K' : Act → World → Prop} (hK : ∀ a w, K a w → K' a w) {r : Result Next} (h : o.upon P a K Q r) : o.uponIn Fence.wide m P a K' Q r := by
  cases r with
  | ok x w' =>
    cases x <;> simp only [Oper.upon, Oper.uponIn] at h ⊢
    case value => exact hK _ _ h
    case skip => exact hK _ _ h
    case defer => exact hK _ _ h
    case enter f args =>
      refine ⟨fun h => by simp [Fence.wide] at h, CallsIn.mono (callsIn_wide.2 h) fun e w'' he => ?_⟩
      cases e <;> first | exact hK _ _ he | exact he
    case row row args => exact ⟨fun h => by simp [Fence.wide] at h, (rowsIn_of_rows_w h).mono fun _ _ he => hK _ _ he⟩
  | halt x w' => cases x <;> simp only [Oper.upon, Oper.uponIn] at h ⊢ <;> exact h

theorem wpAnyIn_of_wpAny_w {ops : List Oper} (hnd : noDefer ops = true) (hlo : ¬ LetsOut Q) : ∀ (fuel : Nat) (listed : Array Bool) (a : Act) (w : World), wpAny P md ops.toArray Q fuel listed a w → wpAnyIn Fence.wide m P md ops.toArray Q fuel listed a w
  | 0, _, _, _, h => h
  | fuel + 1, listed, a, w, h => by
    refine ⟨h.1, fun i hi => ?_⟩
    have hop := h.2 i hi
    have ih : ∀ a w, wpAny P md ops.toArray Q fuel (listed.setIfInBounds i true) a w → wpAnyIn Fence.wide m P md ops.toArray Q fuel (listed.setIfInBounds i true) a w := fun a w => wpAnyIn_of_wpAny_w hnd hlo fuel _ a w
    unfold wpOp at hop
    unfold wpOpIn
    cases ho : ops.toArray[i]? with
    | none => rw [ho] at hop; exact ih _ _ hop
    | some o =>
      rw [ho] at hop
      have hmem : o ∈ ops := by
        rw [List.getElem?_toArray] at ho
        exact List.mem_of_getElem? ho
      simp only at hop ⊢
      split
      · rename_i hw
        rw [if_pos hw] at hop
        rcases hop with hop | ⟨_, hl⟩
        · refine ⟨fun _ _ => trivial, ?_⟩
          show Oper.uponIn _ _ _ _ _ _ _ (Sem.run P (o.semAt none a.eval) w)
          rw [Oper.semAt_none]
          exact uponIn_of_upon_w ih hop
        · exact absurd hl hlo
      · rename_i hw
        rw [if_neg hw] at hop
        exact ⟨fun _ _ => trivial, ih _ _ hop⟩

/-- A region that draws its order, in a function that stands in a fence: as everywhere, where nothing is deferred. -/
theorem region_wide {ops : List Oper} {id : Nat} {a : Act} {w : World} (hm : P.follows .mixedOrders = true) (hnd : noDefer ops = true) (hlo : ¬ LetsOut Q)
    (h : wpAny P .any ops.toArray Q ops.length (Array.replicate ops.length false) a w.drew) : (Code.region id ops.toArray true).wpIn Fence.wide m P Q a w :=
  wpIn_region_any hm (by simpa using wpAnyIn_of_wpAny_w (m := m) hnd hlo _ _ _ _ h)

/-- Reads, and one write at the end: the reads in the text's order, then the write. -/
theorem region_wide_tail {ops : List Oper} {id : Nat} {a : Act} {w : World} (n : Nat) (hm : P.follows .mixedOrders = true) (hnd : noDefer ops = true) (hlo : ¬ LetsOut Q) (hB : Region.lexTailB .any ops.toArray n = true)
    (h : wpStill P ops.toArray w.drew (fun a' => wpList P ops.toArray Q (ops.drop n) a' w.drew) (ops.take n) a) : (Code.region id ops.toArray true).wpIn Fence.wide m P Q a w := by
  refine region_wide hm hnd hlo ?_
  simp only [Region.lexTailB, Bool.and_eq_true, decide_eq_true_eq] at hB
  obtain ⟨⟨⟨⟨hsel, hn⟩, hs⟩, hc⟩, hlex⟩ := hB
  have hn' : n < ops.length := by simpa using hn
  have ht : (ops.take n).length = n := by simp; omega
  have hst : HeadInv .any ops.toArray n (Array.replicate ops.toArray.size false) :=
    ⟨by simp, fun j oj _ hl => (by rw [getD_replicate_false] at hl; cases hl), fun t _ ht => getD_in (by simpa using ht) (getD_replicate_false _ _)⟩
  have H := wpAnyL_lex (md := .any) (g := ops.toArray.size - n) hsel hs hc hn (ops.take n) 0 _ a (fun j hj => by rw [ht] at hj; simp [hj]) (by omega) hst (by rw [ht]; exact hlex) h
  have G := wpAny_of_head (Q' := Q) (g := ops.toArray.size - n) (fun listed a' hL => by
    have := wpAny_of_seq (md := .any) (Q' := Q) (ops.drop n) n listed a' w.drew (fun j => by simp) (by simpa using hL.1) hL.2
    simpa using this) _ _ _ H
  have e : (ops.take n).length + (ops.toArray.size - n) = ops.length := by simp; omega
  rw [e] at G
  simpa using G
/-- The same, the world behind the draw under a name. -/
theorem region_wide_named {ops : List Oper} {id : Nat} {a : Act} {w w1 : World} (n : Nat) (hm : P.follows .mixedOrders = true) (hnd : noDefer ops = true) (hlo : ¬ LetsOut Q) (hB : Region.lexTailB .any ops.toArray n = true) (hw : w.drew = w1)
    (h : wpStill P ops.toArray w1 (fun a' => wpList P ops.toArray Q (ops.drop n) a' w1) (ops.take n) a) : (Code.region id ops.toArray true).wpIn Fence.wide m P Q a w := by
  subst hw
  exact region_wide_tail n hm hnd hlo hB h
end
end Go.Proofs.YtafbidhbmfdlkaaGreatDoor
/-
  slices.Chunk of a slice of bytes by sixteens, of a length that sixteens make up, hands the loop its windows in their order.
-/
namespace Go.Proofs.YtafbidhbmfdlkaaGreatDoor
open Go.RowKit Go.Shelf
set_option maxRecDepth 100000
attribute [local go_sem] Oper.semAt_some

/-- What the walk goes on reading: the box of the slice, and that of the size. -/
def ReachD (Bs Bn : Nat) (A : Option Addr) (q cap : Nat) (W : World) : Prop :=
  W.cell? ⟨Bs, 0, none⟩ = some (.slice A (16 * q) cap) ∧ W.cell? ⟨Bn, 0, none⟩ = some (.int .i64 16)

theorem chunk16_in (F : Fence) (n : Nat) (h : F.fn 159) (hro : F.round = none) (a : Option Addr) (len cap : Nat) (w : World) :
    CallsIn F n Tryz.prog 159 #[.slice a len cap, .int .i64 16] w fun e w' => e = .returned (.func (.func 230) #[] #[.pointer (some ⟨w.heap.size, 0, none⟩), .pointer (some ⟨w.heap.size + 1, 0, none⟩)]) ∧
      w' = (w.alloc (.cells #[.slice a len cap] 26)).alloc (.cells #[.int .i64 16] 3) := by
  refine callsIn_of_wp Tryz.func159 rfl h ?_ hro
  simp only [Tryz.ntmps159, List.size_toArray, List.length_cons, List.length_nil, Nat.reduceAdd, Nat.reduceSub, Array.replicate_succ, Array.replicate_zero, List.push_toArray, List.append_toArray, List.nil_append, List.cons_append]
  gi_wp2
  go_ret
  exact ⟨rfl, rfl⟩

/-- The window of number x. -/
@[reducible] def win16 (b off : Nat) (x : Nat) : Array Value := #[.slice (some ⟨b, off + 16 * x, none⟩) 16 16]

set_option maxHeartbeats 2000000 in
theorem chunk16b_in (n : Nat) (hn : 1 ≤ n) (l Bs Bn b off q cap : Nat) (A : Option Addr) (hA : 0 < q → A = some ⟨b, off, none⟩) (hqc : 16 * q ≤ cap) (hcm : cap ≤ 9223372036854775807) (J Jx : List (Fin q) → World → Prop)
    (hY : ∀ pre x W, J pre W → pre.length < q → YieldAt Fence.wide (n - 1) Tryz.prog l (win16 b off x.val) W fun e W' =>
      (e = .returned (.bool true) ∧ J (pre ++ [x]) W' ∧ (ReachD Bs Bn A q cap W → ReachD Bs Bn A q cap W')) ∨ (e = .returned (.bool false) ∧ Jx (pre ++ [x]) W'))
    (hJd : ∀ pre W, J pre W → J pre W.drew)
    (W : World) (hR : ReachD Bs Bn A q cap W) (h0 : J [] W) :
    CallsIn Fence.wide n Tryz.prog 230 #[.func (.yield l) #[] #[], .pointer (some ⟨Bs, 0, none⟩), .pointer (some ⟨Bn, 0, none⟩)] W fun e W' => (∃ v, e = .returned v) ∧
      ((∃ ys, ys.map (·.val) = List.range q ∧ J ys W') ∨ (∃ pre, pre.map (·.val) = List.range pre.length ∧ Jx pre W')) := by
  refine callsIn_of_wp Tryz.func230 rfl trivial ?_ rfl
  simp only [Tryz.ntmps230, List.size_toArray, List.length_cons, List.length_nil, Nat.reduceAdd, Nat.reduceSub, Array.replicate_succ, Array.replicate_zero, List.push_toArray, List.append_toArray, List.nil_append, List.cons_append]
  have hmx : Tryz.prog.follows Departure.mixedOrders = true := by kernel_rfl
  have HR := Lib.hid hR
  clear hR
  gi_wp2
  gi_loopw [4] (fun i wr => ∃ pre : List (Fin q), pre.map (·.val) = List.range pre.length ∧ pre.length ≤ q ∧ i = .int .i64 ((16 * pre.length : Nat) : Int) ∧ J pre wr ∧ ReachD Bs Bn A q cap wr)
    (fun i _ => 16 * q - (intOf i).toNat)
  case atStart => exact ⟨[], rfl, Nat.zero_le _, rfl, h0, HR.out⟩
  case round =>
    obtain ⟨pre, hC, hle, rfl, hJs, hRs⟩ := hrel
    obtain ⟨k, hk⟩ : ∃ k, pre.length = k := ⟨_, rfl⟩
    have hb1 := hRs.1
    have hb2 := hRs.2
    obtain ⟨m, hm⟩ : ∃ m : Nat, 16 * k = m := ⟨_, rfl⟩
    obtain ⟨L, hL⟩ : ∃ L : Nat, 16 * q = L := ⟨_, rfl⟩
    rw [hL] at hb1
    rw [hk, hm]
    by_cases hlt : k < q
    · rw [hA (by omega)] at hb1
      have hmL : m < L := by omega
      have hm8 : m + 16 ≤ L := by omega
      have hLc : L ≤ cap := by omega
      have HRs := Lib.hid hRs; clear hRs
      have HM := Lib.hid hm; clear hm
      have HL := Lib.hid hL; clear hL
      have HK := Lib.hid hk; clear hk
      have h8 : ((m : Int) < (L : Int)) := by omega
      have h80 : (0 : Int) ≤ (m : Int) := by omega
      have h8m : (L : Int) ≤ 9223372036854775807 := by omega
      have hsl := fun W => slice_from_l W b off L cap m hmL hLc
      have hmin : min (16 : Int) ((L - m : Nat) : Int) = 16 := by omega
      gi_wp2
      refine region_wide_tail 6 hmx (by kernel_rfl) (fun h => by obtain ⟨_, _, ⟨v, hv⟩, _⟩ := h; cases hv) (by kernel_rfl) ?_
      simp only [List.take_succ_cons, List.take_zero, List.drop_succ_cons, List.drop_zero]
      repeat still_step
      refine wpStill_nil ?_
      obtain ⟨fn, tmps, assign, body, hy, hR⟩ := hY pre ⟨k, hlt⟩ wr.drew (hJd _ _ hJs) (by rw [HK.out]; exact hlt)
      have hw : win16 b off k = #[.slice (some ⟨b, off + m, none⟩) 16 16] := by rw [win16, HM.out]
      dsimp only at hy
      rw [hw] at hy
      clear hw
      have HC := Lib.hid hC; clear hC
      go_wp2
      gi_wp2
      refine hR.mono ?_
      rintro e W3 (⟨rfl, hJ3, hk3⟩ | ⟨rfl, hJx3⟩)
      · have hr3 := hk3 HRs.out
        have hb3 := hr3.2
        have HR3 := Lib.hid hr3; clear hr3 hk3
        gi_wp2
        go_roundw
        case rel => exact ⟨pre ++ [⟨k, hlt⟩], by simp [HC.out, List.range_succ, HK.out], by simp; rw [HK.out]; omega, by simp [HK.out]; have := HM.out; omega, hJ3, HR3.out⟩
        case measure => simp [intOf]; have := HM.out; have := HL.out; omega
      · gi_wp2
        refine bodyPost_ret (results_none rfl _ _ _) rfl ?_
        exact ⟨⟨_, rfl⟩, .inr ⟨_, by simp [HC.out, List.range_succ, HK.out], hJx3⟩⟩
    · have hkq : k = q := by omega
      have hmL : m = L := by omega
      rw [hmL]
      have HRs := Lib.hid hRs; clear hRs
      have HM := Lib.hid hm; clear hm
      have HL := Lib.hid hL; clear hL
      have HK := Lib.hid hk; clear hk
      have HKQ := Lib.hid hkq; clear hkq
      have HC := Lib.hid hC; clear hC
      clear hmL
      gi_wp2
      go_end0
      exact ⟨⟨_, rfl⟩, .inl ⟨pre, by rw [HC.out, HK.out, HKQ.out], hJs⟩⟩

theorem reachD_putObj {Bs Bn : Nat} {A : Option Addr} {q cap : Nat} {W : World} (l : Nat) (o o' : Obj) (h : W.heap[l]? = some o) (ho : o.isCells = false) (hR : ReachD Bs Bn A q cap W) : ReachD Bs Bn A q cap (W.putObj l o') := by
  have hk : ∀ r, some l = some r → ∃ o : Obj, W.heap[r]? = some o ∧ o.isCells = false := fun r e => by cases e; exact ⟨_, h, ho⟩
  exact ⟨cell_kept hR.1 (grownBy_putObj' W l o') hk, cell_kept hR.2 (grownBy_putObj' W l o') hk⟩

theorem stopsD (n : Nat) (hn : 1 ≤ n) (Bs Bn b off q cap : Nat) (A : Option Addr) (hA : 0 < q → A = some ⟨b, off, none⟩) (hqc : 16 * q ≤ cap) (hcm : cap ≤ 9223372036854775807) (w : World) (hBs : Bs < w.heap.size) (hBn : Bn < w.heap.size) (hR : ReachD Bs Bn A q cap w) :
    SeqStopsK Fence.wide n Tryz.prog 230 #[.pointer (some ⟨Bs, 0, none⟩), .pointer (some ⟨Bn, 0, none⟩)] (fun x : Fin q => win16 b off x.val) (fun W W' => ReachD Bs Bn A q cap W → ReachD Bs Bn A q cap W')
      (fun ys => ys.map (·.val) = List.range q) (fun pre => pre.map (·.val) = List.range pre.length) q w := fun l J Jx W hW hJ _ hY h0 =>
  chunk16b_in n hn l Bs Bn b off q cap A hA hqc hcm J Jx hY (fun s W1 h => hJ s W1 W1.drew none h (only_drew (World.grownBy.refl W1 none)) (fun r e => by cases e)) W
    ⟨(hW.cell (p := ⟨Bs, 0, none⟩) hBs).trans hR.1, (hW.cell (p := ⟨Bn, 0, none⟩) hBn).trans hR.2⟩ h0
end Go.Proofs.YtafbidhbmfdlkaaGreatDoor
/-
  ptr.Rows, whatever bytes it is handed; nothing that was there is written.
-/
namespace Go.Proofs.YtafbidhbmfdlkaaGreatDoor
open Go.RowKit Go.Shelf
set_option maxRecDepth 100000
attribute [local go_sem] Oper.semAt_some

/-- The window of number i. -/
def winP (s : List UInt8) (i : Nat) : List UInt8 := (s.drop (16 * i)).take 16
/-- The pointers of a row. -/
def rowsL (s : List UInt8) : List Pt := (List.range 16).map fun i => getP (winP s i)
/-- What Rows answers. -/
def rowsO (s : List UInt8) : List Pt × Int := if s.length = 256 then (if ∀ p ∈ rowsL s, MayP p then (rowsL s, 0) else ([], 8)) else ([], 3)
/-- A list of pointers of the call's own, and an error's number. -/
def OutL (L : List Pt) (c : Int) (w : World) (e : Ending) (w' : World) : Prop := ∃ v, e = .returned (.tuple #[v, .int .i64 c]) ∧ PRow w' w.heap.size v L ∧ Below w.heap.size w w'

/-- What the loop keeps. -/
def RwI (s : List UInt8) (g q : Nat) (pre : List (Fin q)) (W : World) : Prop :=
  Blk W g 100 #[.slice none 0 0] ∧ Blk W (g + 1) 37 #[.int .i64 0] ∧ Blk W (g + 3) 100 #[.slice (some ⟨g + 2, 0, none⟩) pre.length 16] ∧
    W.ownsRow g 31 5 (.slice (some ⟨g + 2, 0, none⟩) pre.length 16) pre.length (ptCs (pre.map fun x => getP (winP s x.val))) ∧ ∀ x ∈ pre, MayP (getP (winP s x.val))
/-- What stands where it was left. -/
def RwX (s : List UInt8) (g : Nat) (W : World) : Prop := Blk W g 100 #[.slice none 0 0] ∧ Blk W (g + 1) 37 #[.int .i64 8] ∧ ∃ i, i < 16 ∧ ¬ MayP (getP (winP s i))
theorem own_kept5 {w w' : World} {B g n cap : Nat} {e : TypeId} {size : Nat} {xs : List Value} {row : Option Nat} (h : w.ownsRow B e size (.slice (some ⟨g, 0, none⟩) n cap) n xs) (hg : w.grownBy w' row) (hk : ∀ r, row = some r → ∃ o : Obj, w.heap[r]? = some o ∧ o.isCells = false) : w'.ownsRow B e size (.slice (some ⟨g, 0, none⟩) n cap) n xs := by
  refine h.kept hg (.inr fun er => ?_)
  obtain ⟨o, ho, hc⟩ := hk g (by simpa [Value.ownBlock] using er.symm)
  obtain ⟨h1, ⟨h2, h3⟩ | ⟨g', cap', cur, h2, hb, hh, _⟩⟩ := h
  · cases h2
  · cases h2
    rw [hh] at ho; cases ho; cases hc
theorem own5_blk {w : World} {B g n cap : Nat} {e : TypeId} {size : Nat} {xs : List Value} (h : w.ownsRow B e size (.slice (some ⟨g, 0, none⟩) n cap) n xs) : ∃ cs, Blk w g e cs := by
  obtain ⟨h1, ⟨h2, h3⟩ | ⟨g', cap', cur, h2, hb, hh, _⟩⟩ := h
  · cases h2
  · cases h2
    exact ⟨_, hh⟩
theorem rwI_own (s : List UInt8) (g q : Nat) : Own (RwI s g q) := fun pre A B row hs hg hr => by
  obtain ⟨h1, h2, h3, h4, h5⟩ := hs
  exact ⟨blk_kept h1 hg hr, blk_kept h2 hg hr, blk_kept h3 hg hr, own_kept5 h4 hg hr, h5⟩
theorem rwX_own {β : Type} (s : List UInt8) (g : Nat) : Own (fun (_ : β) W => RwX s g W) := fun pre A B row hs hg hr => by
  obtain ⟨h1, h2, h3⟩ := hs
  exact ⟨blk_kept h1 hg hr, blk_kept h2 hg hr, h3⟩
theorem kept_below {W W' : World} (h : Below W.heap.size W W') : KeepsOthers W W' := ⟨h.size, fun k _ hk _ => (h.block k (Array.getElem?_eq_some_iff.1 hk).1).trans hk⟩
theorem atAppendIn {F : Fence} {n : Nat} {P : Program} {ops : Array Oper} {Q : Exit → Act → World → Prop} {a : Act} {w : World} {rest : List Oper} {d : Option Tmp} {ty : TypeId} {x : Array Operand} {y : Array TypeId} {pos : String} {af : Array Edge} (h : wpListIn F n P ops Q (⟨d, .call { callee := .builtin .append, args := x, argTypes := y }, ty, pos, af, none⟩ :: rest) a w) : wpListIn F n P ops Q (⟨d, .call { callee := .builtin .append, args := x, argTypes := y }, ty, pos, af, none⟩ :: rest) a w := h
theorem below_putO {B l : Nat} (W : World) (o : Obj) (h : B ≤ l) : Below B W (W.putObj l o) := ⟨rfl, rfl, rfl, by simp, fun k hk => World.putObj_heap_other (by omega)⟩
theorem infoPt : (Tryz.prog.info? 31).map (fun i => (i.zero, i.size, i.bytes)) = some (some (.agg #[.int .i64 0, .int .u32 0, .int .u32 0, .int .u32 0, .int .u32 0]), 5, 24) := by kernel_rfl
theorem make_pts : ∃ cs : Array Value, cs.size = 80 ∧ ∀ W : World, (Instr.makeSlice 100 (.int .i64 0) (.int .i64 16)).run Tryz.prog W = .ok (.slice (some ⟨W.heap.size, 0, none⟩) 0 16) (W.alloc (.cells cs 31)) := by
  obtain ⟨i0, hi, hz0, hz1, hz2⟩ := info_parts infoPt
  refine ⟨madeCells (Value.agg #[.int .i64 0, .int .u32 0, .int .u32 0, .int .u32 0, .int .u32 0]).cells (16 * i0.size), by rw [size_madeCells, hz1], fun W => ?_⟩
  have hr := run_make (P := Tryz.prog) W 100 31 i0 (.agg #[.int .i64 0, .int .u32 0, .int .u32 0, .int .u32 0, .int .u32 0]) Tryz.underlying100 hi hz0 .i64 .i64 0 16 (Int.le_refl _) (by omega) (by rw [hz2]; omega) (by omega)
  simpa using hr
set_option maxHeartbeats 4000000 in
theorem rows_in (m : Nat) (hm : 3 ≤ m) (a : Option Addr) (cap : Nat) (s : List UInt8) (w : World) (hB : Bsl w w.heap.size a 256 cap s) (hz : Szs w) :
    CallsIn Fence.wide m Tryz.prog 209 #[.slice a 256 cap] w (OutL (rowsO s).1 (rowsO s).2 w) := by
  have hro : Fence.wide.round = none := rfl
  have hmx : Tryz.prog.follows Departure.mixedOrders = true := by kernel_rfl
  obtain ⟨cs, hcs, hmk⟩ := make_pts
  have hs := hB.1
  obtain ⟨b, off, ea, hblt, hcell⟩ := hB.2.2.2.2 (by omega)
  subst ea
  have hcap := hB.2.1
  have hcm := hB.2.2.1
  obtain ⟨R, hR⟩ : ∃ R, rowsO s = R := ⟨_, rfl⟩
  rw [hR]
  have HRR := Lib.hid hR; clear hR
  have HCS := Lib.hid hcs; clear hcs
  have HB := Lib.hid hB; clear hB
  have HZ := Lib.hid hz; clear hz
  have HS := Lib.hid hs; clear hs
  have HCE := Lib.hid hcell; clear hcell
  refine callsIn_of_wp_marks Tryz.func209 rfl trivial ?_ hro
  simp only [Tryz.ntmps209, List.size_toArray, List.length_cons, List.length_nil, Nat.reduceAdd, Nat.reduceSub, Array.replicate_succ, Array.replicate_zero, List.push_toArray, List.append_toArray, List.nil_append, List.cons_append]
  have hd : 1 ≤ m := by omega
  gi_wp2_with (refine ⟨trivial, ?_⟩; (gi_at_call 159; refine (chunk16_in Fence.wide (m - 1) trivial hro _ _ _ _).mono ?_; rintro e w' ⟨rfl, rfl⟩))
  obtain ⟨g, hg⟩ : ∃ g, w.heap.size = g := ⟨_, rfl⟩
  obtain ⟨W0, hW0⟩ : ∃ W0, ((((((w.alloc (Obj.cells #[Value.slice none 0 0] 100)).alloc (Obj.cells #[Value.int IntKind.i64 0] 37)).alloc (Obj.cells cs 31)).alloc (Obj.cells #[Value.slice (some { block := w.heap.size + 1 + 1, off := 0 }) 0 16] 100)).alloc (Obj.cells #[Value.slice (some { block := b, off := off }) 256 cap] 26)).alloc (Obj.cells #[Value.int IntKind.i64 16] 3)) = W0 := ⟨_, rfl⟩
  have hsz : W0.heap.size = g + 6 := by rw [← hW0]; simp [hg]
  have hB0 : Below g w W0 := by rw [← hW0, ← hg]; exact ((((((Below.refl _ w).alloc (Nat.le_refl _) _).alloc (by simp) _).alloc (by simp; omega) _).alloc (by simp; omega) _).alloc (by simp; omega) _).alloc (by simp; omega) _
  have b0 : Blk W0 (g) 100 #[.slice none 0 0] := by
    have := (((((Blk.new w 100 #[.slice none 0 0]).alloc (Obj.cells #[Value.int IntKind.i64 0] 37)).alloc (Obj.cells cs 31)).alloc (Obj.cells #[Value.slice (some { block := w.heap.size + 1 + 1, off := 0 }) 0 16] 100)).alloc (Obj.cells #[Value.slice (some { block := b, off := off }) 256 cap] 26)).alloc (Obj.cells #[Value.int IntKind.i64 16] 3)
    rw [hW0, hg] at this
    exact this
  have b1 : Blk W0 (g + 1) 37 #[.int .i64 0] := by
    have := ((((Blk.new (w.alloc (Obj.cells #[Value.slice none 0 0] 100)) 37 #[.int .i64 0]).alloc (Obj.cells cs 31)).alloc (Obj.cells #[Value.slice (some { block := w.heap.size + 1 + 1, off := 0 }) 0 16] 100)).alloc (Obj.cells #[Value.slice (some { block := b, off := off }) 256 cap] 26)).alloc (Obj.cells #[Value.int IntKind.i64 16] 3)
    rw [World.size_alloc, hW0, hg] at this
    exact this
  have b2 : Blk W0 (g + 2) 31 cs := by
    have := (((Blk.new ((w.alloc (Obj.cells #[Value.slice none 0 0] 100)).alloc (Obj.cells #[Value.int IntKind.i64 0] 37)) 31 cs).alloc (Obj.cells #[Value.slice (some { block := w.heap.size + 1 + 1, off := 0 }) 0 16] 100)).alloc (Obj.cells #[Value.slice (some { block := b, off := off }) 256 cap] 26)).alloc (Obj.cells #[Value.int IntKind.i64 16] 3)
    rw [World.size_alloc, World.size_alloc, hW0, hg] at this
    exact this
  have b3 : Blk W0 (g + 3) 100 #[.slice (some ⟨g + 1 + 1, 0, none⟩) 0 16] := by
    have := ((Blk.new (((w.alloc (Obj.cells #[Value.slice none 0 0] 100)).alloc (Obj.cells #[Value.int IntKind.i64 0] 37)).alloc (Obj.cells cs 31)) 100 #[.slice (some ⟨w.heap.size + 1 + 1, 0, none⟩) 0 16]).alloc (Obj.cells #[Value.slice (some { block := b, off := off }) 256 cap] 26)).alloc (Obj.cells #[Value.int IntKind.i64 16] 3)
    rw [World.size_alloc, World.size_alloc, World.size_alloc, hW0, hg] at this
    exact this
  have b4 : Blk W0 (g + 4) 26 #[.slice (some ⟨b, off, none⟩) 256 cap] := by
    have := (Blk.new ((((w.alloc (Obj.cells #[Value.slice none 0 0] 100)).alloc (Obj.cells #[Value.int IntKind.i64 0] 37)).alloc (Obj.cells cs 31)).alloc (Obj.cells #[Value.slice (some { block := w.heap.size + 1 + 1, off := 0 }) 0 16] 100)) 26 #[.slice (some ⟨b, off, none⟩) 256 cap]).alloc (Obj.cells #[Value.int IntKind.i64 16] 3)
    rw [World.size_alloc, World.size_alloc, World.size_alloc, World.size_alloc, hW0, hg] at this
    exact this
  have b5 : Blk W0 (g + 5) 3 #[.int .i64 16] := by
    have := Blk.new (((((w.alloc (Obj.cells #[Value.slice none 0 0] 100)).alloc (Obj.cells #[Value.int IntKind.i64 0] 37)).alloc (Obj.cells cs 31)).alloc (Obj.cells #[Value.slice (some { block := w.heap.size + 1 + 1, off := 0 }) 0 16] 100)).alloc (Obj.cells #[Value.slice (some { block := b, off := off }) 256 cap] 26)) 3 #[.int .i64 16]
    rw [World.size_alloc, World.size_alloc, World.size_alloc, World.size_alloc, World.size_alloc, hW0, hg] at this
    exact this
  obtain ⟨q, hq⟩ : ∃ q, q = 16 := ⟨_, rfl⟩
  have hqL : 16 * q = 256 := by omega
  have ho0 : W0.ownsRow g 31 5 (.slice (some ⟨g + 2, 0, none⟩) 0 16) 0 [] :=
    ⟨rfl, .inr ⟨g + 2, 16, cs, rfl, by omega, b2, Nat.zero_le _, by unfold maxLen; omega, by rw [HCS.out], rfl⟩⟩
  rw [hW0, hg]
  have hR : ReachD (g + 4) (g + 5) (some ⟨b, off, none⟩) q cap W0 := ⟨by rw [hqL]; exact b4.cell 0, b5.cell 0⟩
  refine wpIn_rangeFunc_ownG hro hd (gf := 230) (lb := #[.pointer (some ⟨g + 1 + 1 + 1 + 1, 0, none⟩), .pointer (some ⟨g + 1 + 1 + 1 + 1 + 1, 0, none⟩)]) rfl trivial (enters_of Tryz.func230 (by kernel_rfl) rfl)
    (stopsD (m - 1) (by omega) (g + 1 + 1 + 1 + 1) (g + 1 + 1 + 1 + 1 + 1) b off q cap (some ⟨b, off, none⟩) (fun _ => rfl) (by omega) (by unfold maxLen at hcm; omega) W0 (by omega) (by omega) hR) (fun h k r => k (h r)) (fun W l o o' _ h ho _ => reachD_putObj l o o' h ho) (Below.refl _ _) (fun _ => rfl)
    (fun pre W => RwI s g q pre W ∧ Below g w W) (fun c _ W => c = .ret ∧ RwX s g W ∧ Below g w W) ?hI ?hIx ⟨⟨b0, b1, b3, ho0, fun _ h => by cases h⟩, hB0⟩
    (fun x => { tmps := #[Value.slice (some { block := b, off := off }) 256 cap, undef, Value.pointer (some { block := g, off := 0 }), Value.pointer (some { block := g + 1, off := 0 }), Value.pointer (some { block := g + 1 + 1 + 1, off := 0 }),
          .slice (some ⟨b, off + 16 * x.val, none⟩) 16 16, undef, undef, Value.slice (some { block := b, off := off }) 256 cap, Value.int IntKind.i64 256, Value.bool false,
          Value.slice (some { block := g + 1 + 1, off := 0 }) 0 16, Value.slice (some { block := b, off := off }) 256 cap,
          Value.func (Fn.func 230) #[] #[Value.pointer (some { block := g + 1 + 1 + 1 + 1, off := 0 }), Value.pointer (some { block := g + 1 + 1 + 1 + 1 + 1, off := 0 })],
          .slice (some ⟨b, off + 16 * x.val, none⟩) 16 16, undef, undef, undef, undef, undef, undef, undef, undef, undef, undef, undef, undef, undef], defers := [] }) ?assign ?body ?done ?stop
  case hI => exact OwnFrom.and ((rwI_own s g q).from _) (ownFrom_below (by omega) (by omega))
  case hIx =>
    intro c
    exact fun pre A B row hs hg' hr => ⟨hs.1, ((rwX_own s g).from _) pre A B row hs.2.1 hg' hr, (ownFrom_below (by omega) (by omega)) pre A B row hs.2.2 hg' hr⟩
  case assign =>
    intro l x W K hK
    gi_wp2
    exact hK
  case body =>
    rintro l pre x W ⟨⟨h1, h2, h3, h4, h5⟩, hb⟩ hpl
    obtain ⟨n, hn⟩ : ∃ n, pre.length = n := ⟨_, rfl⟩
    obtain ⟨j, hj⟩ : ∃ j, x.val = j := ⟨_, rfl⟩
    have hj16 : j < 16 := by rw [← hj]; have := x.isLt; omega
    rw [hn] at h3 h4 hpl
    rw [hj]
    have hzW : g ≤ W.heap.size := by rw [← hg]; exact hb.size
    have hlen : (winP s j).length = 16 := win_length (by have := HS.out; omega)
    have hbW : Bsl W W.heap.size (some ⟨b, off + 16 * j, none⟩) 16 16 (winP s j) := by
      refine ⟨hlen, Nat.le_refl _, by unfold maxLen; omega, fun e => (by cases e), fun _ => ⟨b, off + 16 * j, rfl, by omega, fun i hi => ?_⟩⟩
      have hi' : 16 * j + i < s.length := by have := HS.out; omega
      rw [Nat.add_assoc, hb.cell (p := ⟨b, off + (16 * j + i), none⟩) (by rw [← hg]; exact hblt), HCE.out (16 * j + i) hi']
      simp [winP]
    have hread := Read_any _ 16 16 (winP s j) W hbW (HZ.out.below hb (by rw [← hg]; exact HZ.out.1))
    rw [preadO, if_pos hlen] at hread
    have hwf := wf_getP (winP s j)
    obtain ⟨P, hP⟩ : ∃ P, getP (winP s j) = P := ⟨_, rfl⟩
    rw [hP] at hread hwf
    by_cases hmay : MayP P
    · rw [if_pos hmay] at hread
      obtain ⟨a', b', c', d', e'⟩ := P
      have HRD := Lib.hid hread
      have H1 := Lib.hid h1
      have H2 := Lib.hid h2
      have H3 := Lib.hid h3
      have H4 := Lib.hid h4
      have H5 := Lib.hid h5
      have HBW := Lib.hid hb
      have HN := Lib.hid hn
      have HJ := Lib.hid hj
      have HP := Lib.hid hP
      have HMY := Lib.hid hmay
      have HWF := Lib.hid hwf
      have HG := Lib.hid hg
      clear hread h1 h2 h3 h4 h5 hb hn hj hP hmay hwf hg hbW hlen b0 b1 b2 b3 b4 b5 ho0 hR hB0 hW0
      have hd2 : 1 ≤ m - 1 - 1 := by omega
      gi_wp2
      refine ⟨trivial, ?_⟩
      refine (CallsIn.inRound l (callsIn_wide.2 HRD.out)).mono ?_
      rintro e W1 ⟨rfl, bb⟩
      have g3 := H3.out.below bb H3.out.lt
      have c3 : ∀ o : Obj, (W1.alloc o).cell? ⟨g + 1 + 1 + 1, 0, none⟩ = some (.slice (some ⟨g + 2, 0, none⟩) n 16) := fun o => (g3.alloc o).cell 0
      have HBB := Lib.hid bb
      clear bb g3
      obtain ⟨W2, hW2⟩ : ∃ W2, (W1.alloc (.cells #[.int .i64 a', .int .u32 (b' : Int), .int .u32 (c' : Int), .int .u32 (d' : Int), .int .u32 (e' : Int)] 31)).alloc (.cells #[.int .i64 a', .int .u32 (b' : Int), .int .u32 (c' : Int), .int .u32 (d' : Int), .int .u32 (e' : Int)] 31) = W2 := ⟨_, rfl⟩
      have hb12 : Below W1.heap.size W1 W2 := by rw [← hW2]; exact ((Below.refl _ W1).alloc (Nat.le_refl _) _).alloc (by simp) _
      have hxn : Blk W2 (W1.heap.size + 1) 31 #[.int .i64 a', .int .u32 (b' : Int), .int .u32 (c' : Int), .int .u32 (d' : Int), .int .u32 (e' : Int)] := by
        have := Blk.new (W1.alloc (.cells #[.int .i64 a', .int .u32 (b' : Int), .int .u32 (c' : Int), .int .u32 (d' : Int), .int .u32 (e' : Int)] 31)) 31 #[.int .i64 a', .int .u32 (b' : Int), .int .u32 (c' : Int), .int .u32 (d' : Int), .int .u32 (e' : Int)]
        rw [hW2, World.size_alloc] at this
        exact this
      have hb2 : Below W.heap.size W W2 := HBB.out.trans (hb12.mono HBB.out.size)
      have ho2 := own_below (own_below H4.out HBB.out) hb12
      have x0 := H1.out.below hb2 H1.out.lt
      have x1 := H2.out.below hb2 H2.out.lt
      have x3 := H3.out.below hb2 H3.out.lt
      have hBW2 : Below g w W2 := HBW.out.trans (hb2.mono hzW)
      obtain ⟨i0, hi, hz0, hz1, hz2⟩ := info_parts infoPt
      have HW2 := Lib.hid hW2
      have HX0 := Lib.hid x0
      have HX1 := Lib.hid x1
      have HX3 := Lib.hid x3
      have HO2 := Lib.hid ho2
      have HB2 := Lib.hid hb2
      have HBW2 := Lib.hid hBW2
      have HXN := Lib.hid hxn
      clear hW2 x0 x1 x3 ho2 hb2 hBW2 hxn hb12
      gi_wp2_with (with_reducible refine atAppendIn ?_
                   rw [HW2.out]
                   refine wpListIn_append_fits W2 rfl (.tmp 23) (.tmp 25) 100 rfl g 31 i0 5 Tryz.underlying100 hi hz1 (g + 2) n 16 _ rfl HO2.out ⟨W1.heap.size + 1, 0, none⟩ 1 1 (ptC (a', b', c', d', e')) rfl rfl
                     (fun t u hu => by
                        have e1 : (⟨W1.heap.size + 1, 0, none⟩ : Addr).add t = ⟨W1.heap.size + 1, t, none⟩ := by unfold Addr.add; split <;> simp_all
                        rw [e1, HXN.out.cell t]
                        show (ptC (a', b', c', d', e')).toArray[t]? = some u
                        rw [List.getElem?_toArray]
                        exact hu)
                     (fun u hu => by
                        simp only [ptC, List.mem_cons, List.not_mem_nil, or_false] at hu
                        rcases hu with rfl | rfl | rfl | rfl | rfl <;> rfl) (by omega) ?_
                   intro W3 ho3 hg3
                   have y3 := HX3.out.grown hg3 (by simp)
                   have c4 : W3.cell? ⟨g + 1 + 1 + 1, 0, none⟩ = some (.slice (some ⟨g + 2, 0, none⟩) n 16) := y3.cell 0
                   have f4 : W3.frozen? ⟨g + 1 + 1 + 1, 0, none⟩ = false := y3.frozen 0
                   have HO3 := Lib.hid ho3
                   have HG3 := Lib.hid hg3
                   have Y3 := Lib.hid y3
                   clear ho3 hg3 y3)
      obtain ⟨W4, hW4⟩ : ∃ W4, W3.setCell ⟨g + 3, 0, none⟩ (.slice (some ⟨g + 2, 0, none⟩) (n + 1) 16) = W4 := ⟨_, rfl⟩
      have gs : W3.grownBy W4 (some (g + 3)) := by rw [← hW4]; exact only_setCell (World.grownBy.refl _ _) (.inl rfl) _
      have OX : RwI s g q (pre ++ [x]) W4 ∧ Below g w W4 := by
        have hl : (pre ++ [x]).length = n + 1 := by rw [List.length_append, HN.out]; rfl
        have el : ptCs ((pre ++ [x]).map fun x => getP (winP s x.val)) = ptCs (pre.map fun x => getP (winP s x.val)) ++ ptC (a', b', c', d', e') := by
          rw [List.map_append, ptCs_append, List.map_cons, List.map_nil, HJ.out, HP.out]
          rfl
        refine ⟨⟨(HX0.out.grown HG3.out (by simp)).grown gs (by simp), (HX1.out.grown HG3.out (by simp)).grown gs (by simp), ?_, ?_, fun y hy => ?_⟩, ?_⟩
        · rw [hl, ← hW4]; exact Y3.out.set_ 0 _
        · rw [hl, el]; exact own_other HO3.out gs (fun k e => by simp [Value.ownBlock] at e; omega)
        · rcases List.mem_append.1 hy with hy | hy
          · exact H5.out y hy
          · rw [List.mem_singleton] at hy
            subst hy
            rw [HJ.out, HP.out]
            exact HMY.out
        · exact below_only (below_only HBW2.out (by omega) HG3.out (by have := HB2.out.size; omega)) (by omega) gs (by have := HB2.out.size; have := HG3.out.size; omega)
      have hk4 : KeepsOthers W W4 := ((kept_below HB2.out).trans (keepsOthers_grown HG3.out (own5_blk HO2.out).choose_spec)).trans (by rw [← hW4]; exact KeepsOthers.setCell W3 _ _)
      have hr4 : ReachD (g + 4) (g + 5) (some ⟨b, off, none⟩) q cap W → ReachD (g + 4) (g + 5) (some ⟨b, off, none⟩) q cap W4 := fun hr => by
        have l1 : g + 4 < W.heap.size := World.block_lt_of_cell? W _ hr.1
        have l2 : g + 5 < W.heap.size := World.block_lt_of_cell? W _ hr.2
        have z2 := HB2.out.size
        have z3 := HG3.out.size
        refine ⟨?_, ?_⟩
        · rw [World.cell?_of_block (a := ⟨g + 4, 0, none⟩) (gs.block (g + 4) (by omega) (by simp)), World.cell?_of_block (a := ⟨g + 4, 0, none⟩) (HG3.out.block (g + 4) (by omega) (by simp)), HB2.out.cell l1]
          exact hr.1
        · rw [World.cell?_of_block (a := ⟨g + 5, 0, none⟩) (gs.block (g + 5) (by omega) (by simp)), World.cell?_of_block (a := ⟨g + 5, 0, none⟩) (HG3.out.block (g + 5) (by omega) (by simp)), HB2.out.cell l2]
          exact hr.2
      rw [hW4]
      exact ⟨hk4.from _, hr4, OX⟩
    · rw [if_neg hmay] at hread
      have HRD := Lib.hid hread
      have H1 := Lib.hid h1
      have H2 := Lib.hid h2
      have HBW := Lib.hid hb
      have HMY := Lib.hid (show ∃ i, i < 16 ∧ ¬ MayP (getP (winP s i)) from ⟨j, hj16, by rw [hP]; exact hmay⟩)
      have HG := Lib.hid hg
      clear hread h1 h2 h3 h4 h5 hb hn hj hP hmay hwf hg hbW hlen b0 b1 b2 b3 b4 b5 ho0 hR hB0 hW0
      have hd2 : 1 ≤ m - 1 - 1 := by omega
      gi_wp2
      refine ⟨trivial, ?_⟩
      refine (CallsIn.inRound l (callsIn_wide.2 HRD.out)).mono ?_
      rintro e W1 ⟨rfl, bb⟩
      have y0 := H1.out.below bb H1.out.lt
      have y1 := H2.out.below bb H2.out.lt
      have c0 : ∀ o : Obj, (W1.alloc o).cell? ⟨g, 0, none⟩ = some (.slice none 0 0) := fun o => (y0.alloc o).cell 0
      have c1 : ∀ o : Obj, (W1.alloc o).cell? ⟨g + 1, 0, none⟩ = some (.int .i64 0) := fun o => (y1.alloc o).cell 0
      have f0 : ∀ o : Obj, (W1.alloc o).frozen? ⟨g, 0, none⟩ = false := fun o => (y0.alloc o).frozen 0
      have f1 : ∀ o : Obj, (W1.alloc o).frozen? ⟨g + 1, 0, none⟩ = false := fun o => (y1.alloc o).frozen 0
      have Y0 := Lib.hid y0
      have Y1 := Lib.hid y1
      have HBB := Lib.hid bb
      clear y0 y1 bb
      gi_wp2_with fail
      clear c0 c1 f0 f1
      obtain ⟨W2, hW2⟩ : ∃ W2, W1.alloc (.cells #[.int .i64 0, .int .u32 0, .int .u32 0, .int .u32 0, .int .u32 0] 31) = W2 := ⟨_, rfl⟩
      have hb2 : Below W.heap.size W W2 := by rw [← hW2]; exact HBB.out.trans (((Below.refl _ W1).alloc (Nat.le_refl _) _).mono HBB.out.size)
      have x0 : Blk W2 g 100 #[.slice none 0 0] := by rw [← hW2]; exact Y0.out.alloc _
      have x1 : Blk W2 (g + 1) 37 #[.int .i64 0] := by rw [← hW2]; exact Y1.out.alloc _
      have hBW2 : Below g w W2 := HBW.out.trans (hb2.mono hzW)
      rw [hW2]
      clear hW2
      obtain ⟨W4, hW4⟩ : ∃ W4, (W2.setCell ⟨g, 0, none⟩ (.slice none 0 0)).setCell ⟨g + 1, 0, none⟩ (.int .i64 8) = W4 := ⟨_, rfl⟩
      have OX : RwX s g W4 ∧ Below g w W4 := by
        rw [← hW4]
        refine ⟨⟨?_, ?_, HMY.out⟩, (hBW2.setCell (p := ⟨g, 0, none⟩) (Nat.le_refl _) _).setCell (p := ⟨g + 1, 0, none⟩) (by show g ≤ g + 1; omega) _⟩
        · exact (x0.set_ 0 (.slice none 0 0)).far (by show g ≠ g + 1; omega) _
        · exact (x1.far (by show g + 1 ≠ g; omega) _).set_ 0 (.int .i64 8)
      have hk4 : KeepsOthers W W4 := by rw [← hW4]; exact ((kept_below hb2).trans (KeepsOthers.setCell W2 _ _)).trans (KeepsOthers.setCell _ _ _)
      rw [hW4]
      exact ⟨hk4.from _, rfl, OX⟩
  case done =>
    rintro D ys W hD hC ⟨⟨h1, h2, h3, h4, h5⟩, hb⟩ hK
    have hC' : ys.map (·.val) = List.range q := hC
    have hl : ys.length = 16 := by have := congrArg List.length hC'; simp at this; omega
    rw [hl] at h3 h4
    have hys : ys.map (fun x => getP (winP s x.val)) = rowsL s := by
      have : ys.map (fun x => getP (winP s x.val)) = (ys.map (·.val)).map fun i => getP (winP s i) := by rw [List.map_map]; rfl
      rw [this, hC', hq, rowsL]
    have hall : ∀ p ∈ rowsL s, MayP p := fun p hp => by
      rw [← hys] at hp
      obtain ⟨x, hx, rfl⟩ := List.mem_map.1 hp
      exact h5 x hx
    rw [hys] at h4
    have hRR := HRR.out
    rw [rowsO, if_pos HS.out, if_pos hall] at hRR
    subst hRR
    have hDg : g + 6 ≤ D := by omega
    have c0 : W.cell? ⟨g, 0, none⟩ = some (.slice none 0 0) := h1.cell 0
    have c1 : W.cell? ⟨g + 1, 0, none⟩ = some (.int .i64 0) := h2.cell 0
    have c3 : W.cell? ⟨g + 1 + 1 + 1, 0, none⟩ = some (.slice (some ⟨g + 2, 0, none⟩) 16 16) := h3.cell 0
    have f0 : W.frozen? ⟨g, 0, none⟩ = false := h1.frozen 0
    have f1 : W.frozen? ⟨g + 1, 0, none⟩ = false := h2.frozen 0
    obtain ⟨W7, hW7⟩ : ∃ W7, (W.setCell ⟨g, 0, none⟩ (.slice (some ⟨g + 2, 0, none⟩) 16 16)).setCell ⟨g + 1, 0, none⟩ (.int .i64 0) = W7 := ⟨_, rfl⟩
    have x0 : Blk W7 g 100 #[.slice (some ⟨g + 2, 0, none⟩) 16 16] := by rw [← hW7]; exact (h1.set_ 0 _).far (by show g ≠ g + 1; omega) _
    have x1 : Blk W7 (g + 1) 37 #[.int .i64 0] := by rw [← hW7]; exact (h2.far (by show g + 1 ≠ g; omega) _).set_ 0 (.int .i64 0)
    have gs0 : W.grownBy (W.setCell ⟨g, 0, none⟩ (.slice (some ⟨g + 2, 0, none⟩) 16 16)) (some g) := only_setCell (World.grownBy.refl _ _) (.inl rfl) _
    have gs1 : (W.setCell ⟨g, 0, none⟩ (.slice (some ⟨g + 2, 0, none⟩) 16 16)).grownBy W7 (some (g + 1)) := by rw [← hW7]; exact only_setCell (World.grownBy.refl _ _) (.inl rfl) _
    have ho7 : W7.ownsRow g 31 5 (.slice (some ⟨g + 2, 0, none⟩) 16 16) 16 (ptCs (rowsL s)) := own_other (own_other h4 gs0 (fun k e => by simp [Value.ownBlock] at e; omega)) gs1 (fun k e => by simp [Value.ownBlock] at e; omega)
    have hb7 : Below g w W7 := by rw [← hW7]; exact (hb.setCell (p := ⟨g, 0, none⟩) (Nat.le_refl _) _).setCell (p := ⟨g + 1, 0, none⟩) (by show g ≤ g + 1; omega) _
    have hk7 : W7.heap[D]? = some (.deferred (some [])) := by rw [← hW7]; exact (Below.heap_setCell _ ⟨g + 1, 0, none⟩ _ D (by show D ≠ g + 1; omega)).trans ((Below.heap_setCell W ⟨g, 0, none⟩ _ D (by show D ≠ g; omega)).trans hK)
    have HX0 := Lib.hid x0
    have HX1 := Lib.hid x1
    have HO7 := Lib.hid ho7
    have HB7 := Lib.hid hb7
    have HK7 := Lib.hid hk7
    have HG := Lib.hid hg
    clear h1 h2 h3 h4 h5 hb hK hC hC' hl hys hall x0 x1 gs0 gs1 ho7 hb7 hk7 b0 b1 b2 b3 b4 b5 ho0 hR hB0 hW0 hg
    gi_wp2_with fail
    clear hW7 c0 c1 c3 f0 f1
    refine ⟨by simp, .inl ⟨_, _, rfl, run_takeDeferred HK7.out, ?_⟩⟩
    have gd := grownBy_putObj' W7 D (.deferred none)
    have z0 := HX0.out.grown gd (fun e => by injection e; omega)
    have z1 := HX1.out.grown gd (fun e => by injection e; omega)
    have e0 := z0.cell 0
    have e1 := z1.cell 0
    refine ⟨.tuple #[.slice (some ⟨g + 2, 0, none⟩) 16 16, .int .i64 0], by simp [results, Tryz.f209, go_sem, e0, e1], _, rfl, ⟨?_, fun p hp => ?_⟩, ?_⟩
    · rw [HG.out]
      exact own_other HO7.out gd (fun k e => by simp [Value.ownBlock] at e; omega)
    · obtain ⟨i, _, rfl⟩ := List.mem_map.1 hp
      exact wf_getP _
    · rw [HG.out]
      exact HB7.out.trans (below_putO _ _ (by omega))
  case stop =>
    rintro D c pre W hD hSp ⟨rfl, ⟨h1, h2, i, hi, hno⟩, hb⟩ hK
    have hno' : ¬ ∀ p ∈ rowsL s, MayP p := fun hall => hno (hall _ (List.mem_map.2 ⟨i, List.mem_range.2 hi, rfl⟩))
    have hRR := HRR.out
    rw [rowsO, if_pos HS.out, if_neg hno'] at hRR
    subst hRR
    have hDg : g + 6 ≤ D := by omega
    have HX0 := Lib.hid h1
    have HX1 := Lib.hid h2
    have HB7 := Lib.hid hb
    have HK7 := Lib.hid hK
    have HG := Lib.hid hg
    clear h1 h2 hno hno' hb hK hSp b0 b1 b2 b3 b4 b5 ho0 hR hB0 hW0 hg
    gi_wp2_with fail
    refine ⟨by simp, .inl ⟨_, _, rfl, run_takeDeferred HK7.out, ?_⟩⟩
    have gd := grownBy_putObj' W D (.deferred none)
    have z0 := HX0.out.grown gd (fun e => by injection e; omega)
    have z1 := HX1.out.grown gd (fun e => by injection e; omega)
    have e0 := z0.cell 0
    have e1 := z1.cell 0
    refine ⟨.tuple #[.slice none 0 0, .int .i64 8], by simp [results, Tryz.f209, go_sem, e0, e1], _, rfl, prow_nil _ _, ?_⟩
    rw [HG.out]
    exact HB7.out.trans (below_putO _ _ (by omega))
theorem Rows_any (a : Option Addr) (len cap : Nat) (s : List UInt8) (w : World) (hB : Bsl w w.heap.size a len cap s) (hz : Szs w) : Calls Tryz.prog 209 #[.slice a len cap] w (OutL (rowsO s).1 (rowsO s).2 w) := by
  by_cases h : s.length = 256
  · obtain rfl : len = 256 := by rw [← hB.1]; exact h
    exact callsIn_wide.1 (rows_in 3 (Nat.le_refl _) a cap s w hB hz)
  · rw [rowsO, if_neg h]
    have hl := hB.1
    have hne : ¬ (len : Int) = 256 := by omega
    have i0 : (0 : Int) ≤ (len : Int) := by omega
    have i1 : (len : Int) ≤ 9223372036854775807 := by have h1 := hB.2.1; have h2 := hB.2.2.1; unfold maxLen at h2; omega
    have hb2 : Below w.heap.size w ((w.alloc (.cells #[.slice none 0 0] 100)).alloc (.cells #[.int .i64 3] 37)) := ((Below.refl _ w).alloc (Nat.le_refl _) _).alloc (by simp) _
    have x0 : Blk ((w.alloc (.cells #[.slice none 0 0] 100)).alloc (.cells #[.int .i64 3] 37)) w.heap.size 100 #[.slice none 0 0] := (Blk.new w _ _).alloc _
    have x1 : Blk ((w.alloc (.cells #[.slice none 0 0] 100)).alloc (.cells #[.int .i64 3] 37)) (w.heap.size + 1) 37 #[.int .i64 3] := by
      have := Blk.new (w.alloc (.cells #[.slice none 0 0] 100)) 37 #[.int .i64 3]
      rw [World.size_alloc] at this
      exact this
    have HX0 := Lib.hid x0
    have HX1 := Lib.hid x1
    have HB2 := Lib.hid hb2
    clear hl h hB hz x0 x1 hb2
    go_enter Tryz.func209, Tryz.ntmps209
    go_wp2_with fail
    have e0 := HX0.out.cell 0
    have e1 := HX1.out.cell 0
    exact bodyPost_ret (v := .tuple #[.slice none 0 0, .int .i64 3]) (by simp [results, Tryz.f209, go_sem, e0, e1]) rfl ⟨_, rfl, prow_nil _ _, HB2.out⟩
end Go.Proofs.YtafbidhbmfdlkaaGreatDoor
/-
  append of pointers to a row of the call's own.
-/
namespace Go.Proofs.YtafbidhbmfdlkaaGreatDoor
open Go.RowKit Go.Shelf
set_option maxRecDepth 100000

theorem ptCs_mem {L : List Pt} {u : Value} (h : u ∈ ptCs L) : u.oneCell' = true := by
  obtain ⟨p, _, hu⟩ := List.mem_flatMap.1 h
  simp only [ptC, List.mem_cons, List.not_mem_nil, or_false] at hu
  rcases hu with rfl | rfl | rfl | rfl | rfl <;> rfl
/-- The cells of a slice of pointers. -/
theorem Pts.row {w : World} {B b off len cap : Nat} {L : List Pt} (h : Pts w B (some ⟨b, off, none⟩) len cap L) (j : Nat) (u : Value) (hu : (ptCs L)[j]? = some u) : w.cell? ⟨b, off + j, none⟩ = some u := by
  have hj : j < L.length * 5 := by
    rcases Nat.lt_or_ge j (ptCs L).length with hj | hj
    · rw [ptCs_length] at hj; exact hj
    · rw [List.getElem?_eq_none hj] at hu; cases hu
  have hi : j / 5 < L.length := by omega
  obtain ⟨b', off', e, _, hc⟩ := h.2.2.2.2 (by rw [← h.1]; omega)
  cases e
  have hlen : (ptC L[j / 5]).length = 5 := rfl
  have hr : j % 5 < (ptC L[j / 5]).length := by rw [hlen]; omega
  have hg := ptCs_get L (j / 5) hi (j % 5) _ (List.getElem?_eq_getElem hr)
  have ej : j / 5 * 5 + j % 5 = j := by omega
  rw [ej, hu] at hg
  have := (hc (j / 5) hi).2 (j % 5) _ (List.getElem?_eq_getElem hr)
  rw [Nat.add_assoc, ej] at this
  rw [this, hg]
section
variable {w : World} {o : Oper} {a : Act} {K : Act → World → Prop} {Q : Exit → Act → World → Prop} {ops : Array Oper} {rest : List Oper}
theorem wp_append_prow (x y : Operand) (ho : o.op = .call { callee := .builtin .append, args := #[x, y], argTypes := #[100, 100] })
    (base : Nat) (v : Value) (L : List Pt) (hx : a.eval x = v) (hr : PRow w base v L) (B : Nat) (A : Option Addr) (m c : Nat) (M : List Pt) (hy : a.eval y = .slice A m c) (hs : Pts w B A m c M)
    (hn : L.length + m ≤ 1000000) (hbase : base ≤ w.heap.size)
    (h : ∀ v' w', PRow w' base v' (L ++ M) → w.grownBy w' v.ownBlock → K (a.put o.dst v') w') : o.wp Tryz.prog a w K Q := by
  obtain ⟨i0, hi0, hz0, hz1, hz2⟩ := info_parts infoPt
  obtain ⟨h1, h2⟩ := hr
  have hwf : ∀ p ∈ L ++ M, WfP p := fun p hp => by
    rcases List.mem_append.1 hp with hp | hp
    · exact h2 p hp
    · exact hs.wf hp
  have hml := hs.1
  cases A with
  | none =>
    have hc := hs.2.2.2.1 rfl
    have hm : m = 0 := by have := hs.2.1; omega
    subst hm; subst hc
    obtain rfl : M = [] := List.eq_nil_of_length_eq_zero hml
    have hrun := run_app_none (P := Tryz.prog) (w := w) base 100 o.type 31 i0 5 0 Tryz.underlying100 hi0 v L.length (ptCs L) h1
    unfold Oper.wp
    simp [execOp, ho, resolve, invoke, builtin, hx, hy, hrun, Result.andThen]
    refine h v w ?_ (World.grownBy.refl w _)
    rw [List.append_nil]
    exact ⟨h1, h2⟩
  | some ad =>
    refine wp_append_own w x y 100 ho base 31 i0 (.agg #[.int .i64 0, .int .u32 0, .int .u32 0, .int .u32 0, .int .u32 0]) 5 24 Tryz.underlying100 hi0 hz0 hz1 hz2 rfl (by decide) v L.length (ptCs L) hx h1 ad m c (ptCs M) hy (by rw [ptCs_length, hml]) (fun j u hu => ?_) (fun u hu => ptCs_mem hu) (by unfold maxLen; omega) (by omega) hbase fun v' w' h6 h7 _ => ?_
    · have hj : 0 < m := by
        rcases Nat.eq_zero_or_pos m with h0 | h0
        · obtain rfl : M = [] := List.eq_nil_of_length_eq_zero (by omega)
          simp [ptCs] at hu
        · exact h0
      obtain ⟨b, off, e, _, _⟩ := hs.2.2.2.2 hj
      cases e
      have e1 : (⟨b, off, none⟩ : Addr).add j = ⟨b, off + j, none⟩ := by unfold Addr.add; split <;> simp_all
      rw [e1]
      exact hs.row j u hu
    · refine h v' w' ⟨?_, hwf⟩ h7
      rw [List.length_append, hml, ptCs_append]
      exact h6
end
/-- A slice literal of one pointer. -/
theorem one_pts (w : World) (p : Pt) (hp : WfP p) : Pts (w.alloc (.cells (ptC p).toArray 31)) (w.alloc (.cells (ptC p).toArray 31)).heap.size (some ⟨w.heap.size, 0, none⟩) 1 1 [p] :=
  ⟨rfl, Nat.le_refl _, by unfold maxLen; omega, fun e => (by cases e), fun _ => ⟨w.heap.size, 0, rfl, by simp, fun i hi => by
    have : i = 0 := by simpa using hi
    subst this
    refine ⟨hp, fun j u hu => ?_⟩
    rw [(Blk.new w 31 (ptC p).toArray).cell]
    simpa using hu⟩⟩
theorem PRow.own {w w' : World} {base g : Nat} {v : Value} {L : List Pt} (h : PRow w base v L) (hg : w.grownBy w' (some g)) (hne : ∀ k, v.ownBlock = some k → k ≠ g) : PRow w' base v L := ⟨own_other h.1 hg hne, h.2⟩
end Go.Proofs.YtafbidhbmfdlkaaGreatDoor
/-
  A row of pointers and the pointers that it has: there and back.
-/
namespace Go.Proofs.YtafbidhbmfdlkaaGreatDoor
open Go.RowKit Go.Shelf
set_option maxRecDepth 100000

theorem win_packTo (L : List Pt) : ∀ (k i : Nat), i < k → ((packTo L k).drop (16 * i)).take 16 = bytesP (L.getD i p0)
  | k + 1, i, h => by
    rw [packTo_step]
    have hl := packTo_length L k
    by_cases e : i = k
    · subst e
      rw [← hl, List.drop_left, List.take_of_length_le (by rw [bytesP_length]; exact Nat.le_refl _)]
    · rw [List.drop_append_of_le_length (by omega), List.take_append_of_le_length (by rw [List.length_drop]; omega)]
      exact win_packTo L k i (by omega)
/-- A row's pointers, none where there is none. -/
def fillL (L : List Pt) : List Pt := (List.range 16).map fun i => L.getD i p0
theorem rowsL_row {L : List Pt} (h16 : L.length ≤ 16) (hm : ∀ p ∈ L, MayP p) (hw : ∀ p ∈ L, WfP p) : rowsL (rowTo L L.length) = fillL L := by
  rw [← packTo_row L h16, rowsL, fillL]
  apply List.map_congr_left
  intro i hi
  rw [winP, win_packTo L 16 i (List.mem_range.1 hi), getP_bytesP (getD_may hm i) (getD_wf hw i)]
theorem rowsO_row {L : List Pt} (h16 : L.length ≤ 16) (hm : ∀ p ∈ L, MayP p) (hw : ∀ p ∈ L, WfP p) : rowsO (rowTo L L.length) = (fillL L, 0) := by
  rw [rowsO, if_pos (rowTo_length L L.length (Nat.le_refl _) h16), rowsL_row h16 hm hw, if_pos]
  intro p hp
  obtain ⟨i, _, rfl⟩ := List.mem_map.1 hp
  exact getD_may hm i
end Go.Proofs.YtafbidhbmfdlkaaGreatDoor
/-
  What a slice of bytes that came in is: it reads as bytes; the string made of it.
-/
namespace Go.Proofs.YtafbidhbmfdlkaaGreatDoor
open Go.RowKit Go.Shelf
set_option maxRecDepth 100000

/-- An empty slice reads as no bytes. -/
theorem bsl_nil (w : World) : Bsl w w.heap.size none 0 0 [] := ⟨rfl, Nat.le_refl _, by unfold maxLen; omega, fun _ => rfl, fun h => absurd h (by omega)⟩
theorem Bsl.conv {w : World} {B : Nat} {a : Option Addr} {len cap : Nat} {s : List UInt8} (h : Bsl w B a len cap s) : (convert 26 9 (.slice a len cap)).run Tryz.prog w = .ok (.string (strOf s)) w := by
  obtain ⟨h1, h2, h3, h4, h5⟩ := h
  cases a with
  | none =>
    have hc := h4 rfl
    have hl : len = 0 := by omega
    subst hl
    obtain rfl : s = [] := List.eq_nil_of_length_eq_zero h1
    exact run_convert_bytes_nil w 26 5 Tryz.underlying26 Tryz.underlying5 0 cap 9 Tryz.underlying9
  | some x =>
    rcases Nat.eq_zero_or_pos len with hl | hl
    · subst hl
      obtain rfl : s = [] := List.eq_nil_of_length_eq_zero h1
      have hcs : (loadCells x 0).run Tryz.prog w = .ok (([] : List Int).map (Value.int .u8)).toArray w := by
        have := run_loadCells_list (P := Tryz.prog) w x [] (fun j v hj => by simp at hj)
        simpa using this
      rw [run_convert_bytes_string w 26 9 5 _ 0 cap Tryz.underlying26 Tryz.underlying5 Tryz.underlying9, run_bytesToString w x 0 cap [] hcs]
      rfl
    · obtain ⟨b, off, e, hb, hc⟩ := h5 hl
      cases e
      exact conv_at w b off len cap s h1 hc

end Go.Proofs.YtafbidhbmfdlkaaGreatDoor
/-
  Plain lists for layer 9: a disk's blocks and waiting writes; the last write of a block among those that are marked; what they leave.
-/
namespace Go.Proofs.YtafbidhbmfdlkaaGreatDoor

/-- Writes that wait: each its block's number and its bytes. -/
abbrev WrL := List (Int × List UInt8)
/-- A disk: its blocks, and what waits. -/
abbrev DkL := List (List UInt8) × WrL
/-- The write of number i. -/
def wr_ (ws : WrL) (i : Nat) : Int × List UInt8 := ws.getD i (0, [])
/-- The last write for the block p among the first n, of those that are marked. -/
def lastTo (ws : WrL) (mk : Nat → Bool) (p : Int) : Nat → Option Nat
  | 0 => none
  | n + 1 => if mk n = true ∧ (wr_ ws n).1 = p then some n else lastTo ws mk p n
/-- What they leave of the block p. -/
def leftD (D : DkL) (mk : Nat → Bool) (p : Nat) : List UInt8 := match lastTo D.2 mk (p : Int) D.2.length with
  | some i => (wr_ D.2 i).2
  | none => D.1.getD p []
/-- What they leave. -/
def keptD (D : DkL) (mk : Nat → Bool) : DkL := ((List.range 256).map (leftD D mk), [])
/-- May a disk be? -/
def MayD (D : DkL) : Prop := (D.1.length = 256 ∧ ∀ i, i < 256 → (D.1.getD i []).length = 256) ∧ D.2.length ≤ 4096 ∧ ∀ i, i < D.2.length → (0 ≤ (wr_ D.2 i).1 ∧ (wr_ D.2 i).1 < 256) ∧ (wr_ D.2 i).2.length = 256
instance (D : DkL) : Decidable (MayD D) := inferInstanceAs (Decidable (_ ∧ _ ∧ _))
/-- The bytes of the first k blocks, of the first k writes, together. -/
def sumB (bl : List (List UInt8)) : Nat → Nat
  | 0 => 0
  | k + 1 => sumB bl k + (bl.getD k []).length
def sumW (ws : WrL) : Nat → Nat
  | 0 => 0
  | k + 1 => sumW ws k + (wr_ ws k).2.length
def sumD (D : DkL) : Nat := sumB D.1 D.1.length + sumW D.2 D.2.length
theorem sumB_mono (bl : List (List UInt8)) {j k : Nat} (h : j ≤ k) : sumB bl j ≤ sumB bl k := by
  induction k with
  | zero => obtain rfl : j = 0 := by omega
            exact Nat.le_refl _
  | succ k ih =>
    rcases Nat.lt_or_ge j (k + 1) with h1 | h1
    · exact Nat.le_trans (ih (by omega)) (Nat.le_add_right _ _)
    · obtain rfl : j = k + 1 := by omega
      exact Nat.le_refl _
theorem sumW_mono (ws : WrL) {j k : Nat} (h : j ≤ k) : sumW ws j ≤ sumW ws k := by
  induction k with
  | zero => obtain rfl : j = 0 := by omega
            exact Nat.le_refl _
  | succ k ih =>
    rcases Nat.lt_or_ge j (k + 1) with h1 | h1
    · exact Nat.le_trans (ih (by omega)) (Nat.le_add_right _ _)
    · obtain rfl : j = k + 1 := by omega
      exact Nat.le_refl _
/-- A disk on which more can be done than is needed: counts and bytes that no machine's memory comes near. -/
def Fits (D : DkL) : Prop := D.1.length ≤ 1000000 ∧ D.2.length ≤ 1000000 ∧ sumD D ≤ 1000000000000

theorem lastTo_lt {ws : WrL} {mk : Nat → Bool} {p : Int} : ∀ {n i : Nat}, lastTo ws mk p n = some i → i < n ∧ mk i = true ∧ (wr_ ws i).1 = p
  | 0, i, h => by cases h
  | n + 1, i, h => by
    unfold lastTo at h
    split at h
    · rename_i h1
      cases h
      exact ⟨Nat.lt_succ_self _, h1⟩
    · have := lastTo_lt h
      exact ⟨Nat.lt_succ_of_lt this.1, this.2⟩
theorem lastTo_congr {ws ws' : WrL} {mk mk' : Nat → Bool} {p : Int} : ∀ {n : Nat}, (∀ i, i < n → ((mk i = true ∧ (wr_ ws i).1 = p) ↔ (mk' i = true ∧ (wr_ ws' i).1 = p))) → lastTo ws mk p n = lastTo ws' mk' p n
  | 0, _ => rfl
  | n + 1, h => by
    unfold lastTo
    rw [lastTo_congr (n := n) (fun i hi => h i (by omega))]
    by_cases h1 : mk n = true ∧ (wr_ ws n).1 = p
    · rw [if_pos h1, if_pos ((h n (by omega)).1 h1)]
    · rw [if_neg h1, if_neg (fun h2 => h1 ((h n (by omega)).2 h2))]
theorem keptD_length (D : DkL) (mk : Nat → Bool) : (keptD D mk).1.length = 256 := by simp [keptD]
theorem keptD_get (D : DkL) (mk : Nat → Bool) (p : Nat) (h : p < 256) : (keptD D mk).1.getD p [] = leftD D mk p := by
  simp [keptD, List.getD_eq_getElem?_getD, h]
theorem leftD_length {D : DkL} (h : MayD D) (mk : Nat → Bool) {p : Nat} (hp : p < 256) : (leftD D mk p).length = 256 := by
  unfold leftD
  split
  · rename_i i hi
    exact (h.2.2 i (lastTo_lt hi).1).2
  · exact h.1.2 p hp
theorem keptD_may {D : DkL} (h : MayD D) (mk : Nat → Bool) : MayD (keptD D mk) := by
  refine ⟨⟨keptD_length _ _, fun i hi => ?_⟩, Nat.zero_le _, fun i hi => absurd hi (Nat.not_lt_zero _)⟩
  rw [keptD_get D mk i hi]
  exact leftD_length h mk hi
theorem sumB_all {bl : List (List UInt8)} : ∀ {n : Nat}, (∀ i, i < n → (bl.getD i []).length = 256) → sumB bl n = 256 * n
  | 0, _ => rfl
  | n + 1, h => by
    unfold sumB
    rw [sumB_all (fun i hi => h i (by omega)), h n (by omega)]
    omega
theorem sumW_all {ws : WrL} : ∀ {n : Nat}, (∀ i, i < n → (wr_ ws i).2.length = 256) → sumW ws n = 256 * n
  | 0, _ => rfl
  | n + 1, h => by
    unfold sumW
    rw [sumW_all (fun i hi => h i (by omega)), h n (by omega)]
    omega
theorem may_fits {D : DkL} (h : MayD D) : Fits D := by
  have h1 := sumB_all h.1.2
  have h2 := sumW_all fun i hi => (h.2.2 i hi).2
  have h3 := h.2.1
  refine ⟨by rw [h.1.1]; omega, by omega, ?_⟩
  unfold sumD
  rw [h.1.1, h1, h2]
  omega
end Go.Proofs.YtafbidhbmfdlkaaGreatDoor
/-
  Words for a disk in memory: a slice of slices of bytes, and a slice of writes, that read as plain lists.
-/
namespace Go.Proofs.YtafbidhbmfdlkaaGreatDoor
open Go.RowKit Go.Shelf
set_option maxRecDepth 100000

/-- A slice of slices of bytes that lies below block B reads as bl. -/
def Bls (w : World) (B : Nat) (a : Option Addr) (len cap : Nat) (bl : List (List UInt8)) : Prop :=
  bl.length = len ∧ len ≤ cap ∧ cap ≤ maxLen ∧
    (0 < len → ∃ b off, a = some ⟨b, off, none⟩ ∧ b < B ∧ ∀ i, i < len → ∃ A c, w.cell? ⟨b, off + i, none⟩ = some (.slice A (bl.getD i []).length c) ∧ Bsl w B A (bl.getD i []).length c (bl.getD i []))
/-- A slice of writes that lies below block B reads as ws. -/
def Wts (w : World) (B : Nat) (a : Option Addr) (len cap : Nat) (ws : WrL) : Prop :=
  ws.length = len ∧ len ≤ cap ∧ cap ≤ maxLen ∧
    (0 < len → ∃ b off, a = some ⟨b, off, none⟩ ∧ b < B ∧ ∀ i, i < len → (Lit.int .i64 (wr_ ws i).1).wf = true ∧ w.cell? ⟨b, off + i * 2, none⟩ = some (.int .i64 (wr_ ws i).1) ∧
      ∃ A c, w.cell? ⟨b, off + i * 2 + 1, none⟩ = some (.slice A (wr_ ws i).2.length c) ∧ Bsl w B A (wr_ ws i).2.length c (wr_ ws i).2)
section
variable {w w' : World} {B B' len cap : Nat} {a : Option Addr} {bl : List (List UInt8)} {ws : WrL}
theorem Bls.below (h : Bls w B a len cap bl) (hb : Below B w w') : Bls w' B a len cap bl := by
  obtain ⟨h1, h2, h3, h4⟩ := h
  refine ⟨h1, h2, h3, fun hl => ?_⟩
  obtain ⟨b, off, e, hlt, hc⟩ := h4 hl
  refine ⟨b, off, e, hlt, fun i hi => ?_⟩
  obtain ⟨A, c, h5, h6⟩ := hc i hi
  exact ⟨A, c, (hb.cell (p := ⟨b, off + i, none⟩) hlt).trans h5, h6.below hb⟩
theorem Bls.more (h : Bls w B a len cap bl) (hB : B ≤ B') : Bls w B' a len cap bl := by
  obtain ⟨h1, h2, h3, h4⟩ := h
  refine ⟨h1, h2, h3, fun hl => ?_⟩
  obtain ⟨b, off, e, hlt, hc⟩ := h4 hl
  refine ⟨b, off, e, by omega, fun i hi => ?_⟩
  obtain ⟨A, c, h5, h6⟩ := hc i hi
  exact ⟨A, c, h5, h6.more hB⟩
theorem Bls.step (h : Bls w w.heap.size a len cap bl) (hb : Below w.heap.size w w') : Bls w' w'.heap.size a len cap bl := (h.below hb).more hb.size
theorem Bls.at_ (h : Bls w B a len cap bl) {i : Nat} (hi : i < len) : ∃ b off A n c s, a = some ⟨b, off, none⟩ ∧ b < B ∧ bl.getD i [] = s ∧ w.cell? ⟨b, off + i, none⟩ = some (.slice A n c) ∧ Bsl w B A n c s := by
  obtain ⟨h1, h2, h3, h4⟩ := h
  obtain ⟨b, off, e, hlt, hc⟩ := h4 (by omega)
  obtain ⟨A, c, h5, h6⟩ := hc i hi
  exact ⟨b, off, A, _, c, _, e, hlt, rfl, h5, h6⟩
theorem Wts.below (h : Wts w B a len cap ws) (hb : Below B w w') : Wts w' B a len cap ws := by
  obtain ⟨h1, h2, h3, h4⟩ := h
  refine ⟨h1, h2, h3, fun hl => ?_⟩
  obtain ⟨b, off, e, hlt, hc⟩ := h4 hl
  refine ⟨b, off, e, hlt, fun i hi => ?_⟩
  obtain ⟨h0, h7, A, c, h5, h6⟩ := hc i hi
  exact ⟨h0, (hb.cell (p := ⟨b, off + i * 2, none⟩) hlt).trans h7, A, c, (hb.cell (p := ⟨b, off + i * 2 + 1, none⟩) hlt).trans h5, h6.below hb⟩
theorem Wts.more (h : Wts w B a len cap ws) (hB : B ≤ B') : Wts w B' a len cap ws := by
  obtain ⟨h1, h2, h3, h4⟩ := h
  refine ⟨h1, h2, h3, fun hl => ?_⟩
  obtain ⟨b, off, e, hlt, hc⟩ := h4 hl
  refine ⟨b, off, e, by omega, fun i hi => ?_⟩
  obtain ⟨h0, h7, A, c, h5, h6⟩ := hc i hi
  exact ⟨h0, h7, A, c, h5, h6.more hB⟩
theorem Wts.step (h : Wts w w.heap.size a len cap ws) (hb : Below w.heap.size w w') : Wts w' w'.heap.size a len cap ws := (h.below hb).more hb.size
theorem Wts.at_ (h : Wts w B a len cap ws) {i : Nat} (hi : i < len) : ∃ b off p A n c s, a = some ⟨b, off, none⟩ ∧ b < B ∧ wr_ ws i = (p, s) ∧ (Lit.int .i64 p).wf = true ∧ w.cell? ⟨b, off + i * 2, none⟩ = some (.int .i64 p) ∧
    w.cell? ⟨b, off + i * 2 + 1, none⟩ = some (.slice A n c) ∧ Bsl w B A n c s := by
  obtain ⟨h1, h2, h3, h4⟩ := h
  obtain ⟨b, off, e, hlt, hc⟩ := h4 (by omega)
  obtain ⟨h0, h7, A, c, h5, h6⟩ := hc i hi
  exact ⟨b, off, _, A, _, c, _, e, hlt, rfl, h0, h7, h5, h6⟩
theorem Bls.len_le (h : Bls w B a len cap bl) : (len : Int) ≤ 9223372036854775807 := by have h1 := h.2.1; have h2 := h.2.2.1; unfold maxLen at h2; omega
theorem Wts.len_le (h : Wts w B a len cap ws) : (len : Int) ≤ 9223372036854775807 := by have h1 := h.2.1; have h2 := h.2.2.1; unfold maxLen at h2; omega
end
theorem bls_nil (w : World) (B : Nat) : Bls w B none 0 0 [] := ⟨rfl, Nat.le_refl _, Nat.zero_le _, fun h => absurd h (Nat.lt_irrefl _)⟩
theorem wts_nil (w : World) (B : Nat) : Wts w B none 0 0 [] := ⟨rfl, Nat.le_refl _, Nat.zero_le _, fun h => absurd h (Nat.lt_irrefl _)⟩
/-- Where the two slices of a disk are. -/
structure DAt where
  ba : Option Addr
  bc : Nat
  wa : Option Addr
  wc : Nat
/-- The value of a disk. -/
def dval (x : DAt) (D : DkL) : Value := .agg #[.slice x.ba D.1.length x.bc, .slice x.wa D.2.length x.wc]
/-- A disk that lies below block B reads as D. -/
def Dsk (w : World) (B : Nat) (x : DAt) (D : DkL) : Prop := Bls w B x.ba D.1.length x.bc D.1 ∧ Wts w B x.wa D.2.length x.wc D.2
theorem Dsk.step {w w' : World} {x : DAt} {D : DkL} (h : Dsk w w.heap.size x D) (hb : Below w.heap.size w w') : Dsk w' w'.heap.size x D := ⟨h.1.step hb, h.2.step hb⟩
end Go.Proofs.YtafbidhbmfdlkaaGreatDoor
/-
  dev.bytesOf counts the bytes of a disk.
-/
namespace Go.Proofs.YtafbidhbmfdlkaaGreatDoor
open Go.RowKit Go.Shelf
set_option maxRecDepth 100000

set_option maxHeartbeats 1000000 in
theorem dBytesOf_any (x : DAt) (D : DkL) (w : World) (h : Dsk w w.heap.size x D) (hf : Fits D) :
    Calls Tryz.prog 16 #[.slice x.ba D.1.length x.bc, .slice x.wa D.2.length x.wc] w fun e w' => e = .returned (.int .i64 (sumD D : Nat)) ∧ Below w.heap.size w w' := by
  obtain ⟨ba, bc, wa, wc⟩ := x
  obtain ⟨bl, ws⟩ := D
  obtain ⟨hB, hW⟩ := h
  obtain ⟨f1, f2, f3⟩ := hf
  simp only [sumD] at hB hW f1 f2 f3 ⊢
  obtain ⟨n, hn⟩ : ∃ n, bl.length = n := ⟨_, rfl⟩
  obtain ⟨m, hm⟩ : ∃ m, ws.length = m := ⟨_, rfl⟩
  rw [hn] at hB f1 f3 ⊢
  rw [hm] at hW f2 f3 ⊢
  have n0 : (0 : Int) ≤ n := by omega
  have n1 : (n : Int) ≤ 1000000 := by omega
  have m0 : (0 : Int) ≤ m := by omega
  have m1 : (m : Int) ≤ 1000000 := by omega
  have HB := Lib.hid hB
  have HW := Lib.hid hW
  clear hB hW hn hm f1 f2
  go_enter Tryz.func16, Tryz.ntmps16
  go_wp2_with fail
  go_loop [5, 12] (fun t i => ∃ k : Nat, k ≤ n ∧ i = .int .i64 k ∧ t = .int .i64 (sumB bl k : Nat)) (fun _ i => n - (intOf i).toNat)
  case atStart => exact ⟨0, Nat.zero_le _, rfl, rfl⟩
  case round =>
    obtain ⟨k, hk, rfl, rfl⟩ := hrel
    have k0 : (0 : Int) ≤ k := by omega
    by_cases hlt : k < n
    · have k1 : (k : Int) < n := by omega
      obtain ⟨b, off, A, l, c, s, rfl, _, hl, hc, hA⟩ := HB.out.at_ hlt
      have hs : sumB bl (k + 1) = sumB bl k + l := by rw [sumB, hl, hA.1]
      have hsl := sumB_mono bl (show k + 1 ≤ n by omega)
      have s0 : (0 : Int) ≤ (sumB bl k : Nat) := by omega
      have s1 : ((sumB bl k : Nat) : Int) ≤ 1000000000000 := by omega
      have s2 : (0 : Int) ≤ (l : Nat) := by omega
      have s3 : ((l : Nat) : Int) ≤ 1000000000000 := by omega
      have HS := Lib.hid hs
      clear hs hsl hA hl
      go_wp2_with fail
      go_round
      case rel => exact ⟨k + 1, by omega, by go_num, by rw [HS.out]; go_num⟩
      case measure => simp [intOf]; omega
    · obtain rfl : k = n := by omega
      go_wp2_with fail
      have ht : sumB bl k + sumW ws m ≤ 1000000000000 := f3
      go_loopw [5, 23] (fun t i wr => ∃ j : Nat, j ≤ m ∧ i = .int .i64 j ∧ t = .int .i64 (sumB bl k + sumW ws j : Nat) ∧ Below w.heap.size w wr) (fun _ i _ => m - (intOf i).toNat)
      case atStart => exact ⟨0, Nat.zero_le _, rfl, by simp [sumW], Below.refl _ _⟩
      case round =>
        obtain ⟨j, hj, rfl, rfl, hb⟩ := hrel
        have j0 : (0 : Int) ≤ j := by omega
        by_cases hlt : j < m
        · have j1 : (j : Int) < m := by omega
          obtain ⟨b, off, p, A, l, c, s, rfl, hlb, hl, _, hc, hd, hA⟩ := HW.out.at_ hlt
          have hs : sumW ws (j + 1) = sumW ws j + l := by rw [sumW, hl, hA.1]
          have hsl := sumW_mono ws (show j + 1 ≤ m by omega)
          obtain ⟨S, hS⟩ : ∃ S, sumB bl k + sumW ws j = S := ⟨_, rfl⟩
          have hs' : sumB bl k + sumW ws (j + 1) = S + l := by omega
          have s0 : (0 : Int) ≤ (S : Nat) := by omega
          have s1 : ((S : Nat) : Int) ≤ 1000000000000 := by omega
          have s2 : (0 : Int) ≤ (l : Nat) := by omega
          have s3 : ((l : Nat) : Int) ≤ 1000000000000 := by omega
          have c1 := (hb.cell (p := ⟨b, off + j * 2, none⟩) hlb).trans hc
          have c2 := (hb.cell (p := ⟨b, off + j * 2 + 1, none⟩) hlb).trans hd
          rw [hS]
          have HS := Lib.hid hs'
          have HBr := Lib.hid hb
          clear hs hsl hA hl hc hd hb hS hs' ht
          go_wp2_with fail
          go_roundw
          case rel => exact ⟨j + 1, by omega, by go_num, by rw [HS.out]; go_num, HBr.out.alloc (HBr.out.size) _⟩
          case measure => simp [intOf]; omega
        · obtain rfl : j = m := by omega
          have HBr := Lib.hid hb
          clear hb
          go_wp2_with fail
          go_ret
          exact ⟨rfl, HBr.out⟩
end Go.Proofs.YtafbidhbmfdlkaaGreatDoor
/-
  Plain lists for layer 9: all bytes of a disk in one row, piece behind piece.
-/
namespace Go.Proofs.YtafbidhbmfdlkaaGreatDoor

/-- The pieces of a disk: its blocks, then its writes' bytes. -/
def pieces (D : DkL) : List (List UInt8) := D.1 ++ D.2.map (·.2)
def flatP (P : List (List UInt8)) (k : Nat) : List UInt8 := (P.take k).flatten
def startP (P : List (List UInt8)) (k : Nat) : Nat := (flatP P k).length
/-- The room where the first k pieces are laid. -/
def roomP (P : List (List UInt8)) (T k : Nat) : List UInt8 := flatP P k ++ List.replicate (T - startP P k) 0
/-- What a list is where s is laid over it from o on. -/
def overL (t : List UInt8) (o : Nat) (s : List UInt8) : List UInt8 := t.take o ++ (s ++ t.drop (o + s.length))
theorem flatP_succ {P : List (List UInt8)} {k : Nat} (h : k < P.length) : flatP P (k + 1) = flatP P k ++ P.getD k [] := by
  unfold flatP
  rw [List.take_succ_eq_append_getElem h, List.flatten_append, List.getD_eq_getElem?_getD, List.getElem?_eq_getElem h]
  simp
theorem startP_succ {P : List (List UInt8)} {k : Nat} (h : k < P.length) : startP P (k + 1) = startP P k + (P.getD k []).length := by
  unfold startP
  rw [flatP_succ h, List.length_append]
theorem startP_mono {P : List (List UInt8)} {j k : Nat} (h : j ≤ k) : startP P j ≤ startP P k := by
  induction k with
  | zero => obtain rfl : j = 0 := by omega
            exact Nat.le_refl _
  | succ k ih =>
    rcases Nat.lt_or_ge j (k + 1) with h1 | h1
    · refine Nat.le_trans (ih (by omega)) ?_
      rcases Nat.lt_or_ge k P.length with h2 | h2
      · rw [startP_succ h2]
        exact Nat.le_add_right _ _
      · unfold startP flatP
        rw [List.take_of_length_le h2, List.take_of_length_le (by omega)]
        exact Nat.le_refl _
    · obtain rfl : j = k + 1 := by omega
      exact Nat.le_refl _
theorem roomP_length {P : List (List UInt8)} {T k : Nat} (h : startP P k ≤ T) : (roomP P T k).length = T := by
  unfold roomP
  rw [List.length_append, List.length_replicate]
  unfold startP at h ⊢
  omega
theorem roomP_zero (P : List (List UInt8)) (T : Nat) : roomP P T 0 = List.replicate T 0 := by simp [roomP, flatP, startP]
theorem room_step {P : List (List UInt8)} {T k : Nat} (h : k < P.length) (hT : startP P (k + 1) ≤ T) : overL (roomP P T k) (startP P k) (P.getD k []) = roomP P T (k + 1) := by
  have h1 := startP_succ h
  unfold overL roomP
  rw [flatP_succ h]
  have e1 : (flatP P k ++ List.replicate (T - startP P k) 0).take (startP P k) = flatP P k := by
    unfold startP
    simp
  have e2 : (flatP P k ++ List.replicate (T - startP P k) 0).drop (startP P k + (P.getD k []).length) = List.replicate (T - startP P (k + 1)) 0 := by
    rw [List.drop_append, List.drop_of_length_le (by unfold startP; omega), List.nil_append, List.drop_replicate]
    congr 1
    show T - startP P k - (startP P k + (P.getD k []).length - (flatP P k).length) = _
    have : (flatP P k).length = startP P k := rfl
    omega
  rw [e1, e2, List.append_assoc]
theorem room_same {P : List (List UInt8)} {T k : Nat} (h : k < P.length) (h0 : (P.getD k []).length = 0) : roomP P T k = roomP P T (k + 1) := by
  have h1 := startP_succ h
  have h2 := flatP_succ h
  rw [List.eq_nil_of_length_eq_zero h0, List.append_nil] at h2
  unfold roomP
  rw [h2, h1, h0, Nat.add_zero]
theorem pieces_length (D : DkL) : (pieces D).length = D.1.length + D.2.length := by simp [pieces]
theorem pieces_left {D : DkL} {i : Nat} (h : i < D.1.length) : (pieces D).getD i [] = D.1.getD i [] := by
  rw [List.getD_eq_getElem?_getD, pieces, List.getElem?_append_left h, ← List.getD_eq_getElem?_getD]
theorem pieces_right {D : DkL} {i : Nat} (h : i < D.2.length) : (pieces D).getD (D.1.length + i) [] = (wr_ D.2 i).2 := by
  rw [List.getD_eq_getElem?_getD, pieces, List.getElem?_append_right (by omega)]
  simp [wr_, h]
theorem startP_sumB {D : DkL} : ∀ {k : Nat}, k ≤ D.1.length → startP (pieces D) k = sumB D.1 k
  | 0, _ => rfl
  | k + 1, h => by
    rw [startP_succ (by rw [pieces_length]; omega), startP_sumB (by omega), pieces_left (by omega)]
    rfl
theorem startP_sumW {D : DkL} : ∀ {k : Nat}, k ≤ D.2.length → startP (pieces D) (D.1.length + k) = sumB D.1 D.1.length + sumW D.2 k
  | 0, _ => by rw [Nat.add_zero, startP_sumB (Nat.le_refl _)]; rfl
  | k + 1, h => by
    have h1 : startP (pieces D) (D.1.length + k + 1) = _ := startP_succ (by rw [pieces_length]; omega)
    rw [← Nat.add_assoc, h1, startP_sumW (by omega), pieces_right (by omega)]
    show _ = _ + (_ + _)
    omega
theorem startP_sumD (D : DkL) : startP (pieces D) (D.1.length + D.2.length) = sumD D := startP_sumW (Nat.le_refl _)
/-- A byte of a piece, where it is laid. -/
theorem room_get {P : List (List UInt8)} {T n k j : Nat} (h : k < n) (hn : n ≤ P.length) (hj : j < (P.getD k []).length) : (roomP P T n)[startP P k + j]? = (P.getD k [])[j]? := by
  have hlt : startP P k + j < startP P n := by
    have h1 := startP_succ (show k < P.length by omega)
    have h2 := startP_mono (P := P) (show k + 1 ≤ n by omega)
    omega
  unfold roomP
  rw [List.getElem?_append_left (by exact hlt)]
  clear hlt
  induction n with
  | zero => omega
  | succ n ih =>
    rw [flatP_succ (by omega)]
    rcases Nat.lt_or_ge k n with h1 | h1
    · have hlt : startP P k + j < (flatP P n).length := by
        have h1' := startP_succ (show k < P.length by omega)
        have h2 := startP_mono (P := P) (show k + 1 ≤ n by omega)
        show _ < startP P n
        omega
      rw [List.getElem?_append_left hlt]
      exact ih h1 (by omega)
    · obtain rfl : k = n := by omega
      rw [List.getElem?_append_right (by unfold startP; omega)]
      congr 1
      unfold startP
      omega
end Go.Proofs.YtafbidhbmfdlkaaGreatDoor
/-
  The closure of dev.laid cuts a piece off the room and fills it.
-/
namespace Go.Proofs.YtafbidhbmfdlkaaGreatDoor
open Go.RowKit Go.Shelf
set_option maxRecDepth 100000

theorem dAtCopy {P : Program} {ops : Array Oper} {Q : Exit → Act → World → Prop} {a : Act} {w : World} {rest : List Oper} {d : Option Tmp} {ty : TypeId} {x : Array Operand} {y : Array TypeId} {pos : String} {af : Array Edge} (h : wpList P ops Q (⟨d, .call { callee := .builtin .copy, args := x, argTypes := y }, ty, pos, af, none⟩ :: rest) a w) : wpList P ops Q (⟨d, .call { callee := .builtin .copy, args := x, argTypes := y }, ty, pos, af, none⟩ :: rest) a w := h
theorem infoU1 : (Tryz.prog.info? 5).map (·.size) = some 1 := by kernel_rfl
/-- copy(dst, src) over a part of a row that is known whole; nothing else is written. -/
theorem wpList_copy_bsl {w : World} {ops : Array Oper} {rest : List Oper} {o : Oper} {a : Act} {Q : Exit → Act → World → Prop} (hgd : o.guard = none) (d s : Operand)
    (ho : o.op = .call { callee := .builtin .copy, args := #[d, s], argTypes := #[26, 26] })
    (g off n cap : Nat) (hd : a.eval d = .slice (some ⟨g, off, none⟩) n cap) (t : List UInt8) (hg : Blk w g 5 (ar t))
    (B : Nat) (A : Option Addr) (c : Nat) (news : List UInt8) (hs : a.eval s = .slice A n c) (hb : Bsl w B A n c news) (hfit : 0 < n → off + n ≤ t.length)
    (h : ∀ w', (0 < n → Blk w' g 5 (ar (overL t off news))) → (n = 0 → w' = w) → w.grownBy w' (some g) → w'.heap.size = w.heap.size → wpList Tryz.prog ops Q rest (a.put o.dst (.int .i64 n)) w') : wpList Tryz.prog ops Q (o :: rest) a w := by
  obtain ⟨h1, h2, h3, h4, h5⟩ := hb
  rcases Nat.eq_zero_or_pos n with h0 | h0
  · subst h0
    refine wpList_copy_nothing hgd d s 26 26 ho 5 Tryz.underlying26 infoU1 _ _ 0 cap 0 c hd hs rfl ?_
    exact h w (fun hh => absurd hh (Nat.lt_irrefl _)) (fun _ => rfl) (World.grownBy.refl w _) rfl
  · obtain ⟨b, of, rfl, _, hc⟩ := h5 h0
    have hl : (vals news).length = n := by simp [vals, h1]
    refine wpList_copy_own hgd d s 26 26 ho 5 Tryz.underlying26 infoU1 g off n cap ⟨b, of, none⟩ n c hd hs (ar t) 5 hg (vals news) (by rw [hl]; simp) (fun j v hv => ?_) (by rw [hl, ar_size]; exact hfit h0) (fun v hv => ?_) ?_
    · obtain ⟨hj, rfl⟩ := vals_get hv
      have : (⟨b, of, none⟩ : Addr).add j = ⟨b, of + j, none⟩ := by unfold Addr.add; split <;> simp_all
      rw [this]
      exact hc j hj
    · obtain ⟨y, _, rfl⟩ := List.mem_map.1 hv
      rfl
    · have e : ((ar t).toList.take off ++ (vals news ++ (ar t).toList.drop (off + (vals news).length))).toArray = ar (overL t off news) := by
        rw [hl]
        simp [ar, overL, vals, h1]
      rw [e]
      have hx : (goInt (vals news).length) = .int .i64 n := by rw [hl]; rfl
      rw [hx]
      refine h _ (fun _ => Blk.setRow hg) (fun hh => by omega) ⟨rfl, rfl, rfl, by simp [World.setRow], fun i hi hne => setRow_other w g i _ (fun e => hne (by rw [e]))⟩ (by simp [World.setRow])
/-- room[:n:n]. -/
theorem cut_hm (W : World) (g o r n : Nat) (hn : n ≤ r) : (Instr.slice 26 (.slice (some ⟨g, o, none⟩) r r) none (some (.int .i64 (n : Int))) (some (.int .i64 (n : Int)))).run Tryz.prog W = .ok (.slice (some ⟨g, o, none⟩) n n) W := by
  rw [run_slice_hm W 26 _ _ _ (by kernel_rfl) .i64 .i64 _ _ (by omega) (by omega) (by omega)]
  have hz : (Go.sizeOf (Tryz.prog.elem 26)).run Tryz.prog W = .ok 1 W := by kernel_rfl
  rw [hz]
  simp [Result.andThen, sliced, Addr.add]
/-- room[n:]. -/
theorem cut_l (W : World) (g o r n : Nat) (hn : n ≤ r) : (Instr.slice 26 (.slice (some ⟨g, o, none⟩) r r) (some (.int .i64 (n : Int))) none none).run Tryz.prog W = .ok (.slice (some ⟨g, if r = n then o else o + n, none⟩) (r - n) (r - n)) W := by
  rw [run_slice_l W 26 _ _ _ (by kernel_rfl) .i64 _ (by omega) (by omega)]
  have hz : (Go.sizeOf (Tryz.prog.elem 26)).run Tryz.prog W = .ok 1 W := by kernel_rfl
  rw [hz]
  simp [Result.andThen, sliced, Addr.add]
  split <;> simp
/-- What the closure does: the piece it answers, the room that is left. -/
def CutPost (gv g o r n : Nat) (t s : List UInt8) (w : World) (e : Ending) (w' : World) : Prop :=
  e = .returned (.slice (some ⟨g, o, none⟩) n n) ∧ w'.heap.size = w.heap.size ∧
    (∃ o', Blk w' gv 26 #[.slice (some ⟨g, o', none⟩) (r - n) (r - n)] ∧ (0 < r - n → o' = o + n)) ∧
    Blk w' g 5 (ar (if n = 0 then t else overL t o s)) ∧ ∃ w1, w.grownBy w1 (some gv) ∧ w1.grownBy w' (some g)
theorem dCut_any (B : Nat) (A : Option Addr) (n c gv g o r : Nat) (t s : List UInt8) (w : World) (hA : Bsl w B A n c s) (hBv : B ≤ gv) (hne : gv ≠ g) (hv : Blk w gv 26 #[.slice (some ⟨g, o, none⟩) r r]) (hg : Blk w g 5 (ar t)) (hn : n ≤ r) (ho : 0 < r → o + r ≤ t.length) :
    Calls Tryz.prog 17 #[.slice A n c, .pointer (some ⟨gv, 0, none⟩)] w (CutPost gv g o r n t s w) := by
  have k1 := fun W => cut_hm W g o r n hn
  have k2 := fun W => cut_l W g o r n hn
  obtain ⟨o', ho'⟩ : ∃ o', (if r = n then o else o + n) = o' := ⟨_, rfl⟩
  rw [ho'] at k2
  have c0 := hv.cell 0
  have f0 := hv.frozen 0
  have i0 : (0 : Int) ≤ n := by omega
  obtain ⟨w1, hw1⟩ : ∃ w1, w.setCell ⟨gv, 0, none⟩ (.slice (some ⟨g, o', none⟩) (r - n) (r - n)) = w1 := ⟨_, rfl⟩
  have x1 : Blk w1 gv 26 #[.slice (some ⟨g, o', none⟩) (r - n) (r - n)] := by rw [← hw1]; exact hv.set_ 0 _
  have g1 : w.grownBy w1 (some gv) := by rw [← hw1]; exact only_setCell (World.grownBy.refl w _) (.inl rfl) _
  have y1 : Blk w1 g 5 (ar t) := hg.grown g1 (fun e => hne (Option.some.inj e).symm)
  have z1 : w1.heap.size = w.heap.size := by rw [← hw1]; simp [World.setCell]
  have hA1 : Bsl w1 B A n c s := hA.below (below_only (Below.refl B w) hBv g1 (by have := hv.lt; omega))
  have HX := Lib.hid x1
  have HG := Lib.hid g1
  have HY := Lib.hid y1
  have HZ := Lib.hid z1
  have HA := Lib.hid hA1
  have HW := Lib.hid hw1
  have HO := Lib.hid ho'
  have HT := Lib.hid ho
  clear hA hv hg x1 g1 y1 z1 hA1 hw1 ho' ho
  go_enter Tryz.func17, Tryz.ntmps17
  go_wp2_with (with_reducible refine dAtCopy ?_
               rw [HW.out]
               refine wpList_copy_bsl rfl (.tmp 15) (.tmp 16) rfl g o n n rfl t HY.out B A c s rfl HA.out (fun hh => by have := HT.out (by omega); omega) ?_
               intro w2 x2 e2 g2 z2
               have HX2 := Lib.hid (HX.out.grown g2 (fun e => hne (Option.some.inj e)))
               have HY2 := Lib.hid x2
               have HE2 := Lib.hid e2
               have HG2 := Lib.hid g2
               have HZ2 := Lib.hid z2
               clear x2 e2 g2 z2)
  go_ret
  refine ⟨rfl, by rw [HZ2.out, HZ.out], ⟨o', HX2.out, fun hh => ?_⟩, ?_, w1, HG.out, HG2.out⟩
  · rw [← HO.out, if_neg (by omega)]
  · split
    · rename_i h0
      rw [HE2.out h0]
      exact HY.out
    · rename_i h0
      exact HY2.out (by omega)
end Go.Proofs.YtafbidhbmfdlkaaGreatDoor
/-
  make of slices of bytes, of slices of slices of bytes, of slices of writes: new blocks; three new blocks made in an order that is left open.
-/
namespace Go.Proofs.YtafbidhbmfdlkaaGreatDoor
open Go.RowKit Go.Shelf
set_option maxRecDepth 100000

theorem infoSlB : (Tryz.prog.info? 26).map (fun i => (i.zero, i.size, i.bytes)) = some (some (.slice none 0 0), 1, 24) := by kernel_rfl
theorem infoWri : (Tryz.prog.info? 53).map (fun i => (i.zero, i.size, i.bytes)) = some (some (.agg #[.int .i64 0, .slice none 0 0]), 2, 32) := by kernel_rfl
theorem made_one (v : Value) (hv : v.cells = #[v]) (n : Nat) : madeCells v.cells (n * 1) = Array.replicate n v := by
  apply Array.ext
  · simp [size_madeCells]
  · intro i h1 h2
    simp [madeCells, hv, Nat.mod_one]
theorem make_bytes (n : Nat) (hn : n ≤ 1000000000000) (W : World) : (Instr.makeSlice 26 (.int .i64 n) (.int .i64 n)).run Tryz.prog W = .ok (.slice (some ⟨W.heap.size, 0, none⟩) n n) (W.alloc (.cells (ar (List.replicate n 0)) 5)) := by
  obtain ⟨i0, hi, hz0, hz1, hz2⟩ := info_parts infoU8
  have hr := run_make (P := Tryz.prog) W 26 5 i0 (.int .u8 0) Tryz.underlying26 hi hz0 .i64 .i64 n n (by omega) (Int.le_refl _) (by rw [hz2]; omega) (by omega)
  rw [hz1] at hr
  simp only [Int.toNat_natCast] at hr
  rw [made_one _ rfl] at hr
  rw [hr]
  have e : Array.replicate n (Value.int .u8 0) = ar (List.replicate n 0) := by simp [ar, vals]
  rw [e]
theorem make_rows (n : Nat) (hn : n ≤ 1000000) (W : World) : (Instr.makeSlice 22 (.int .i64 n) (.int .i64 n)).run Tryz.prog W = .ok (.slice (some ⟨W.heap.size, 0, none⟩) n n) (W.alloc (.cells (Array.replicate n (.slice none 0 0)) 26)) := by
  obtain ⟨i0, hi, hz0, hz1, hz2⟩ := info_parts infoSlB
  have hr := run_make (P := Tryz.prog) W 22 26 i0 (.slice none 0 0) Tryz.underlying22 hi hz0 .i64 .i64 n n (by omega) (Int.le_refl _) (by rw [hz2]; omega) (by omega)
  rw [hz1] at hr
  simp only [Int.toNat_natCast] at hr
  rw [made_one _ rfl] at hr
  exact hr
/-- The cells of so many empty writes. -/
def noWrites (n : Nat) : Array Value := madeCells #[.int .i64 0, .slice none 0 0] (n * 2)
theorem noWrites_size (n : Nat) : (noWrites n).size = n * 2 := size_madeCells _ _
theorem make_writes (n : Nat) (hn : n ≤ 1000000) (W : World) : (Instr.makeSlice 23 (.int .i64 n) (.int .i64 n)).run Tryz.prog W = .ok (.slice (some ⟨W.heap.size, 0, none⟩) n n) (W.alloc (.cells (noWrites n) 53)) := by
  obtain ⟨i0, hi, hz0, hz1, hz2⟩ := info_parts infoWri
  have hr := run_make (P := Tryz.prog) W 23 53 i0 (.agg #[.int .i64 0, .slice none 0 0]) Tryz.underlying23 hi hz0 .i64 .i64 n n (by omega) (Int.le_refl _) (by rw [hz2]; omega) (by omega)
  rw [hz1] at hr
  simp only [Int.toNat_natCast] at hr
  exact hr
section
variable {P : Program} {Q : Exit → Act → World → Prop} {md : Region.Mode} {S : World → Prop}
/-- Three operations stand side by side: each way. -/
theorem wpI_fork3 {l : List Oper} {i j k : Nat} {σ : List Nat} {oi oj ok : Oper} {listed : Array Bool} {a : Act} {w : World} (hi : nthOp l i = some oi) (hj : nthOp l j = some oj) (hk : nthOp l k = some ok) (hr : Region.ready md l.toArray listed = [i, j, k])
    (h1 : ∀ K : Act → World → Prop, (∀ a' w', S w' → wpI P md S l Q (j :: k :: σ) (listed.setIfInBounds i true) a' w' → K a' w') → if Region.wanted oi (yielded l.toArray a.tmps) then oi.wp P a w K Q else K (a.put oi.dst undef) w)
    (h2 : ∀ K : Act → World → Prop, (∀ a' w', S w' → wpI P md S l Q (i :: k :: σ) (listed.setIfInBounds j true) a' w' → K a' w') → if Region.wanted oj (yielded l.toArray a.tmps) then oj.wp P a w K Q else K (a.put oj.dst undef) w)
    (h3 : ∀ K : Act → World → Prop, (∀ a' w', S w' → wpI P md S l Q (i :: j :: σ) (listed.setIfInBounds k true) a' w' → K a' w') → if Region.wanted ok (yielded l.toArray a.tmps) then ok.wp P a w K Q else K (a.put ok.dst undef) w) :
    wpI P md S l Q (i :: j :: k :: σ) listed a w := by
  refine ⟨fun h0 => (by rw [hr] at h0; cases h0), fun m hm => ?_⟩
  rw [hr] at hm
  rcases List.mem_cons.1 hm with rfl | hm
  · exact wpOp_of hi (h1 (fun a' w' => S w' ∧ wpMI P md S l.toArray Q (j :: k :: σ).length (listed.setIfInBounds m true) a' w') (fun a' w' hS hs => ⟨hS, hs⟩))
  · rcases List.mem_cons.1 hm with rfl | hm
    · exact wpOp_of hj (h2 (fun a' w' => S w' ∧ wpMI P md S l.toArray Q (i :: k :: σ).length (listed.setIfInBounds m true) a' w') (fun a' w' hS hs => ⟨hS, hs⟩))
    · rw [List.mem_singleton] at hm
      subst hm
      exact wpOp_of hk (h3 (fun a' w' => S w' ∧ wpMI P md S l.toArray Q (i :: j :: σ).length (listed.setIfInBounds m true) a' w') (fun a' w' hS hs => ⟨hS, hs⟩))
end
end Go.Proofs.YtafbidhbmfdlkaaGreatDoor
