/-
  Texts of one seat, one behind the other.
-/
import Derived.ProofKit
import Derived.OpenShut
import Derived.ShutString
import Derived.ChangeOld
import Derived.Below
import Derived.RangeFuncNested
import Derived.RangeFuncBox
import Derived.RangeFuncLeaves
import Derived.RangeFuncBound
import Derived.RangeFuncCalls
import Derived.Shelf.Abstract
import Derived.Shelf.RegionOpen
import Derived.WalkKit
import Derived.OwnWalkIn
import Derived.TacticsInMore
import Derived.LoopNIn
import Derived.LoopIn
import Derived.Outline
import Derived.Lib.Hide
import Derived.Lib.SlBytesRow
import Derived.Lib.QuoteBits
import Derived.WalkSpells
import Derived.Deep.QuietTactic
import Derived.BigQuiet
import Derived.Laws.Rows
import Derived.Laws.AppendOwnNone
import Derived.Test.YtbggkfomfeeikaaGreatDoorProg
import Derived.Laws.OwnMore
import Derived.Deep.AppendLies
import Derived.Deep.Draws
import Derived.StillTailTactics
import Derived.Laws.BitsAllLaws
import Derived.Deep.MidRow
import Derived.Laws.CopyOwn
import Derived.OrdersHeld
import Derived.Tactics
import Derived.KernelRfl
import Derived.Deep.CutRange
import Derived.Deep.DeepCutAuto
import Derived.CallsIn
import Derived.OrdersIn
import Derived.StillTail
import Derived.StillTactics
import Derived.TacticsIn
import Derived.Laws.StructEq
import Derived.RegionTactic
import Derived.Deep.RegionWith
import Derived.Deep.RegionHeld3
import Derived.Maps.OwnSet
import Derived.Maps.Views
import Derived.Carry
import Derived.IntWalk
import Derived.Deep.RegionLaw
import Derived.Lib.AppendZeros
import Derived.OwnWalk
import Derived.Lib.SlBytesConst
import Derived.ChangeKeysEq
import Derived.Laws.Cover3
import Derived.Lib.SmallJoins
import Derived.Deep.Matrix
import Derived.Deep.SlicePairs
import Derived.Deep.Grids
import Derived.SizedLaws
import Derived.Test.YtbggkfomfeeikaaGreatDoorRows
import Derived.Test.YtbggkfomfeeikaaGreatDoorTie
import Derived.Test.YtbggkfomfeeikaaGreatDoorCards
import Derived.LaidMore
import Derived.Stop.Joined
import Derived.SevenTiedAt
/-
  Words for slices of bytes, of any program: what one reads as; the string made of it; a part of it; appends to a slice of one's own.
-/
namespace Go.Proofs.YtbggkfomfeeikaaGreatDoor
open Go.RowKit Go.Shelf
set_option maxRecDepth 100000

/-- The cells of the block g hold the bytes s. -/
def Holds (W : World) (g : Nat) (s : List UInt8) : Prop := ∀ i (h : i < s.length), W.cell? ⟨g, i, none⟩ = some (.int .u8 ((s[i]).toNat : Int))
/-- string(b) of a slice whose cells hold s. -/
def strOf (s : List UInt8) : ByteArray := ⟨s.toArray⟩
theorem strOf_toList (s : List UInt8) : (strOf s).toList = s := by
  rw [ByteArray.toList_eq]; rfl
theorem conv_at (W : World) (g off len cap : Nat) (s : List UInt8) (hs : s.length = len) (hc : ∀ i (h : i < s.length), W.cell? ⟨g, off + i, none⟩ = some (.int .u8 ((s[i]).toNat : Int))) :
    (convert 27 9 (.slice (some ⟨g, off, none⟩) len cap)).run Tryz.prog W = .ok (.string (strOf s)) W := by
  rw [run_convert_bytes_arg (P := Tryz.prog) W 27 5 Tryz.underlying27 Tryz.underlying5 g off len cap (s.map fun x => (x.toNat : Int)) (by simpa using hs) (fun i hi => ?_) 9 Tryz.underlying9]
  · congr 2
    unfold strOfNums strOf
    have e : ((fun n : Int => UInt8.ofNat n.toNat) ∘ fun x : UInt8 => (x.toNat : Int)) = id := by funext x; simp
    rw [List.map_map, e, List.map_id]
  · rw [hc i (by omega)]
    simp [List.getD, hs, hi]
theorem Holds.below {B g : Nat} {W W' : World} {s : List UInt8} (h : Holds W g s) (hb : Below B W W') (hg : g < B) : Holds W' g s := fun i hi => (hb.cell (p := ⟨g, i, none⟩) hg).trans (h i hi)
theorem Holds.conv {W : World} {g cap : Nat} {s : List UInt8} (h : Holds W g s) {len : Nat} (hs : s.length = len) : (convert 27 9 (.slice (some ⟨g, 0, none⟩) len cap)).run Tryz.prog W = .ok (.string (strOf s)) W :=
  conv_at W g 0 len cap s hs fun i hi => by rw [Nat.zero_add]; exact h i hi
theorem Holds.drewN {W : World} {g : Nat} {s : List UInt8} (h : Holds W g s) (q : Nat) : Holds (W.drewN q) g s := fun i hi => by simpa using h i hi
theorem below_drewN {B : Nat} {a w : World} (h : Below B a w) (q : Nat) : Below B a (w.drewN q) := ⟨h.os, h.tape, h.output, h.size, h.block⟩
/-- b[:h]. -/
theorem slice_h (W : World) (g off len cap h : Nat) (hh : 0 < h) (hc : h ≤ cap) : (Instr.slice 27 (.slice (some ⟨g, off, none⟩) len cap) none (some (.int .i64 (h : Int))) none).run Tryz.prog W = .ok (.slice (some ⟨g, off, none⟩) h cap) W := by
  rw [run_slice_h W 27 _ _ _ (by kernel_rfl) .i64 _ (by omega) (by omega)]
  have hz : (Go.sizeOf (Tryz.prog.elem 27)).run Tryz.prog W = .ok 1 W := by kernel_rfl
  rw [hz]
  simp [Result.andThen, sliced, Addr.add] <;> omega
/-- The values of bytes. -/
def vals (s : List UInt8) : List Value := s.map fun x => .int .u8 (x.toNat : Int)
theorem vals_append (s t : List UInt8) : vals s ++ vals t = vals (s ++ t) := by simp [vals]
theorem vals_get {s : List UInt8} {j : Nat} {u : Value} (h : (vals s)[j]? = some u) : ∃ hj : j < s.length, u = .int .u8 ((s[j]).toNat : Int) := by
  rw [vals, List.getElem?_map] at h
  rcases Nat.lt_or_ge j s.length with hj | hj
  · rw [List.getElem?_eq_getElem hj] at h
    exact ⟨hj, (Option.some.inj h).symm⟩
  · rw [List.getElem?_eq_none hj] at h; cases h
/-- A slice of bytes that lies below block B reads as s. -/
def Bsl (w : World) (B : Nat) (a : Option Addr) (len cap : Nat) (s : List UInt8) : Prop :=
  s.length = len ∧ len ≤ cap ∧ cap ≤ maxLen ∧ (a = none → cap = 0) ∧
    (0 < len → ∃ b off, a = some ⟨b, off, none⟩ ∧ b < B ∧ ∀ i (h : i < s.length), w.cell? ⟨b, off + i, none⟩ = some (.int .u8 ((s[i]).toNat : Int)))
theorem Bsl.below {w w' : World} {B : Nat} {a : Option Addr} {len cap : Nat} {s : List UInt8} (h : Bsl w B a len cap s) (hb : Below B w w') : Bsl w' B a len cap s := by
  obtain ⟨h1, h2, h3, h4, h5⟩ := h
  refine ⟨h1, h2, h3, h4, fun hl => ?_⟩
  obtain ⟨b, off, e, hlt, hc⟩ := h5 hl
  exact ⟨b, off, e, hlt, fun i hi => (hb.cell (p := ⟨b, off + i, none⟩) hlt).trans (hc i hi)⟩
theorem infoU8 : (Tryz.prog.info? 5).map (fun i => (i.zero, i.size, i.bytes)) = some (some (.int .u8 0), 1, 1) := by kernel_rfl
theorem wpList_append_big {w : World} {ops : Array Oper} {rest : List Oper} {o : Oper} {a : Act} {Q : Exit → Act → World → Prop} (hgd : o.guard = none) (s x : Operand)
    (ho : o.op = .call { callee := .builtin .append, args := #[s, x], argTypes := #[27, 27] })
    (base : Nat) (v : Value) (n : Nat) (xs : List UInt8) (hs : a.eval s = v) (hown : w.ownsRow base 5 1 v n (vals xs))
    (B : Nat) (A : Option Addr) (m c : Nat) (news : List UInt8) (hx : a.eval x = .slice A m c) (hr : Bsl w B A m c news)
    (hnm : n + m ≤ 100000000000000) (hbase : base ≤ w.heap.size)
    (h : ∀ v' w', w'.ownsRow base 5 1 v' (n + m) (vals (xs ++ news)) → w.grownBy w' v.ownBlock → wpList Tryz.prog ops Q rest (a.put o.dst v') w') : wpList Tryz.prog ops Q (o :: rest) a w := by
  obtain ⟨i0, hi, hz0, hz1, hz2⟩ := info_parts infoU8
  obtain ⟨h1, h2, h3, h4, h5⟩ := hr
  have e0 : m = 0 → news = [] := fun e => List.eq_nil_of_length_eq_zero (by omega)
  cases A with
  | none =>
    have hc := h4 rfl
    have hm : m = 0 := by omega
    subst hm; subst hc
    obtain rfl := e0 rfl
    refine wpList_append_own_none hgd s x 27 ho base 5 i0 1 Tryz.underlying27 hi v n (vals xs) hs hown hx ?_
    exact h v w (by simpa using hown) (World.grownBy.refl w _)
  | some ad =>
    refine wpList_append_own w hgd s x 27 ho base 5 i0 (.int .u8 0) 1 1 Tryz.underlying27 hi hz0 hz1 hz2 rfl (by decide) v n (vals xs) hs hown ad m c (vals news) hx (by simp [vals, h1]) (fun j u hu => ?_) (fun u hu => ?_) (by unfold maxLen; omega) (by omega) hbase ?_
    · obtain ⟨hj, rfl⟩ := vals_get hu
      obtain ⟨b, off, e, _, hc⟩ := h5 (by omega)
      cases e
      rw [← hc j hj]
      congr 1
      unfold Addr.add
      split <;> simp_all
    · obtain ⟨y, _, rfl⟩ := List.mem_map.1 hu
      rfl
    · intro v' w' h2 h3 _
      exact h v' w' (by rw [← vals_append]; exact h2) h3
/-- The same, for short lists. -/
theorem wpList_append_bsl {w : World} {ops : Array Oper} {rest : List Oper} {o : Oper} {a : Act} {Q : Exit → Act → World → Prop} (hgd : o.guard = none) (s x : Operand)
    (ho : o.op = .call { callee := .builtin .append, args := #[s, x], argTypes := #[27, 27] })
    (base : Nat) (v : Value) (n : Nat) (xs : List UInt8) (hs : a.eval s = v) (hown : w.ownsRow base 5 1 v n (vals xs))
    (B : Nat) (A : Option Addr) (m c : Nat) (news : List UInt8) (hx : a.eval x = .slice A m c) (hr : Bsl w B A m c news)
    (hnm : n + m ≤ 100000) (hbase : base ≤ w.heap.size)
    (h : ∀ v' w', w'.ownsRow base 5 1 v' (n + m) (vals (xs ++ news)) → w.grownBy w' v.ownBlock → wpList Tryz.prog ops Q rest (a.put o.dst v') w') : wpList Tryz.prog ops Q (o :: rest) a w :=
  wpList_append_big hgd s x ho base v n xs hs hown B A m c news hx hr (by omega) hbase h
theorem Bsl.more {w : World} {B B' : Nat} {a : Option Addr} {len cap : Nat} {s : List UInt8} (h : Bsl w B a len cap s) (hB : B ≤ B') : Bsl w B' a len cap s := by
  obtain ⟨h1, h2, h3, h4, h5⟩ := h
  refine ⟨h1, h2, h3, h4, fun hl => ?_⟩
  obtain ⟨b, off, e, hlt, hc⟩ := h5 hl
  exact ⟨b, off, e, by omega, hc⟩
theorem Bsl.len_le {w : World} {B len cap : Nat} {a : Option Addr} {s : List UInt8} (h : Bsl w B a len cap s) : (len : Int) ≤ 9223372036854775807 := by have h1 := h.2.1; have h2 := h.2.2.1; unfold maxLen at h2; omega
/-- b[l:h], where it is not empty. -/
theorem slice_lh (W : World) (b off len cap l k : Nat) (hk : 0 < k) (hc : l + k ≤ cap) : (Instr.slice 27 (.slice (some ⟨b, off, none⟩) len cap) (some (.int .i64 (l : Int))) (some (.int .i64 ((l : Int) + k))) none).run Tryz.prog W = .ok (.slice (some ⟨b, off + l, none⟩) k (cap - l)) W := by
  have := Lib.run_slice_window (P := Tryz.prog) W 27 5 Tryz.underlying27 (fun _ => by kernel_rfl) b off len cap l (l + k) (by omega) hc
  rw [show ((l + k : Nat) : Int) = (l : Int) + k by omega, show l + k - l = k by omega] at this
  exact this
theorem win_length {s : List UInt8} {i k : Nat} (h : i + k ≤ s.length) : ((s.drop i).take k).length = k := by simp; omega
end Go.Proofs.YtbggkfomfeeikaaGreatDoor
/-
  What a slice of bytes that came in is: it reads as bytes; the string made of it.
-/
namespace Go.Proofs.YtbggkfomfeeikaaGreatDoor
open Go.RowKit Go.Shelf
set_option maxRecDepth 100000

/-- An empty slice reads as no bytes. -/
theorem bsl_nil (w : World) : Bsl w w.heap.size none 0 0 [] := ⟨rfl, Nat.le_refl _, by unfold maxLen; omega, fun _ => rfl, fun h => absurd h (by omega)⟩
theorem Bsl.conv {w : World} {B : Nat} {a : Option Addr} {len cap : Nat} {s : List UInt8} (h : Bsl w B a len cap s) : (convert 27 9 (.slice a len cap)).run Tryz.prog w = .ok (.string (strOf s)) w := by
  obtain ⟨h1, h2, h3, h4, h5⟩ := h
  cases a with
  | none =>
    have hc := h4 rfl
    have hl : len = 0 := by omega
    subst hl
    obtain rfl : s = [] := List.eq_nil_of_length_eq_zero h1
    exact run_convert_bytes_nil w 27 5 Tryz.underlying27 Tryz.underlying5 0 cap 9 Tryz.underlying9
  | some x =>
    rcases Nat.eq_zero_or_pos len with hl | hl
    · subst hl
      obtain rfl : s = [] := List.eq_nil_of_length_eq_zero h1
      have hcs : (loadCells x 0).run Tryz.prog w = .ok (([] : List Int).map (Value.int .u8)).toArray w := by
        have := run_loadCells_list (P := Tryz.prog) w x [] (fun j v hj => by simp at hj)
        simpa using this
      rw [run_convert_bytes_string w 27 9 5 _ 0 cap Tryz.underlying27 Tryz.underlying5 Tryz.underlying9, run_bytesToString w x 0 cap [] hcs]
      rfl
    · obtain ⟨b, off, e, hb, hc⟩ := h5 hl
      cases e
      exact conv_at w b off len cap s h1 hc

/-- WHAT THE WALK IS TOLD OF A SLICE OF INTEGERS THAT CAME IN: it is nil; or it leads to a row of 'cap' cells, the numbers 'zs' (the first 'len' are its elements, the rest its spare room), each fitting its kind. -/
def IsRow (k : IntKind) (w : World) (a : Option Addr) (len cap : Nat) (zs : List Int) : Prop :=
  (a = none ∧ len = 0 ∧ cap = 0 ∧ zs = []) ∨
  ∃ x, a = some x ∧ len ≤ cap ∧ cap ≤ maxLen ∧ zs.length = cap ∧ (∀ i, i < zs.length → w.cell? (x.add i) = some (.int k (zs.getD i 0))) ∧ ∀ n ∈ zs, (Lit.int k n).wf = true

/-- A slice of bytes that came in reads as bytes. -/
theorem bsl_of_row {w : World} {a : Option Addr} {len cap : Nat} {zs : List Int} (h : IsRow .u8 w a len cap zs) : Bsl w w.heap.size a len cap ((zs.take len).map fun z => UInt8.ofNat z.toNat) := by
  rcases h with ⟨rfl, rfl, rfl, rfl⟩ | ⟨x, rfl, hl, hm, hz, hcell, hwf⟩
  · exact bsl_nil w
  · have hsz : ((zs.take len).map fun z => UInt8.ofNat z.toNat).length = len := by simp; omega
    refine ⟨hsz, hl, hm, fun e => (by cases e), fun h0 => ?_⟩
    obtain ⟨b, off, spot⟩ := x
    have h00 := hcell 0 (by omega)
    have hspot : spot = none := by simpa [Addr.add] using World.cell?_spot h00
    subst hspot
    have hadd : ∀ i, (⟨b, off, none⟩ : Addr).add i = ⟨b, off + i, none⟩ := fun i => by unfold Addr.add; split <;> simp_all
    obtain ⟨o, ho, _⟩ := cells_of_cell h00
    refine ⟨b, off, rfl, ?_, fun i hi => ?_⟩
    · rw [hadd] at ho
      exact (Array.getElem?_eq_some_iff.1 ho).1
    · rw [hsz] at hi
      have hc := hcell i (by omega)
      rw [hadd] at hc
      have hiz : i < zs.length := by omega
      rw [hc]
      have hw := hwf zs[i] (List.getElem_mem hiz)
      have hr : 0 ≤ zs[i] ∧ zs[i] ≤ 255 := by simpa [Lit.wf, IntKind.min, IntKind.max, IntKind.signed, IntKind.bits] using hw
      simp only [List.getD, List.getElem?_eq_getElem hiz, Option.getD_some, List.getElem_map, List.getElem_take]
      congr 2
      have : (UInt8.ofNat zs[i].toNat).toNat = zs[i].toNat := by simp; omega
      rw [this]
      omega
end Go.Proofs.YtbggkfomfeeikaaGreatDoor
/-
  Words for memory: a block that is known whole; draws, new blocks and stores beside it.
-/
namespace Go.Proofs.YtbggkfomfeeikaaGreatDoor
open Go.RowKit Go.Shelf
set_option maxRecDepth 100000

/-- Block g is just the cells cs of element type t, none frozen. -/
def Blk (w : World) (g : Nat) (t : TypeId) (cs : Array Value) : Prop := w.heap[g]? = some (.cells cs t (0, 0))
section
variable {w w' : World} {g : Nat} {t : TypeId} {cs : Array Value}
theorem Blk.lt (h : Blk w g t cs) : g < w.heap.size := by
  rcases Nat.lt_or_ge g w.heap.size with hlt | hge
  · exact hlt
  · unfold Blk at h; rw [Array.getElem?_eq_none hge] at h; cases h
theorem Blk.cell (h : Blk w g t cs) (i : Nat) : w.cell? ⟨g, i, none⟩ = cs[i]? := cell_of_row w g i cs t (0, 0) h
theorem Blk.frozen (h : Blk w g t cs) (i : Nat) : w.frozen? ⟨g, i, none⟩ = false := by
  unfold Blk at h
  simp [World.frozen?, h]
theorem Blk.new (w : World) (t : TypeId) (cs : Array Value) : Blk (w.alloc (.cells cs t)) w.heap.size t cs := heap_alloc_new w _
theorem Blk.drew (h : Blk w g t cs) : Blk w.drew g t cs := h
theorem Blk.drewN (h : Blk w g t cs) (n : Nat) : Blk (w.drewN n) g t cs := h
theorem Blk.alloc (h : Blk w g t cs) (o : Obj) : Blk (w.alloc o) g t cs := (Below.heap_alloc w o g h.lt).trans h
theorem Blk.set_ (h : Blk w g t cs) (i : Nat) (u : Value) : Blk (w.setCell ⟨g, i, none⟩ u) g t (cs.setIfInBounds i u) := by
  unfold Blk at h ⊢
  simp [World.setCell, Array.getElem?_modify, h]
theorem Blk.far (h : Blk w g t cs) {p : Addr} (hp : g ≠ p.block) (u : Value) : Blk (w.setCell p u) g t cs := (Below.heap_setCell w p u g hp).trans h
theorem Blk.below {B : Nat} (h : Blk w g t cs) (hb : Below B w w') (hg : g < B) : Blk w' g t cs := (hb.block g hg).trans h
theorem Blk.grown {row : Option Nat} (h : Blk w g t cs) (hb : w.grownBy w' row) (hg : some g ≠ row) : Blk w' g t cs := (hb.block g h.lt hg).trans h
end
/-- Only block g, and what is new, has turned. -/
theorem only_drew {a w : World} {row : Option Nat} (h : a.grownBy w row) : a.grownBy w.drew row := ⟨h.os, h.tape, h.output, h.size, h.block⟩
theorem only_setCell {a w : World} {g : Nat} (h : a.grownBy w (some g)) {p : Addr} (hp : p.block = g ∨ a.heap.size ≤ p.block) (u : Value) : a.grownBy (w.setCell p u) (some g) :=
  ⟨h.os, h.tape, h.output, by simpa [World.setCell] using h.size, fun i hi hne => (Below.heap_setCell w p u i (by
    rintro rfl
    rcases hp with hp | hp
    · exact hne (by rw [hp])
    · omega)).trans (h.block i hi hne)⟩
theorem below_only {B : Nat} {a w w1 : World} {g : Nat} (h : Below B a w) (hg : B ≤ g) (hb : w.grownBy w1 (some g)) (hB : B ≤ w.heap.size) : Below B a w1 :=
  ⟨hb.os.trans h.os, hb.tape.trans h.tape, hb.output.trans h.output, Nat.le_trans h.size hb.size, fun i hi => (hb.block i (Nat.lt_of_lt_of_le hi hB) (fun e => by injection e; omega)).trans (h.block i hi)⟩

theorem Blk.set4 {w : World} {g : Nat} {t : TypeId} {u0 u1 u2 u3 : Value} (h : Blk w g t #[u0, u1, u2, u3]) (v0 v1 v2 v3 : Value) :
    Blk ((((w.setCell ⟨g, 0, none⟩ v0).setCell ⟨g, 1, none⟩ v1).setCell ⟨g, 2, none⟩ v2).setCell ⟨g, 3, none⟩ v3) g t #[v0, v1, v2, v3] := (((h.set_ 0 v0).set_ 1 v1).set_ 2 v2).set_ 3 v3
theorem below_set4 {B : Nat} {a w : World} {g : Nat} (h : Below B a w) (hg : B ≤ g) (v0 v1 v2 v3 : Value) :
    Below B a ((((w.setCell ⟨g, 0, none⟩ v0).setCell ⟨g, 1, none⟩ v1).setCell ⟨g, 2, none⟩ v2).setCell ⟨g, 3, none⟩ v3) :=
  (((h.setCell (p := ⟨g, 0, none⟩) hg v0).setCell (p := ⟨g, 1, none⟩) hg v1).setCell (p := ⟨g, 2, none⟩) hg v2).setCell (p := ⟨g, 3, none⟩) hg v3
theorem only_set4 {a w : World} {g : Nat} (h : a.grownBy w (some g)) (v0 v1 v2 v3 : Value) :
    a.grownBy ((((w.setCell ⟨g, 0, none⟩ v0).setCell ⟨g, 1, none⟩ v1).setCell ⟨g, 2, none⟩ v2).setCell ⟨g, 3, none⟩ v3) (some g) :=
  only_setCell (only_setCell (only_setCell (only_setCell h (.inl rfl) v0) (.inl rfl) v1) (.inl rfl) v2) (.inl rfl) v3

/-- A region that reads, calls quietly, and ends in one forced order, drawn over all orders: in the world drew, under a name. -/
theorem region_tail {P : Program} {Q : Exit → Act → World → Prop} {id : Nat} {a : Act} {w w1 : World} {l : List Oper} (n : Nat) (hm : P.follows .mixedOrders = true) (hB : Region.lexTailB .any l.toArray n = true) (hw : w.drew = w1)
    (h : wpStill P l.toArray w1 (fun a' => wpList P l.toArray Q (l.drop n) a' w1) (l.take n) a) : (Code.region id l.toArray true).wp P Q a w := by
  subst hw
  exact wp_region_still_tail n hm hB h
end Go.Proofs.YtbggkfomfeeikaaGreatDoor
/-
  Words for rows of the call's own and for lists of bytes, of any program: what goes on being read beside what is written; parts of a list; exclusive or of two bytes.
-/
namespace Go.Proofs.YtbggkfomfeeikaaGreatDoor
open Go.RowKit Go.Shelf
set_option maxRecDepth 100000

theorem own_below {base : Nat} {e : TypeId} {size : Nat} {v : Value} {n : Nat} {xs : List Value} {w w' : World} (h : w.ownsRow base e size v n xs) (hb : Below w.heap.size w w') : w'.ownsRow base e size v n xs :=
  h.kept (row := none) ⟨hb.os, hb.tape, hb.output, hb.size, fun i hi _ => hb.block i hi⟩ (by cases hv : v.ownBlock <;> simp)
theorem bsl_of_holds {w : World} {g n cap : Nat} {s : List UInt8} (hs : s.length = n) (h1 : n ≤ cap) (h2 : cap ≤ maxLen) (hg : g < w.heap.size) (h : Holds w g s) : Bsl w w.heap.size (some ⟨g, 0, none⟩) n cap s :=
  ⟨hs, h1, h2, fun e => (by cases e), fun _ => ⟨g, 0, rfl, hg, fun i hi => by rw [Nat.zero_add]; exact h i hi⟩⟩
/-- An append to a slice of the call's own writes nothing below the call. -/
theorem app_below {base n : Nat} {e : TypeId} {size : Nat} {v : Value} {xs : List Value} {w W W' : World} (hb : Below base w W) (ho : W.ownsRow base e size v n xs) (hg : W.grownBy W' v.ownBlock) (hs : base ≤ W.heap.size) : Below base w W' :=
  hb.grown hg hs (fun _ h => (ho.lt _ h).1)
theorem own_nil (w : World) (B : Nat) : w.ownsRow B 5 1 (.slice none 0 0) 0 (vals []) := World.ownsRow_nil _ _ _ _
theorem own_empty (w : World) : (w.alloc (.cells #[] 5)).ownsRow w.heap.size 5 1 (.slice (some ⟨w.heap.size, 0, none⟩) 0 0) 0 (vals []) :=
  ⟨rfl, .inr ⟨w.heap.size, 0, #[], rfl, Nat.le_refl _, heap_alloc_new w _, Nat.le_refl _, by unfold maxLen; omega, rfl, rfl⟩⟩
theorem Bsl.step {w w' : World} {a : Option Addr} {len cap : Nat} {s : List UInt8} (h : Bsl w w.heap.size a len cap s) (hb : Below w.heap.size w w') : Bsl w' w'.heap.size a len cap s := (h.below hb).more hb.size
theorem bsl_one (w : World) (g : Nat) (x : UInt8) (h : Blk w g 5 #[.int .u8 (x.toNat : Int)]) (hg : g < w.heap.size) : Bsl w w.heap.size (some ⟨g, 0, none⟩) 1 1 [x] :=
  ⟨rfl, Nat.le_refl _, by unfold maxLen; omega, fun e => (by cases e), fun _ => ⟨g, 0, rfl, hg, fun i hi => by
    have : i = 0 := by simpa using hi
    subst this
    exact h.cell 0⟩⟩
/-- Behind a new byte: the byte's own slice. -/
theorem one_bsl (w : World) (x : UInt8) : Bsl (w.alloc (.cells #[.int .u8 (x.toNat : Int)] 5)) (w.alloc (.cells #[.int .u8 (x.toNat : Int)] 5)).heap.size (some ⟨w.heap.size, 0, none⟩) 1 1 [x] :=
  bsl_one _ _ x (Blk.new w _ _) (by simp)
/-- The cells of an array of bytes. -/
def ar (s : List UInt8) : Array Value := (vals s).toArray
theorem ar_size (s : List UInt8) : (ar s).size = s.length := by simp [ar, vals]
theorem ar_get (s : List UInt8) (i : Nat) (h : i < s.length) : (ar s)[i]? = some (.int .u8 ((s[i]).toNat : Int)) := by simp [ar, vals, h]
/-- The first bytes of a list; a part of it. -/
theorem Bsl.pre {w : World} {B len cap : Nat} {a : Option Addr} {s : List UInt8} (h : Bsl w B a len cap s) (k : Nat) (hk : k ≤ len) : Bsl w B a k cap (s.take k) := by
  obtain ⟨h1, h2, h3, h4, h5⟩ := h
  refine ⟨by simp; omega, by omega, h3, h4, fun h0 => ?_⟩
  obtain ⟨b, off, e, hb, hc⟩ := h5 (by omega)
  refine ⟨b, off, e, hb, fun i hi => ?_⟩
  have hi' : i < s.length := by simp at hi; omega
  rw [hc i hi', List.getElem_take]
theorem Bsl.win {w : World} {B b off len cap : Nat} {s : List UInt8} (h : Bsl w B (some ⟨b, off, none⟩) len cap s) (l k : Nat) (hk : l + k ≤ len) : Bsl w B (some ⟨b, off + l, none⟩) k (cap - l) ((s.drop l).take k) := by
  obtain ⟨h1, h2, h3, h4, h5⟩ := h
  refine ⟨by simp; omega, by omega, by omega, fun e => (by cases e), fun h0 => ?_⟩
  obtain ⟨b', off', e, hb, hc⟩ := h5 (by omega)
  cases e
  refine ⟨b, off + l, rfl, hb, fun i hi => ?_⟩
  have hi' : l + i < s.length := by simp at hi; omega
  rw [Nat.add_assoc, hc (l + i) hi', List.getElem_take, List.getElem_drop]
theorem Bsl.cellD {w : World} {B g off len cap : Nat} {s : List UInt8} (h : Bsl w B (some ⟨g, off, none⟩) len cap s) (i : Nat) (hi : i < len) : w.cell? ⟨g, off + i, none⟩ = some (.int .u8 ((s.getD i 0).toNat : Int)) := by
  obtain ⟨b, o, e, _, hc⟩ := h.2.2.2.2 (by omega)
  cases e
  have hl : i < s.length := by rw [h.1]; exact hi
  rw [hc i hl, List.getD_eq_getElem?_getD, List.getElem?_eq_getElem hl]
  rfl
theorem Blk.bsl {w : World} {g t n : Nat} {s : List UInt8} (h : Blk w g t (ar s)) (hs : s.length = n) (hn : n ≤ 1000) : Bsl w w.heap.size (some ⟨g, 0, none⟩) n n s :=
  bsl_of_holds hs (Nat.le_refl _) (by unfold maxLen; omega) h.lt fun i hi => by rw [h.cell i, ar_get s i hi]
theorem Bsl.range {w : World} {B g off len cap : Nat} {s : List UInt8} (h : Bsl w B (some ⟨g, off, none⟩) len cap s) (h0 : 0 < len) : w.rangeAt g off (vals s) := fun j v hv => by
  obtain ⟨hj, rfl⟩ := vals_get hv
  obtain ⟨b, o, e, _, hc⟩ := h.2.2.2.2 h0
  cases e
  exact hc j hj
theorem Blk.setRow {w : World} {g t : Nat} {old cs : Array Value} (h : Blk w g t old) : Blk (w.setRow g cs) g t cs := setRow_heap w g old cs t (0, 0) h
theorem own_slice {w : World} {B n : Nat} {v : Value} {xs : List Value} (h : w.ownsRow B 5 1 v n xs) : ∃ a cap, v = .slice a n cap := by
  rcases h.2 with ⟨rfl, h0⟩ | ⟨g, cap, cur, rfl, _⟩
  · exact ⟨none, 0, by rw [h0]⟩
  · exact ⟨_, _, rfl⟩
theorem own_bsl {w : World} {B n cap : Nat} {a : Option Addr} {s : List UInt8} (h : w.ownsRow B 5 1 (.slice a n cap) n (vals s)) : Bsl w w.heap.size a n cap s := by
  have hl : s.length = n := by have := h.1; simpa [vals] using this
  obtain ⟨h1, ⟨h2, h3⟩ | ⟨g, cap', cur, h2, hb, hh, hnc, hcm, hsz, ht⟩⟩ := h
  · cases h2
    exact ⟨hl, Nat.le_refl _, Nat.zero_le _, fun _ => rfl, fun h => absurd h (by omega)⟩
  · cases h2
    refine ⟨hl, hnc, hcm, fun e => (by cases e), fun _ => ⟨g, 0, rfl, (Array.getElem?_eq_some_iff.1 hh).1, fun i hi => ?_⟩⟩
    rw [Nat.zero_add, cell_of_row w g i cur 5 (0, 0) hh]
    have : (vals s)[i]? = some (.int .u8 ((s[i]).toNat : Int)) := by simp [vals, hi]
    rw [← ht, List.getElem?_take_of_lt (by omega)] at this
    rw [← this, Array.getElem?_toList]
/-- A list of the call's own. -/
def OwnV (n : Nat) (s : List UInt8) (w : World) (e : Ending) (w' : World) : Prop := ∃ v, e = .returned v ∧ w'.ownsRow w.heap.size 5 1 v n (vals s) ∧ Below w.heap.size w w'
theorem own_to {w : World} {B n : Nat} {v : Value} {s : List UInt8} (h : w.ownsRow B 5 1 v n (vals s)) : ∃ a cap, v = .slice a n cap ∧ Bsl w w.heap.size a n cap s := by
  obtain ⟨a, cap, rfl⟩ := own_slice h
  exact ⟨a, cap, rfl, own_bsl h⟩
theorem own_mono {w : World} {B B' : Nat} {e : TypeId} {size : Nat} {v : Value} {n : Nat} {xs : List Value} (h : w.ownsRow B e size v n xs) (hB : B' ≤ B) : w.ownsRow B' e size v n xs :=
  ⟨h.1, h.2.imp id fun ⟨g, cap, cur, h1, h2, h3⟩ => ⟨g, cap, cur, h1, Nat.le_trans hB h2, h3⟩⟩
theorem own_other {w w' : World} {B g : Nat} {e : TypeId} {size : Nat} {v : Value} {n : Nat} {xs : List Value} (h : w.ownsRow B e size v n xs) (hg : w.grownBy w' (some g)) (hne : ∀ k, v.ownBlock = some k → k ≠ g) : w'.ownsRow B e size v n xs :=
  h.kept hg (by
    cases hv : v.ownBlock with
    | none => exact .inl rfl
    | some k => exact .inr fun e => hne k hv (Option.some.inj e))
theorem blk_kept {w w' : World} {b : Nat} {t : TypeId} {cs : Array Value} {row : Option Nat} (h : Blk w b t cs) (hg : w.grownBy w' row) (hk : ∀ r, row = some r → ∃ o : Obj, w.heap[r]? = some o ∧ o.isCells = false) : Blk w' b t cs :=
  h.grown hg (fun e' => by obtain ⟨o, ho, hc⟩ := hk b e'.symm; rw [show w.heap[b]? = _ from h] at ho; cases ho; cases hc)
theorem keepsOthers_grown {W W' : World} {g : Nat} {t : TypeId} {cs : Array Value} (h : W.grownBy W' (some g)) (hb : Blk W g t cs) : KeepsOthers W W' :=
  ⟨h.size, fun k o hk ho => (h.block k (Array.getElem?_eq_some_iff.1 hk).1 (fun e => by
    obtain rfl : k = g := Option.some.inj e
    rw [show W.heap[k]? = _ from hb] at hk
    cases hk
    cases ho)).trans hk⟩
theorem only_two (w : World) (g : Nat) (u v : Value) : w.grownBy ((w.setCell ⟨g, 0, none⟩ u).setCell ⟨g, 1, none⟩ v) (some g) :=
  only_setCell (p := ⟨g, 1, none⟩) (only_setCell (p := ⟨g, 0, none⟩) (World.grownBy.refl w (some g)) (.inl rfl) u) (.inl rfl) v
theorem below_alloc3' (w : World) (o1 o2 o3 : Obj) : Below w.heap.size w (((w.alloc o1).alloc o2).alloc o3) := (((Below.refl _ w).alloc (Nat.le_refl _) _).alloc (by simp) _).alloc (by simp; omega) _
end Go.Proofs.YtbggkfomfeeikaaGreatDoor
/-
  Plain lists for layer 9: a disk's blocks and waiting writes; the last write of a block among those that are marked; what they leave.
-/
namespace Go.Proofs.YtbggkfomfeeikaaGreatDoor

/-- Writes that wait: each its block's number and its bytes. -/
abbrev WrL := List (Int × List UInt8)
/-- A disk: its blocks, and what waits. -/
abbrev DkL := List (List UInt8) × WrL
/-- The write of number i. -/
def wr_ (ws : WrL) (i : Nat) : Int × List UInt8 := ws.getD i (0, [])
/-- The last write for the block p among the first n, of those that are marked. -/
def lastTo (ws : WrL) (mk : Nat → Bool) (p : Int) : Nat → Option Nat
  | 0 => none
  | n + 1 => if mk n = true ∧ (wr_ ws n).1 = p then some n else lastTo ws mk p n
/-- What they leave of the block p. -/
def leftD (D : DkL) (mk : Nat → Bool) (p : Nat) : List UInt8 := match lastTo D.2 mk (p : Int) D.2.length with
  | some i => (wr_ D.2 i).2
  | none => D.1.getD p []
/-- May a disk be? -/
def MayD (D : DkL) : Prop := (D.1.length = 256 ∧ ∀ i, i < 256 → (D.1.getD i []).length = 256) ∧ D.2.length ≤ 4096 ∧ ∀ i, i < D.2.length → (0 ≤ (wr_ D.2 i).1 ∧ (wr_ D.2 i).1 < 256) ∧ (wr_ D.2 i).2.length = 256
instance (D : DkL) : Decidable (MayD D) := inferInstanceAs (Decidable (_ ∧ _ ∧ _))
/-- The bytes of the first k blocks, of the first k writes, together. -/
def sumB (bl : List (List UInt8)) : Nat → Nat
  | 0 => 0
  | k + 1 => sumB bl k + (bl.getD k []).length
def sumW (ws : WrL) : Nat → Nat
  | 0 => 0
  | k + 1 => sumW ws k + (wr_ ws k).2.length
def sumD (D : DkL) : Nat := sumB D.1 D.1.length + sumW D.2 D.2.length
theorem sumB_mono (bl : List (List UInt8)) {j k : Nat} (h : j ≤ k) : sumB bl j ≤ sumB bl k := by
  induction k with
  | zero => obtain rfl : j = 0 := by omega
            exact Nat.le_refl _
  | succ k ih =>
    rcases Nat.lt_or_ge j (k + 1) with h1 | h1
    · exact Nat.le_trans (ih (by omega)) (Nat.le_add_right _ _)
    · obtain rfl : j = k + 1 := by omega
      exact Nat.le_refl _
theorem sumW_mono (ws : WrL) {j k : Nat} (h : j ≤ k) : sumW ws j ≤ sumW ws k := by
  induction k with
  | zero => obtain rfl : j = 0 := by omega
            exact Nat.le_refl _
  | succ k ih =>
    rcases Nat.lt_or_ge j (k + 1) with h1 | h1
    · exact Nat.le_trans (ih (by omega)) (Nat.le_add_right _ _)
    · obtain rfl : j = k + 1 := by omega
      exact Nat.le_refl _
/-- A disk on which more can be done than is needed: counts and bytes that no machine's memory comes near. -/
def Fits (D : DkL) : Prop := D.1.length ≤ 1000000 ∧ D.2.length ≤ 1000000 ∧ sumD D ≤ 1000000000000

theorem lastTo_lt {ws : WrL} {mk : Nat → Bool} {p : Int} : ∀ {n i : Nat}, lastTo ws mk p n = some i → i < n ∧ mk i = true ∧ (wr_ ws i).1 = p
  | 0, i, h => by cases h
  | n + 1, i, h => by
    unfold lastTo at h
    split at h
    · rename_i h1
      cases h
      exact ⟨Nat.lt_succ_self _, h1⟩
    · have := lastTo_lt h
      exact ⟨Nat.lt_succ_of_lt this.1, this.2⟩
theorem lastTo_none {ws : WrL} {mk : Nat → Bool} {p : Int} : ∀ {n : Nat}, lastTo ws mk p n = none → ∀ i, i < n → ¬ (mk i = true ∧ (wr_ ws i).1 = p)
  | 0, _, i, hi => by omega
  | n + 1, h, i, hi => by
    unfold lastTo at h
    split at h
    · cases h
    · rename_i h1
      rcases Nat.lt_or_ge i n with h2 | h2
      · exact lastTo_none h i h2
      · obtain rfl : i = n := by omega
        exact h1
theorem lastTo_after {ws : WrL} {mk : Nat → Bool} {p : Int} : ∀ {n i : Nat}, lastTo ws mk p n = some i → ∀ j, i < j → j < n → ¬ (mk j = true ∧ (wr_ ws j).1 = p)
  | 0, i, h => by cases h
  | n + 1, i, h => by
    unfold lastTo at h
    split at h
    · cases h
      intro j h1 h2
      omega
    · rename_i h0
      intro j h1 h2
      rcases Nat.lt_or_ge j n with h3 | h3
      · exact lastTo_after h j h1 h3
      · obtain rfl : j = n := by omega
        exact h0
/-- Found from behind. -/
theorem lastTo_behind {ws : WrL} {mk : Nat → Bool} {p : Int} {n i : Nat} (hi : i < n) (h1 : mk i = true ∧ (wr_ ws i).1 = p) (h2 : ∀ j, i < j → j < n → ¬ (mk j = true ∧ (wr_ ws j).1 = p)) : lastTo ws mk p n = some i := by
  cases h : lastTo ws mk p n with
  | none => exact absurd h1 (lastTo_none h i hi)
  | some k =>
    have hk := lastTo_lt h
    have ha := lastTo_after h
    rcases Nat.lt_trichotomy i k with h3 | h3 | h3
    · exact absurd hk.2 (h2 k h3 hk.1)
    · rw [h3]
    · exact absurd h1 (ha i h3 hi)
theorem lastTo_no {ws : WrL} {mk : Nat → Bool} {p : Int} {n : Nat} (h2 : ∀ j, j < n → ¬ (mk j = true ∧ (wr_ ws j).1 = p)) : lastTo ws mk p n = none := by
  cases h : lastTo ws mk p n with
  | none => rfl
  | some k => exact absurd (lastTo_lt h).2 (h2 k (lastTo_lt h).1)
theorem lastTo_congr {ws ws' : WrL} {mk mk' : Nat → Bool} {p : Int} : ∀ {n : Nat}, (∀ i, i < n → ((mk i = true ∧ (wr_ ws i).1 = p) ↔ (mk' i = true ∧ (wr_ ws' i).1 = p))) → lastTo ws mk p n = lastTo ws' mk' p n
  | 0, _ => rfl
  | n + 1, h => by
    unfold lastTo
    rw [lastTo_congr (n := n) (fun i hi => h i (by omega))]
    by_cases h1 : mk n = true ∧ (wr_ ws n).1 = p
    · rw [if_pos h1, if_pos ((h n (by omega)).1 h1)]
    · rw [if_neg h1, if_neg (fun h2 => h1 ((h n (by omega)).2 h2))]
theorem leftD_length {D : DkL} (h : MayD D) (mk : Nat → Bool) {p : Nat} (hp : p < 256) : (leftD D mk p).length = 256 := by
  unfold leftD
  split
  · rename_i i hi
    exact (h.2.2 i (lastTo_lt hi).1).2
  · exact h.1.2 p hp
theorem sumB_all {bl : List (List UInt8)} : ∀ {n : Nat}, (∀ i, i < n → (bl.getD i []).length = 256) → sumB bl n = 256 * n
  | 0, _ => rfl
  | n + 1, h => by
    unfold sumB
    rw [sumB_all (fun i hi => h i (by omega)), h n (by omega)]
    omega
theorem sumW_all {ws : WrL} : ∀ {n : Nat}, (∀ i, i < n → (wr_ ws i).2.length = 256) → sumW ws n = 256 * n
  | 0, _ => rfl
  | n + 1, h => by
    unfold sumW
    rw [sumW_all (fun i hi => h i (by omega)), h n (by omega)]
    omega
theorem may_fits {D : DkL} (h : MayD D) : Fits D := by
  have h1 := sumB_all h.1.2
  have h2 := sumW_all fun i hi => (h.2.2 i hi).2
  have h3 := h.2.1
  refine ⟨by rw [h.1.1]; omega, by omega, ?_⟩
  unfold sumD
  rw [h.1.1, h1, h2]
  omega
end Go.Proofs.YtbggkfomfeeikaaGreatDoor
/-
  Words for a disk in memory: a slice of slices of bytes, and a slice of writes, that read as plain lists.
-/
namespace Go.Proofs.YtbggkfomfeeikaaGreatDoor
open Go.RowKit Go.Shelf
set_option maxRecDepth 100000

/-- A slice of slices of bytes that lies below block B reads as bl. -/
def Bls (w : World) (B : Nat) (a : Option Addr) (len cap : Nat) (bl : List (List UInt8)) : Prop :=
  bl.length = len ∧ len ≤ cap ∧ cap ≤ maxLen ∧
    (0 < len → ∃ b off, a = some ⟨b, off, none⟩ ∧ b < B ∧ ∀ i, i < len → ∃ A c, w.cell? ⟨b, off + i, none⟩ = some (.slice A (bl.getD i []).length c) ∧ Bsl w B A (bl.getD i []).length c (bl.getD i []))
/-- A slice of writes that lies below block B reads as ws. -/
def Wts (w : World) (B : Nat) (a : Option Addr) (len cap : Nat) (ws : WrL) : Prop :=
  ws.length = len ∧ len ≤ cap ∧ cap ≤ maxLen ∧
    (0 < len → ∃ b off, a = some ⟨b, off, none⟩ ∧ b < B ∧ ∀ i, i < len → (Lit.int .i64 (wr_ ws i).1).wf = true ∧ w.cell? ⟨b, off + i * 2, none⟩ = some (.int .i64 (wr_ ws i).1) ∧
      ∃ A c, w.cell? ⟨b, off + i * 2 + 1, none⟩ = some (.slice A (wr_ ws i).2.length c) ∧ Bsl w B A (wr_ ws i).2.length c (wr_ ws i).2)
section
variable {w w' : World} {B B' len cap : Nat} {a : Option Addr} {bl : List (List UInt8)} {ws : WrL}
theorem Bls.below (h : Bls w B a len cap bl) (hb : Below B w w') : Bls w' B a len cap bl := by
  obtain ⟨h1, h2, h3, h4⟩ := h
  refine ⟨h1, h2, h3, fun hl => ?_⟩
  obtain ⟨b, off, e, hlt, hc⟩ := h4 hl
  refine ⟨b, off, e, hlt, fun i hi => ?_⟩
  obtain ⟨A, c, h5, h6⟩ := hc i hi
  exact ⟨A, c, (hb.cell (p := ⟨b, off + i, none⟩) hlt).trans h5, h6.below hb⟩
theorem Bls.more (h : Bls w B a len cap bl) (hB : B ≤ B') : Bls w B' a len cap bl := by
  obtain ⟨h1, h2, h3, h4⟩ := h
  refine ⟨h1, h2, h3, fun hl => ?_⟩
  obtain ⟨b, off, e, hlt, hc⟩ := h4 hl
  refine ⟨b, off, e, by omega, fun i hi => ?_⟩
  obtain ⟨A, c, h5, h6⟩ := hc i hi
  exact ⟨A, c, h5, h6.more hB⟩
theorem Bls.step (h : Bls w w.heap.size a len cap bl) (hb : Below w.heap.size w w') : Bls w' w'.heap.size a len cap bl := (h.below hb).more hb.size
theorem Bls.at_ (h : Bls w B a len cap bl) {i : Nat} (hi : i < len) : ∃ b off A n c s, a = some ⟨b, off, none⟩ ∧ b < B ∧ bl.getD i [] = s ∧ w.cell? ⟨b, off + i, none⟩ = some (.slice A n c) ∧ Bsl w B A n c s := by
  obtain ⟨h1, h2, h3, h4⟩ := h
  obtain ⟨b, off, e, hlt, hc⟩ := h4 (by omega)
  obtain ⟨A, c, h5, h6⟩ := hc i hi
  exact ⟨b, off, A, _, c, _, e, hlt, rfl, h5, h6⟩
theorem Wts.below (h : Wts w B a len cap ws) (hb : Below B w w') : Wts w' B a len cap ws := by
  obtain ⟨h1, h2, h3, h4⟩ := h
  refine ⟨h1, h2, h3, fun hl => ?_⟩
  obtain ⟨b, off, e, hlt, hc⟩ := h4 hl
  refine ⟨b, off, e, hlt, fun i hi => ?_⟩
  obtain ⟨h0, h7, A, c, h5, h6⟩ := hc i hi
  exact ⟨h0, (hb.cell (p := ⟨b, off + i * 2, none⟩) hlt).trans h7, A, c, (hb.cell (p := ⟨b, off + i * 2 + 1, none⟩) hlt).trans h5, h6.below hb⟩
theorem Wts.more (h : Wts w B a len cap ws) (hB : B ≤ B') : Wts w B' a len cap ws := by
  obtain ⟨h1, h2, h3, h4⟩ := h
  refine ⟨h1, h2, h3, fun hl => ?_⟩
  obtain ⟨b, off, e, hlt, hc⟩ := h4 hl
  refine ⟨b, off, e, by omega, fun i hi => ?_⟩
  obtain ⟨h0, h7, A, c, h5, h6⟩ := hc i hi
  exact ⟨h0, h7, A, c, h5, h6.more hB⟩
theorem Wts.step (h : Wts w w.heap.size a len cap ws) (hb : Below w.heap.size w w') : Wts w' w'.heap.size a len cap ws := (h.below hb).more hb.size
theorem Wts.at_ (h : Wts w B a len cap ws) {i : Nat} (hi : i < len) : ∃ b off p A n c s, a = some ⟨b, off, none⟩ ∧ b < B ∧ wr_ ws i = (p, s) ∧ (Lit.int .i64 p).wf = true ∧ w.cell? ⟨b, off + i * 2, none⟩ = some (.int .i64 p) ∧
    w.cell? ⟨b, off + i * 2 + 1, none⟩ = some (.slice A n c) ∧ Bsl w B A n c s := by
  obtain ⟨h1, h2, h3, h4⟩ := h
  obtain ⟨b, off, e, hlt, hc⟩ := h4 (by omega)
  obtain ⟨h0, h7, A, c, h5, h6⟩ := hc i hi
  exact ⟨b, off, _, A, _, c, _, e, hlt, rfl, h0, h7, h5, h6⟩
theorem Bls.len_le (h : Bls w B a len cap bl) : (len : Int) ≤ 9223372036854775807 := by have h1 := h.2.1; have h2 := h.2.2.1; unfold maxLen at h2; omega
theorem Wts.len_le (h : Wts w B a len cap ws) : (len : Int) ≤ 9223372036854775807 := by have h1 := h.2.1; have h2 := h.2.2.1; unfold maxLen at h2; omega
end
theorem bls_nil (w : World) (B : Nat) : Bls w B none 0 0 [] := ⟨rfl, Nat.le_refl _, Nat.zero_le _, fun h => absurd h (Nat.lt_irrefl _)⟩
theorem wts_nil (w : World) (B : Nat) : Wts w B none 0 0 [] := ⟨rfl, Nat.le_refl _, Nat.zero_le _, fun h => absurd h (Nat.lt_irrefl _)⟩
/-- Where the two slices of a disk are. -/
structure DAt where
  ba : Option Addr
  bc : Nat
  wa : Option Addr
  wc : Nat
/-- The value of a disk. -/
def dval (x : DAt) (D : DkL) : Value := .agg #[.slice x.ba D.1.length x.bc, .slice x.wa D.2.length x.wc]
/-- A disk that lies below block B reads as D. -/
def Dsk (w : World) (B : Nat) (x : DAt) (D : DkL) : Prop := Bls w B x.ba D.1.length x.bc D.1 ∧ Wts w B x.wa D.2.length x.wc D.2
theorem Dsk.step {w w' : World} {x : DAt} {D : DkL} (h : Dsk w w.heap.size x D) (hb : Below w.heap.size w w') : Dsk w' w'.heap.size x D := ⟨h.1.step hb, h.2.step hb⟩
end Go.Proofs.YtbggkfomfeeikaaGreatDoor
/-
  Plain lists for layer 9: all bytes of a disk in one row, piece behind piece.
-/
namespace Go.Proofs.YtbggkfomfeeikaaGreatDoor

/-- The pieces of a disk: its blocks, then its writes' bytes. -/
def pieces (D : DkL) : List (List UInt8) := D.1 ++ D.2.map (·.2)
def flatP (P : List (List UInt8)) (k : Nat) : List UInt8 := (P.take k).flatten
def startP (P : List (List UInt8)) (k : Nat) : Nat := (flatP P k).length
/-- The room where the first k pieces are laid. -/
def roomP (P : List (List UInt8)) (T k : Nat) : List UInt8 := flatP P k ++ List.replicate (T - startP P k) 0
/-- What a list is where s is laid over it from o on. -/
def overL (t : List UInt8) (o : Nat) (s : List UInt8) : List UInt8 := t.take o ++ (s ++ t.drop (o + s.length))
theorem flatP_succ {P : List (List UInt8)} {k : Nat} (h : k < P.length) : flatP P (k + 1) = flatP P k ++ P.getD k [] := by
  unfold flatP
  rw [List.take_succ_eq_append_getElem h, List.flatten_append, List.getD_eq_getElem?_getD, List.getElem?_eq_getElem h]
  simp
theorem startP_succ {P : List (List UInt8)} {k : Nat} (h : k < P.length) : startP P (k + 1) = startP P k + (P.getD k []).length := by
  unfold startP
  rw [flatP_succ h, List.length_append]
theorem room_step {P : List (List UInt8)} {T k : Nat} (h : k < P.length) (hT : startP P (k + 1) ≤ T) : overL (roomP P T k) (startP P k) (P.getD k []) = roomP P T (k + 1) := by
  have h1 := startP_succ h
  unfold overL roomP
  rw [flatP_succ h]
  have e1 : (flatP P k ++ List.replicate (T - startP P k) 0).take (startP P k) = flatP P k := by
    unfold startP
    simp
  have e2 : (flatP P k ++ List.replicate (T - startP P k) 0).drop (startP P k + (P.getD k []).length) = List.replicate (T - startP P (k + 1)) 0 := by
    rw [List.drop_append, List.drop_of_length_le (by unfold startP; omega), List.nil_append, List.drop_replicate]
    congr 1
    show T - startP P k - (startP P k + (P.getD k []).length - (flatP P k).length) = _
    have : (flatP P k).length = startP P k := rfl
    omega
  rw [e1, e2, List.append_assoc]
theorem room_same {P : List (List UInt8)} {T k : Nat} (h : k < P.length) (h0 : (P.getD k []).length = 0) : roomP P T k = roomP P T (k + 1) := by
  have h1 := startP_succ h
  have h2 := flatP_succ h
  rw [List.eq_nil_of_length_eq_zero h0, List.append_nil] at h2
  unfold roomP
  rw [h2, h1, h0, Nat.add_zero]
theorem pieces_length (D : DkL) : (pieces D).length = D.1.length + D.2.length := by simp [pieces]
theorem pieces_left {D : DkL} {i : Nat} (h : i < D.1.length) : (pieces D).getD i [] = D.1.getD i [] := by
  rw [List.getD_eq_getElem?_getD, pieces, List.getElem?_append_left h, ← List.getD_eq_getElem?_getD]
theorem pieces_right {D : DkL} {i : Nat} (h : i < D.2.length) : (pieces D).getD (D.1.length + i) [] = (wr_ D.2 i).2 := by
  rw [List.getD_eq_getElem?_getD, pieces, List.getElem?_append_right (by omega)]
  simp [wr_, h]
end Go.Proofs.YtbggkfomfeeikaaGreatDoor
/-
  The closure of dev.laid cuts a piece off the room and fills it.
-/
namespace Go.Proofs.YtbggkfomfeeikaaGreatDoor
open Go.RowKit Go.Shelf
set_option maxRecDepth 100000

/-- What the closure does: the piece it answers, the room that is left. -/
def CutPost (gv g o r n : Nat) (t s : List UInt8) (w : World) (e : Ending) (w' : World) : Prop :=
  e = .returned (.slice (some ⟨g, o, none⟩) n n) ∧ w'.heap.size = w.heap.size ∧
    (∃ o', Blk w' gv 27 #[.slice (some ⟨g, o', none⟩) (r - n) (r - n)] ∧ (0 < r - n → o' = o + n)) ∧
    Blk w' g 5 (ar (if n = 0 then t else overL t o s)) ∧ ∃ w1, w.grownBy w1 (some gv) ∧ w1.grownBy w' (some g)
end Go.Proofs.YtbggkfomfeeikaaGreatDoor
/-
  A region that draws its order and holds calls that make memory, walked in one order of one's own: each operation that reads yields the same in every world that what follows may come to; each call stands alone when its turn comes (or two stand side by side: both ways are walked); an operation that has its own place in the order may do what it likes.
-/
namespace Go.Proofs.YtbggkfomfeeikaaGreatDoor
open Go Go.RowKit
set_option maxRecDepth 100000

/-- What lay as it lay still does. -/
def Stays (w w' : World) : Prop := ∀ X : World, Below X.heap.size X w → Below X.heap.size X w'
theorem Stays.refl (w : World) : Stays w w := fun _ h => h
theorem Stays.trans {a b c : World} (h : Stays a b) (k : Stays b c) : Stays a c := fun X hx => k X (h X hx)
theorem Stays.of_below {w w' : World} (b : Below w.heap.size w w') : Stays w w' := fun _ h => h.trans (b.mono h.size)
theorem Stays.drew (w : World) : Stays w w.drew := fun _ h => h.drew
theorem Stays.same {w w' : World} (h : w' = w) : Stays w w' := h ▸ Stays.refl w

section
variable {P : Program} {ops : Array Oper} {Q : Exit → Act → World → Prop} {md : Region.Mode}

/-- What is listed has all listed that it waits for. -/
def Closed (md : Region.Mode) (ops : Array Oper) (L : Array Bool) : Prop := ∀ k o, ops[k]? = some o → L.getD k false = true → ∀ e ∈ o.after, Region.binds md e = true → L.getD e.on false = true
def closedB (md : Region.Mode) (ops : Array Oper) (L : Array Bool) : Bool :=
  (List.range ops.size).all fun k => !L.getD k false || match ops[k]? with
    | some o => o.after.toList.all fun e => !Region.binds md e || L.getD e.on false
    | none => true
theorem closedB_spec {L : Array Bool} (h : closedB md ops L = true) : Closed md ops L := by
  intro k o hk hl e he hb
  unfold closedB at h
  simp only [List.all_eq_true, List.mem_range] at h
  have h1 := h k (Array.getElem?_eq_some_iff.1 hk).1
  rw [hl, hk] at h1
  simp only [Bool.not_true, Bool.false_or, List.all_eq_true] at h1
  have h2 := h1 e (by simpa using he)
  rw [hb] at h2
  simpa using h2
theorem closed_set {L : Array Bool} {j : Nat} (h : Closed md ops L) (hj : j ∈ Region.ready md ops L) : Closed md ops (L.setIfInBounds j true) := by
  intro k o hk hl e he hb
  by_cases hkj : j = k
  · subst hkj
    obtain ⟨_, oj, hoj, hall⟩ := mem_ready.1 hj
    rw [hk] at hoj
    cases hoj
    exact getD_set_true (hall e he hb)
  · rw [getD_set_ne false hkj] at hl
    exact getD_set_true (h k o hk hl e he hb)
/-- j waits for k, by at most so many steps. -/
def waitsB (md : Region.Mode) (ops : Array Oper) : Nat → Nat → Nat → Bool
  | 0, _, _ => false
  | n + 1, j, k => match ops[j]? with
    | some o => o.after.toList.any fun e => Region.binds md e && (e.on == k || waitsB md ops n e.on k)
    | none => false
theorem waits_listed {L : Array Bool} (hc : Closed md ops L) {k : Nat} : ∀ (n j : Nat), waitsB md ops n j k = true → (∀ o, ops[j]? = some o → ∀ e ∈ o.after, Region.binds md e = true → L.getD e.on false = true) → L.getD k false = true
  | 0, _, h, _ => by cases h
  | n + 1, j, h, hd => by
    unfold waitsB at h
    cases ho : ops[j]? with
    | none => rw [ho] at h; cases h
    | some o =>
      rw [ho] at h
      simp only [List.any_eq_true, Bool.and_eq_true, Bool.or_eq_true, beq_iff_eq] at h
      obtain ⟨e, he, hb, h1⟩ := h
      have hl := hd o ho e (by simpa using he) hb
      rcases h1 with h1 | h1
      · rw [← h1]; exact hl
      · exact waits_listed hc n e.on h1 fun o' ho' e' he' hb' => hc e.on o' ho' hl e' he' hb'
/-- Each other operation comes ahead of that of number i, or behind it. -/
def lastB (md : Region.Mode) (ops : Array Oper) (i : Nat) : Bool := (List.range ops.size).all fun k => k == i || waitsB md ops ops.size i k || waitsB md ops ops.size k i
theorem unready {L : Array Bool} {i : Nat} (h : i ∈ Region.ready md ops L) (hl : L.getD i false = true) : False := by
  have h0 := (mem_ready.1 h).1
  rcases Nat.lt_or_ge i L.size with h' | h'
  · simp [h'] at h0 hl; rw [h0] at hl; cases hl
  · simp [Array.getElem?_eq_none h'] at hl
theorem lastB_not {L : Array Bool} {i j : Nat} (hc : Closed md ops L) (hi : i ∈ Region.ready md ops L) (hj : j ∈ Region.ready md ops L) (hne : j ≠ i) : lastB md ops j ≠ true := by
  intro h
  unfold lastB at h
  simp only [List.all_eq_true, List.mem_range] at h
  obtain ⟨_, oi, hoi, di⟩ := mem_ready.1 hi
  obtain ⟨_, oj, hoj, dj⟩ := mem_ready.1 hj
  have h1 := h i (Array.getElem?_eq_some_iff.1 hoi).1
  simp only [Bool.or_eq_true, beq_iff_eq, Ne.symm hne, false_or] at h1
  rcases h1 with h1 | h1
  · exact unready hi (waits_listed hc _ j h1 fun o ho e he hb => by rw [hoj] at ho; cases ho; exact dj e he hb)
  · exact unready hj (waits_listed hc _ i h1 fun o ho e he hb => by rw [hoi] at ho; cases ho; exact di e he hb)

/-- Whatever order is picked from here on; what lay as it lay still does behind each operation but such as stand alone in the order. -/
def wpMov (P : Program) (md : Region.Mode) (ops : Array Oper) (Q : Exit → Act → World → Prop) : Nat → Array Bool → Act → World → Prop
  | 0, listed, a, w => Region.ready md ops listed = [] ∧ Q .normal a w
  | fuel + 1, listed, a, w =>
    (Region.ready md ops listed = [] → Q .normal a w) ∧
    ∀ i ∈ Region.ready md ops listed, wpOp P ops Q i (fun a' w' => (lastB md ops i = true ∨ Stays w w') ∧ wpMov P md ops Q fuel (listed.setIfInBounds i true) a' w') a w
theorem wpAny_of_mov : ∀ (fuel : Nat) (listed : Array Bool) (a : Act) (w : World), wpMov P md ops Q fuel listed a w → wpAny P md ops Q fuel listed a w
  | 0, _, _, _, h => h
  | fuel + 1, _, _, _, h => ⟨h.1, fun i hi => wpOp_mono (fun a' w' h' => wpAny_of_mov fuel _ a' w' h'.2) (h.2 i hi)⟩

theorem yieldsIf_weaken {S S' : World → Prop} {o : Oper} {v : Value} {a : Act} (h : YieldsIf P ops S o v a) (hS : ∀ w, S' w → S w) : YieldsIf P ops S' o v a :=
  h.imp (fun ⟨hw, hv⟩ => ⟨hw, fun w hs => hv w (hS w hs)⟩) id

theorem wpMov_first {i : Nat} {oi : Oper} {v : Value} (hi : ops[i]? = some oi) (hsel : ∀ (j : Nat) (o : Oper) cs b, ops[j]? = some o → o.op ≠ .select cs b)
    (hQ : ∀ c a w, Q (.panic c) (a.put oi.dst v) w → Q (.panic c) a w) :
    ∀ (fuel : Nat) (listed : Array Bool) (a : Act) (w : World),
      (∀ j oj, ops[j]? = some oj → j ≠ i → listed.getD j true = false → (∀ e ∈ oj.after, Region.binds md e = true → e.on ≠ i) → oi.apart ops oj = true) →
      Closed md ops listed → i ∈ Region.ready md ops listed → YieldsIf P ops (Stays w) oi v a →
      wpMov P md ops Q fuel (listed.setIfInBounds i true) (a.put oi.dst v) w → wpMov P md ops Q (fuel + 1) listed a w := by
  intro fuel
  induction fuel with
  | zero =>
    intro listed a w _ hcl hr hy H
    refine ⟨fun h => (by rw [h] at hr; cases hr), fun j hj => ?_⟩
    by_cases hji : j = i
    · subst hji; exact hy.wpOp hi (Stays.refl w) ⟨.inr (Stays.refl w), H⟩
    · have := ready_mono hj hji
      rw [H.1] at this
      cases this
  | succ fuel ih =>
    intro listed a w hfree hcl hr hy H
    refine ⟨fun h => (by rw [h] at hr; cases hr), fun j hj => ?_⟩
    by_cases hji : j = i
    · subst hji; exact hy.wpOp hi (Stays.refl w) ⟨.inr (Stays.refl w), H⟩
    · have g1 := H.2 j (ready_mono hj hji)
      obtain ⟨hjun, oj, hoj, hall⟩ := mem_ready.1 hj
      have hnot : ∀ e ∈ oj.after, Region.binds md e = true → e.on ≠ i := by
        intro e he hb heq
        have t1 := hall e he hb
        have t0 := (mem_ready.1 hr).1
        rw [heq] at t1
        rcases Nat.lt_or_ge i listed.size with h' | h'
        · simp [h'] at t0 t1; rw [t0] at t1; cases t1
        · simp [Array.getElem?_eq_none h'] at t1
      have g2 := wpOp_putIf hoj (hfree j oj hoj hji hjun hnot) (fun cs b => hsel i oi cs b hi) (fun cs b => hsel j oj cs b hoj) hQ hy g1
      have hnl := lastB_not hcl hr hj hji
      refine wpOp_mono (fun a' w' g3 => ⟨.inr (g3.2.1.resolve_left hnl), ih (listed.setIfInBounds j true) a' w' ?_ (closed_set hcl hj) (ready_mono hr (Ne.symm hji)) (yieldsIf_weaken g3.1 fun W hW => (g3.2.1.resolve_left hnl).trans hW) ?_⟩) g2
      · intro k ok hk hki hun hno
        refine hfree k ok hk hki ?_ hno
        by_cases hjk : j = k
        · subst hjk; exact hjun
        · rw [getD_set_ne true hjk] at hun; exact hun
      · rw [Array.setIfInBounds_comm _ _ hji]
        exact g3.2.2

/-- The operation of number i, written out. -/
def nthOp : List Oper → Nat → Option Oper
  | [], _ => none
  | o :: _, 0 => some o
  | _ :: l, n + 1 => nthOp l n
theorem nthOp_eq : ∀ (l : List Oper) (i : Nat), nthOp l i = l.toArray[i]?
  | [], _ => rfl
  | _ :: _, 0 => rfl
  | _ :: l, n + 1 => by
    rw [nthOp, nthOp_eq l n]
    simp

/-- In the order σ. -/
def wpS (P : Program) (md : Region.Mode) (ops : List Oper) (Q : Exit → Act → World → Prop) (σ : List Nat) (listed : Array Bool) (a : Act) (w : World) : Prop := wpMov P md ops.toArray Q σ.length listed a w

theorem wpS_start {l : List Oper} {id : Nat} {a : Act} {w w1 : World} (σ : List Nat) (hm : P.follows .mixedOrders = true) (hl : σ.length = l.length) (hw : w.drew = w1)
    (h : wpS P .any l Q σ (Array.replicate l.length false) a w1) : (Code.region id l.toArray true).wp P Q a w := by
  subst hw
  refine wp_region_any hm (wpAny_of_mov _ _ _ _ ?_)
  unfold wpS at h
  rw [hl] at h
  simpa using h
theorem wpS_read {l : List Oper} {i : Nat} {σ : List Nat} {oi : Oper} {v : Value} {listed : Array Bool} {a : Act} {w : World} (hi : nthOp l i = some oi)
    (hs : Region.noSelect l.toArray = true) (hf : Region.free md l.toArray listed i = true) (hr : (Region.ready md l.toArray listed).contains i = true)
    (hQ : ∀ c a w, Q (.panic c) (a.put oi.dst v) w → Q (.panic c) a w) (hy : YieldsIf P l.toArray (Stays w) oi v a)
    (h : wpS P md l Q σ (listed.setIfInBounds i true) (a.put oi.dst v) w) (hcl : closedB md l.toArray listed = true := by kernel_rfl) : wpS P md l Q (i :: σ) listed a w :=
  wpMov_first (by rw [← nthOp_eq]; exact hi) (Region.noSelect_spec hs) hQ σ.length listed a w (Region.free_spec (by rw [← nthOp_eq]; exact hi) hf) (closedB_spec hcl) (by simpa using hr) hy h
theorem wpOp_of {P : Program} {l : List Oper} {Q : Exit → Act → World → Prop} {i : Nat} {o : Oper} {a : Act} {w : World} {K : Act → World → Prop} (hi : nthOp l i = some o)
    (h : if Region.wanted o (yielded l.toArray a.tmps) then o.wp P a w K Q else K (a.put o.dst undef) w) : wpOp P l.toArray Q i K a w := by
  unfold wpOp
  rw [← nthOp_eq, hi]
  simp only
  split
  · rename_i hw; rw [if_pos hw] at h; exact .inl h
  · rename_i hw; rw [if_neg hw] at h; exact h
theorem wpS_lone {l : List Oper} {i : Nat} {σ : List Nat} {o : Oper} {listed : Array Bool} {a : Act} {w : World} (hi : nthOp l i = some o) (hr : Region.ready md l.toArray listed = [i])
    (h : ∀ K : Act → World → Prop, (∀ a' w', Stays w w' → wpS P md l Q σ (listed.setIfInBounds i true) a' w' → K a' w') → if Region.wanted o (yielded l.toArray a.tmps) then o.wp P a w K Q else K (a.put o.dst undef) w) :
    wpS P md l Q (i :: σ) listed a w := by
  refine ⟨fun h0 => (by rw [hr] at h0; cases h0), fun j hj => ?_⟩
  rw [hr, List.mem_singleton] at hj
  subst hj
  exact wpOp_of hi (h (fun a' w' => (lastB md l.toArray j = true ∨ Stays w w') ∧ wpMov P md l.toArray Q σ.length (listed.setIfInBounds j true) a' w') (fun a' w' hS hs => ⟨.inr hS, hs⟩))
/-- An operation that has its own place in the order. -/
theorem wpS_last {l : List Oper} {i : Nat} {σ : List Nat} {o : Oper} {listed : Array Bool} {a : Act} {w : World} (hi : nthOp l i = some o) (hr : Region.ready md l.toArray listed = [i]) (hl : lastB md l.toArray i = true)
    (h : ∀ K : Act → World → Prop, (∀ a' w', wpS P md l Q σ (listed.setIfInBounds i true) a' w' → K a' w') → if Region.wanted o (yielded l.toArray a.tmps) then o.wp P a w K Q else K (a.put o.dst undef) w) :
    wpS P md l Q (i :: σ) listed a w := by
  refine ⟨fun h0 => (by rw [hr] at h0; cases h0), fun j hj => ?_⟩
  rw [hr, List.mem_singleton] at hj
  subst hj
  exact wpOp_of hi (h (fun a' w' => (lastB md l.toArray j = true ∨ Stays w w') ∧ wpMov P md l.toArray Q σ.length (listed.setIfInBounds j true) a' w') (fun a' w' hs => ⟨.inl hl, hs⟩))
theorem wpS_done {l : List Oper} {listed : Array Bool} {a : Act} {w : World} (hr : Region.ready md l.toArray listed = []) (h : Q .normal a w) : wpS P md l Q [] listed a w := ⟨hr, h⟩
end
end Go.Proofs.YtbggkfomfeeikaaGreatDoor
/-
  A region that draws its order, walked in one order of one's own, in worlds that keep a word of one's own: each operation keeps it; each that reads yields the same in every world that keeps it.
-/
namespace Go.Proofs.YtbggkfomfeeikaaGreatDoor
open Go Go.RowKit
set_option maxRecDepth 100000

section
variable {P : Program} {ops : Array Oper} {Q : Exit → Act → World → Prop} {md : Region.Mode} {S : World → Prop}
/-- Whatever order is picked from here on, each operation keeps the word. -/
def wpMI (P : Program) (md : Region.Mode) (S : World → Prop) (ops : Array Oper) (Q : Exit → Act → World → Prop) : Nat → Array Bool → Act → World → Prop
  | 0, listed, a, w => Region.ready md ops listed = [] ∧ Q .normal a w
  | fuel + 1, listed, a, w =>
    (Region.ready md ops listed = [] → Q .normal a w) ∧
    ∀ i ∈ Region.ready md ops listed, wpOp P ops Q i (fun a' w' => S w' ∧ wpMI P md S ops Q fuel (listed.setIfInBounds i true) a' w') a w
theorem wpAny_of_mi : ∀ (fuel : Nat) (listed : Array Bool) (a : Act) (w : World), wpMI P md S ops Q fuel listed a w → wpAny P md ops Q fuel listed a w
  | 0, _, _, _, h => h
  | fuel + 1, _, _, _, h => ⟨h.1, fun i hi => wpOp_mono (fun a' w' h' => wpAny_of_mi fuel _ a' w' h'.2) (h.2 i hi)⟩
theorem wpMI_first {i : Nat} {oi : Oper} {v : Value} (hi : ops[i]? = some oi) (hsel : ∀ (j : Nat) (o : Oper) cs b, ops[j]? = some o → o.op ≠ .select cs b)
    (hQ : ∀ c a w, Q (.panic c) (a.put oi.dst v) w → Q (.panic c) a w) :
    ∀ (fuel : Nat) (listed : Array Bool) (a : Act) (w : World), S w →
      (∀ j oj, ops[j]? = some oj → j ≠ i → listed.getD j true = false → (∀ e ∈ oj.after, Region.binds md e = true → e.on ≠ i) → oi.apart ops oj = true) →
      i ∈ Region.ready md ops listed → YieldsIf P ops S oi v a →
      wpMI P md S ops Q fuel (listed.setIfInBounds i true) (a.put oi.dst v) w → wpMI P md S ops Q (fuel + 1) listed a w := by
  intro fuel
  induction fuel with
  | zero =>
    intro listed a w hS _ hr hy H
    refine ⟨fun h => (by rw [h] at hr; cases hr), fun j hj => ?_⟩
    by_cases hji : j = i
    · subst hji; exact hy.wpOp hi hS ⟨hS, H⟩
    · have := ready_mono hj hji
      rw [H.1] at this
      cases this
  | succ fuel ih =>
    intro listed a w hS hfree hr hy H
    refine ⟨fun h => (by rw [h] at hr; cases hr), fun j hj => ?_⟩
    by_cases hji : j = i
    · subst hji; exact hy.wpOp hi hS ⟨hS, H⟩
    · have g1 := H.2 j (ready_mono hj hji)
      obtain ⟨hjun, oj, hoj, hall⟩ := mem_ready.1 hj
      have hnot : ∀ e ∈ oj.after, Region.binds md e = true → e.on ≠ i := by
        intro e he hb heq
        have t1 := hall e he hb
        have t0 := (mem_ready.1 hr).1
        rw [heq] at t1
        rcases Nat.lt_or_ge i listed.size with h' | h'
        · simp [h'] at t0 t1; rw [t0] at t1; cases t1
        · simp [Array.getElem?_eq_none h'] at t1
      have g2 := wpOp_putIf hoj (hfree j oj hoj hji hjun hnot) (fun cs b => hsel i oi cs b hi) (fun cs b => hsel j oj cs b hoj) hQ hy g1
      refine wpOp_mono (fun a' w' g3 => ⟨g3.2.1, ih (listed.setIfInBounds j true) a' w' g3.2.1 ?_ (ready_mono hr (Ne.symm hji)) g3.1 ?_⟩) g2
      · intro k ok hk hki hun hno
        refine hfree k ok hk hki ?_ hno
        by_cases hjk : j = k
        · subst hjk; exact hjun
        · rw [getD_set_ne true hjk] at hun; exact hun
      · rw [Array.setIfInBounds_comm _ _ hji]
        exact g3.2.2
/-- In the order σ. -/
def wpI (P : Program) (md : Region.Mode) (S : World → Prop) (ops : List Oper) (Q : Exit → Act → World → Prop) (σ : List Nat) (listed : Array Bool) (a : Act) (w : World) : Prop := wpMI P md S ops.toArray Q σ.length listed a w
theorem wpI_start {l : List Oper} {id : Nat} {a : Act} {w w1 : World} (S : World → Prop) (σ : List Nat) (hm : P.follows .mixedOrders = true) (hl : σ.length = l.length) (hw : w.drew = w1)
    (h : wpI P .any S l Q σ (Array.replicate l.length false) a w1) : (Code.region id l.toArray true).wp P Q a w := by
  subst hw
  refine wp_region_any hm (wpAny_of_mi _ _ _ _ (S := S) ?_)
  unfold wpI at h
  rw [hl] at h
  simpa using h
theorem wpI_read {l : List Oper} {i : Nat} {σ : List Nat} {oi : Oper} {v : Value} {listed : Array Bool} {a : Act} {w : World} (hS : S w) (hi : nthOp l i = some oi)
    (hs : Region.noSelect l.toArray = true) (hf : Region.free md l.toArray listed i = true) (hr : (Region.ready md l.toArray listed).contains i = true)
    (hQ : ∀ c a w, Q (.panic c) (a.put oi.dst v) w → Q (.panic c) a w) (hy : YieldsIf P l.toArray S oi v a)
    (h : wpI P md S l Q σ (listed.setIfInBounds i true) (a.put oi.dst v) w) : wpI P md S l Q (i :: σ) listed a w :=
  wpMI_first (by rw [← nthOp_eq]; exact hi) (Region.noSelect_spec hs) hQ σ.length listed a w hS (Region.free_spec (by rw [← nthOp_eq]; exact hi) hf) (by simpa using hr) hy h
theorem wpI_lone {l : List Oper} {i : Nat} {σ : List Nat} {o : Oper} {listed : Array Bool} {a : Act} {w : World} (hi : nthOp l i = some o) (hr : Region.ready md l.toArray listed = [i])
    (h : ∀ K : Act → World → Prop, (∀ a' w', S w' → wpI P md S l Q σ (listed.setIfInBounds i true) a' w' → K a' w') → if Region.wanted o (yielded l.toArray a.tmps) then o.wp P a w K Q else K (a.put o.dst undef) w) :
    wpI P md S l Q (i :: σ) listed a w := by
  refine ⟨fun h0 => (by rw [hr] at h0; cases h0), fun j hj => ?_⟩
  rw [hr, List.mem_singleton] at hj
  subst hj
  exact wpOp_of hi (h (fun a' w' => S w' ∧ wpMI P md S l.toArray Q σ.length (listed.setIfInBounds j true) a' w') (fun a' w' hS hs => ⟨hS, hs⟩))
/-- Two operations stand side by side: both ways. -/
theorem wpI_fork {l : List Oper} {i j : Nat} {σ : List Nat} {oi oj : Oper} {listed : Array Bool} {a : Act} {w : World} (hi : nthOp l i = some oi) (hj : nthOp l j = some oj) (hr : Region.ready md l.toArray listed = [i, j])
    (h1 : ∀ K : Act → World → Prop, (∀ a' w', S w' → wpI P md S l Q (j :: σ) (listed.setIfInBounds i true) a' w' → K a' w') → if Region.wanted oi (yielded l.toArray a.tmps) then oi.wp P a w K Q else K (a.put oi.dst undef) w)
    (h2 : ∀ K : Act → World → Prop, (∀ a' w', S w' → wpI P md S l Q (i :: σ) (listed.setIfInBounds j true) a' w' → K a' w') → if Region.wanted oj (yielded l.toArray a.tmps) then oj.wp P a w K Q else K (a.put oj.dst undef) w) :
    wpI P md S l Q (i :: j :: σ) listed a w := by
  refine ⟨fun h0 => (by rw [hr] at h0; cases h0), fun k hk => ?_⟩
  rw [hr] at hk
  rcases List.mem_cons.1 hk with rfl | hk
  · exact wpOp_of hi (h1 (fun a' w' => S w' ∧ wpMI P md S l.toArray Q (j :: σ).length (listed.setIfInBounds k true) a' w') (fun a' w' hS hs => ⟨hS, hs⟩))
  · rw [List.mem_singleton] at hk
    subst hk
    exact wpOp_of hj (h2 (fun a' w' => S w' ∧ wpMI P md S l.toArray Q (i :: σ).length (listed.setIfInBounds k true) a' w') (fun a' w' hS hs => ⟨hS, hs⟩))
/-- In another order as long. -/
theorem wpI_turn {l : List Oper} {σ : List Nat} {listed : Array Bool} {a : Act} {w : World} (τ : List Nat) (hl : τ.length = σ.length) (h : wpI P md S l Q τ listed a w) : wpI P md S l Q σ listed a w := by
  unfold wpI at h ⊢
  rw [← hl]
  exact h
theorem wpI_done {l : List Oper} {listed : Array Bool} {a : Act} {w : World} (hr : Region.ready md l.toArray listed = []) (h : Q .normal a w) : wpI P md S l Q [] listed a w := ⟨hr, h⟩
end
end Go.Proofs.YtbggkfomfeeikaaGreatDoor
/-
  make of slices of bytes, of slices of slices of bytes, of slices of writes: new blocks; three new blocks made in an order that is left open.
-/
namespace Go.Proofs.YtbggkfomfeeikaaGreatDoor
open Go.RowKit Go.Shelf
set_option maxRecDepth 100000

theorem infoSlB : (Tryz.prog.info? 27).map (fun i => (i.zero, i.size, i.bytes)) = some (some (.slice none 0 0), 1, 24) := by kernel_rfl
theorem infoWri : (Tryz.prog.info? 91).map (fun i => (i.zero, i.size, i.bytes)) = some (some (.agg #[.int .i64 0, .slice none 0 0]), 2, 32) := by kernel_rfl
theorem made_one (v : Value) (hv : v.cells = #[v]) (n : Nat) : madeCells v.cells (n * 1) = Array.replicate n v := by
  apply Array.ext
  · simp [size_madeCells]
  · intro i h1 h2
    simp [madeCells, hv, Nat.mod_one]
theorem make_rows (n : Nat) (hn : n ≤ 1000000) (W : World) : (Instr.makeSlice 23 (.int .i64 n) (.int .i64 n)).run Tryz.prog W = .ok (.slice (some ⟨W.heap.size, 0, none⟩) n n) (W.alloc (.cells (Array.replicate n (.slice none 0 0)) 27)) := by
  obtain ⟨i0, hi, hz0, hz1, hz2⟩ := info_parts infoSlB
  have hr := run_make (P := Tryz.prog) W 23 27 i0 (.slice none 0 0) Tryz.underlying23 hi hz0 .i64 .i64 n n (by omega) (Int.le_refl _) (by rw [hz2]; omega) (by omega)
  rw [hz1] at hr
  simp only [Int.toNat_natCast] at hr
  rw [made_one _ rfl] at hr
  exact hr
/-- The cells of so many empty writes. -/
def noWrites (n : Nat) : Array Value := madeCells #[.int .i64 0, .slice none 0 0] (n * 2)
theorem noWrites_size (n : Nat) : (noWrites n).size = n * 2 := size_madeCells _ _
theorem noWrites_data (n i : Nat) (hi : i < n) : (noWrites n)[i * 2 + 1]? = some (.slice none 0 0) := by
  have h : i * 2 + 1 < (noWrites n).size := by rw [noWrites_size]; omega
  rw [Array.getElem?_eq_getElem h]
  have e : (i * 2 + 1) % 2 = 1 := by omega
  simp [noWrites, madeCells, e]
theorem make_writes (n : Nat) (hn : n ≤ 1000000) (W : World) : (Instr.makeSlice 24 (.int .i64 n) (.int .i64 n)).run Tryz.prog W = .ok (.slice (some ⟨W.heap.size, 0, none⟩) n n) (W.alloc (.cells (noWrites n) 91)) := by
  obtain ⟨i0, hi, hz0, hz1, hz2⟩ := info_parts infoWri
  have hr := run_make (P := Tryz.prog) W 24 91 i0 (.agg #[.int .i64 0, .slice none 0 0]) Tryz.underlying24 hi hz0 .i64 .i64 n n (by omega) (Int.le_refl _) (by rw [hz2]; omega) (by omega)
  rw [hz1] at hr
  simp only [Int.toNat_natCast] at hr
  exact hr
section
variable {P : Program} {Q : Exit → Act → World → Prop} {md : Region.Mode} {S : World → Prop}
/-- Three operations stand side by side: each way. -/
theorem wpI_fork3 {l : List Oper} {i j k : Nat} {σ : List Nat} {oi oj ok : Oper} {listed : Array Bool} {a : Act} {w : World} (hi : nthOp l i = some oi) (hj : nthOp l j = some oj) (hk : nthOp l k = some ok) (hr : Region.ready md l.toArray listed = [i, j, k])
    (h1 : ∀ K : Act → World → Prop, (∀ a' w', S w' → wpI P md S l Q (j :: k :: σ) (listed.setIfInBounds i true) a' w' → K a' w') → if Region.wanted oi (yielded l.toArray a.tmps) then oi.wp P a w K Q else K (a.put oi.dst undef) w)
    (h2 : ∀ K : Act → World → Prop, (∀ a' w', S w' → wpI P md S l Q (i :: k :: σ) (listed.setIfInBounds j true) a' w' → K a' w') → if Region.wanted oj (yielded l.toArray a.tmps) then oj.wp P a w K Q else K (a.put oj.dst undef) w)
    (h3 : ∀ K : Act → World → Prop, (∀ a' w', S w' → wpI P md S l Q (i :: j :: σ) (listed.setIfInBounds k true) a' w' → K a' w') → if Region.wanted ok (yielded l.toArray a.tmps) then ok.wp P a w K Q else K (a.put ok.dst undef) w) :
    wpI P md S l Q (i :: j :: k :: σ) listed a w := by
  refine ⟨fun h0 => (by rw [hr] at h0; cases h0), fun m hm => ?_⟩
  rw [hr] at hm
  rcases List.mem_cons.1 hm with rfl | hm
  · exact wpOp_of hi (h1 (fun a' w' => S w' ∧ wpMI P md S l.toArray Q (j :: k :: σ).length (listed.setIfInBounds m true) a' w') (fun a' w' hS hs => ⟨hS, hs⟩))
  · rcases List.mem_cons.1 hm with rfl | hm
    · exact wpOp_of hj (h2 (fun a' w' => S w' ∧ wpMI P md S l.toArray Q (i :: k :: σ).length (listed.setIfInBounds m true) a' w') (fun a' w' hS hs => ⟨hS, hs⟩))
    · rw [List.mem_singleton] at hm
      subst hm
      exact wpOp_of hk (h3 (fun a' w' => S w' ∧ wpMI P md S l.toArray Q (i :: j :: σ).length (listed.setIfInBounds m true) a' w') (fun a' w' hS hs => ⟨hS, hs⟩))
end
end Go.Proofs.YtbggkfomfeeikaaGreatDoor
/-
  dev.laid lays a disk in new memory, in one piece.
-/
namespace Go.Proofs.YtbggkfomfeeikaaGreatDoor
open Go.RowKit Go.Shelf
set_option maxRecDepth 100000

theorem Blk.ne {w : World} {a b : Nat} {t t' : TypeId} {cs cs' : Array Value} (h : Blk w a t cs) (h' : Blk w b t' cs') (ht : t ≠ t') : a ≠ b := by
  rintro rfl
  unfold Blk at h h'
  rw [h] at h'
  cases h'
  exact ht rfl
/-- The value of the piece of number i. -/
def PieceV (g : Nat) (P : List (List UInt8)) (i : Nat) (v : Value) : Prop := ∃ o, v = .slice (some ⟨g, o, none⟩) (P.getD i []).length (P.getD i []).length ∧ (0 < (P.getD i []).length → o = startP P i)
/-- A disk whose first k pieces are laid. -/
def LaidI (g gd hb hw : Nat) (D : DkL) (T k : Nat) (w : World) : Prop :=
  Blk w gd 26 #[.slice (some ⟨hb, 0, none⟩) D.1.length D.1.length, .slice (some ⟨hw, 0, none⟩) D.2.length D.2.length] ∧
  Blk w g 5 (ar (roomP (pieces D) T k)) ∧
  (∃ cb, Blk w hb 27 cb ∧ cb.size = D.1.length ∧ ∀ i, i < D.1.length → i < k → ∃ v, cb[i]? = some v ∧ PieceV g (pieces D) i v) ∧
  ∃ cw, Blk w hw 91 cw ∧ cw.size = D.2.length * 2 ∧ ∀ i, i < D.2.length → D.1.length + i < k → cw[i * 2]? = some (.int .i64 (wr_ D.2 i).1) ∧ ∃ v, cw[i * 2 + 1]? = some v ∧ PieceV g (pieces D) (D.1.length + i) v
/-- The room that is left. -/
def RoomI (g gv T u : Nat) (w : World) : Prop := ∃ o, Blk w gv 27 #[.slice (some ⟨g, o, none⟩) (T - u) (T - u)] ∧ (0 < T - u → o = u)
/-- A disk laid in one piece, all of it at block lo or behind. -/
def Laid (w : World) (lo : Nat) (x : DAt) (D : DkL) : Prop :=
  ∃ g hb hw, x = ⟨some ⟨hb, 0, none⟩, D.1.length, some ⟨hw, 0, none⟩, D.2.length⟩ ∧ lo ≤ g ∧ lo ≤ hb ∧ lo ≤ hw ∧ D.1.length ≤ 1000000 ∧ D.2.length ≤ 1000000 ∧ sumD D ≤ 1000000000000 ∧
    (∀ i, i < D.2.length → (Lit.int .i64 (wr_ D.2 i).1).wf = true) ∧ Blk w g 5 (ar (roomP (pieces D) (sumD D) (D.1.length + D.2.length))) ∧
    (∃ cb, Blk w hb 27 cb ∧ cb.size = D.1.length ∧ ∀ i, i < D.1.length → ∃ v, cb[i]? = some v ∧ PieceV g (pieces D) i v) ∧
    ∃ cw, Blk w hw 91 cw ∧ cw.size = D.2.length * 2 ∧ ∀ i, i < D.2.length → cw[i * 2]? = some (.int .i64 (wr_ D.2 i).1) ∧ ∃ v, cw[i * 2 + 1]? = some v ∧ PieceV g (pieces D) (D.1.length + i) v
theorem Laid.below {w w' : World} {lo : Nat} {x : DAt} {D : DkL} (h : Laid w lo x D) (hb' : Below w.heap.size w w') : Laid w' lo x D := by
  obtain ⟨r, hb, hw, h0, k1, k2, k3, h1, h2, h3, h4, h5, ⟨cb, h6, h7⟩, cw, h9, h10⟩ := h
  exact ⟨r, hb, hw, h0, k1, k2, k3, h1, h2, h3, h4, h5.below hb' h5.lt, ⟨cb, h6.below hb' h6.lt, h7⟩, cw, h9.below hb' h9.lt, h10⟩
/-- A round: a block is cut off and put in its place. -/
theorem LaidI.block {g gd hb hw gv o B0 k : Nat} {D : DkL} {T : Nat} {w0 w w' : World} {s : List UInt8} {e : Ending} (h : LaidI g gd hb hw D T k w) (hk : k < D.1.length) (hs : (pieces D).getD k [] = s) (hT : startP (pieces D) (k + 1) ≤ T)
    (ho : 0 < T - startP (pieces D) k → o = startP (pieces D) k) (hvb : gv ≠ hb) (hB : Below B0 w0 w) (hBg : B0 ≤ g) (hBv : B0 ≤ gv) (hBb : B0 ≤ hb) (hr : Blk w gv 27 #[.slice (some ⟨g, o, none⟩) (T - startP (pieces D) k) (T - startP (pieces D) k)])
    (hc : CutPost gv g o (T - startP (pieces D) k) s.length (roomP (pieces D) T k) s w e w') :
    Blk w' gd 26 #[.slice (some ⟨hb, 0, none⟩) D.1.length D.1.length, .slice (some ⟨hw, 0, none⟩) D.2.length D.2.length] ∧ (∃ cb, Blk w' hb 27 cb ∧ cb.size = D.1.length) ∧
    LaidI g gd hb hw D T (k + 1) (w'.setCell ⟨hb, k, none⟩ (.slice (some ⟨g, o, none⟩) s.length s.length)) ∧ RoomI g gv T (startP (pieces D) (k + 1)) (w'.setCell ⟨hb, k, none⟩ (.slice (some ⟨g, o, none⟩) s.length s.length)) ∧
    Below B0 w0 (w'.setCell ⟨hb, k, none⟩ (.slice (some ⟨g, o, none⟩) s.length s.length)) := by
  obtain ⟨h1, h2, ⟨cb, h3, h4, h5⟩, cw, h6, h7, h8⟩ := h
  obtain ⟨_, hz, ⟨o', c1, c2⟩, c3, w1, g1, g2⟩ := hc
  have hkP : k < (pieces D).length := by rw [pieces_length]; omega
  have hst := startP_succ hkP
  rw [hs] at hst
  have n1 : gd ≠ gv := h1.ne hr (by decide)
  have n2 : gd ≠ g := h1.ne h2 (by decide)
  have n3 : hb ≠ g := h3.ne h2 (by decide)
  have n4 : hw ≠ gv := h6.ne hr (by decide)
  have n5 : hw ≠ g := h6.ne h2 (by decide)
  have n6 : hw ≠ hb := h6.ne h3 (by decide)
  have n7 : gd ≠ hb := h1.ne h3 (by decide)
  have x1 := (h1.grown g1 (fun e => n1 (Option.some.inj e))).grown g2 (fun e => n2 (Option.some.inj e))
  have x3 := (h3.grown g1 (fun e => hvb (Option.some.inj e).symm)).grown g2 (fun e => n3 (Option.some.inj e))
  have x6 := (h6.grown g1 (fun e => n4 (Option.some.inj e))).grown g2 (fun e => n5 (Option.some.inj e))
  have hB1 : Below B0 w0 w' := below_only (below_only hB hBv g1 (by have := hr.lt; omega)) hBg g2 (by have := g1.size; have := hr.lt; omega)
  have hroom : (if s.length = 0 then roomP (pieces D) T k else overL (roomP (pieces D) T k) o s) = roomP (pieces D) T (k + 1) := by
    split
    · rename_i h0
      exact room_same hkP (by rw [hs]; exact h0)
    · rename_i h0
      rw [ho (by omega), ← hs]
      exact room_step hkP hT
  rw [hroom] at c3
  refine ⟨x1, ⟨cb, x3, h4⟩, ⟨x1.far (by simpa using n7) _, c3.far (by simpa using n3.symm) _, ⟨_, x3.set_ k _, by simpa using h4, fun i hi hik => ?_⟩, cw, x6.far (by simpa using n6) _, h7, fun i hi hik => absurd hik (by omega)⟩, ⟨o', ?_, fun hh => ?_⟩, hB1.setCell (p := ⟨hb, k, none⟩) hBb _⟩
  · rcases Nat.lt_or_ge i k with h9 | h9
    · obtain ⟨v, e1, e2⟩ := h5 i hi h9
      exact ⟨v, by rw [Array.getElem?_setIfInBounds, if_neg (by omega)]; exact e1, e2⟩
    · obtain rfl : i = k := by omega
      refine ⟨_, by rw [Array.getElem?_setIfInBounds, if_pos rfl, if_pos (by omega)], o, by rw [hs], fun hh => ho (by rw [hs] at hh; omega)⟩
  · have e : T - startP (pieces D) (k + 1) = T - startP (pieces D) k - s.length := by omega
    rw [e]
    exact c1.far (by simpa using hvb) _
  · rw [c2 (by omega), ho (by omega), hst]
/-- A round: a write is put in its place. -/
theorem LaidI.write {g gd hb hw gv o B0 k j : Nat} {D : DkL} {T : Nat} {w0 w w' : World} {s : List UInt8} {p : Int} {e : Ending} (h : LaidI g gd hb hw D T k w) (hk : k = D.1.length + j) (hj : j < D.2.length) (hs : wr_ D.2 j = (p, s)) (hT : startP (pieces D) (k + 1) ≤ T)
    (ho : 0 < T - startP (pieces D) k → o = startP (pieces D) k) (hvb : gv ≠ hb) (hB : Below B0 w0 w) (hBg : B0 ≤ g) (hBv : B0 ≤ gv) (hBw : B0 ≤ hw) (hr : Blk w gv 27 #[.slice (some ⟨g, o, none⟩) (T - startP (pieces D) k) (T - startP (pieces D) k)])
    (hc : CutPost gv g o (T - startP (pieces D) k) s.length (roomP (pieces D) T k) s w e w') :
    Blk w' gd 26 #[.slice (some ⟨hb, 0, none⟩) D.1.length D.1.length, .slice (some ⟨hw, 0, none⟩) D.2.length D.2.length] ∧ (∃ cw, Blk w' hw 91 cw ∧ cw.size = D.2.length * 2) ∧
    LaidI g gd hb hw D T (k + 1) ((w'.setCell ⟨hw, j * 2, none⟩ (.int .i64 p)).setCell ⟨hw, j * 2 + 1, none⟩ (.slice (some ⟨g, o, none⟩) s.length s.length)) ∧
    RoomI g gv T (startP (pieces D) (k + 1)) ((w'.setCell ⟨hw, j * 2, none⟩ (.int .i64 p)).setCell ⟨hw, j * 2 + 1, none⟩ (.slice (some ⟨g, o, none⟩) s.length s.length)) ∧
    Below B0 w0 ((w'.setCell ⟨hw, j * 2, none⟩ (.int .i64 p)).setCell ⟨hw, j * 2 + 1, none⟩ (.slice (some ⟨g, o, none⟩) s.length s.length)) := by
  obtain ⟨h1, h2, ⟨cb, h3, h4, h5⟩, cw, h6, h7, h8⟩ := h
  obtain ⟨_, hz, ⟨o', c1, c2⟩, c3, w1, g1, g2⟩ := hc
  subst hk
  have hkP : D.1.length + j < (pieces D).length := by rw [pieces_length]; omega
  have hps : (pieces D).getD (D.1.length + j) [] = s := by rw [pieces_right hj, hs]
  have hst := startP_succ hkP
  rw [hps] at hst
  have n1 : gd ≠ gv := h1.ne hr (by decide)
  have n2 : gd ≠ g := h1.ne h2 (by decide)
  have n3 : hb ≠ g := h3.ne h2 (by decide)
  have n4 : hw ≠ gv := h6.ne hr (by decide)
  have n5 : hw ≠ g := h6.ne h2 (by decide)
  have n6 : hw ≠ hb := h6.ne h3 (by decide)
  have n7 : gd ≠ hw := h1.ne h6 (by decide)
  have x1 := (h1.grown g1 (fun e => n1 (Option.some.inj e))).grown g2 (fun e => n2 (Option.some.inj e))
  have x3 := (h3.grown g1 (fun e => hvb (Option.some.inj e).symm)).grown g2 (fun e => n3 (Option.some.inj e))
  have x6 := (h6.grown g1 (fun e => n4 (Option.some.inj e))).grown g2 (fun e => n5 (Option.some.inj e))
  have hB1 : Below B0 w0 w' := below_only (below_only hB hBv g1 (by have := hr.lt; omega)) hBg g2 (by have := g1.size; have := hr.lt; omega)
  have hroom : (if s.length = 0 then roomP (pieces D) T (D.1.length + j) else overL (roomP (pieces D) T (D.1.length + j)) o s) = roomP (pieces D) T (D.1.length + j + 1) := by
    split
    · rename_i h0
      exact room_same hkP (by rw [hps]; exact h0)
    · rename_i h0
      rw [ho (by omega), ← hps]
      exact room_step hkP hT
  rw [hroom] at c3
  refine ⟨x1, ⟨cw, x6, h7⟩, ⟨(x1.far (by simpa using n7) _).far (by simpa using n7) _, (c3.far (by simpa using n5.symm) _).far (by simpa using n5.symm) _, ⟨cb, (x3.far (by simpa using n6.symm) _).far (by simpa using n6.symm) _, h4, fun i hi hik => h5 i hi (by omega)⟩, _, (x6.set_ _ _).set_ _ _, by simpa using h7, fun i hi hik => ?_⟩, ⟨o', ?_, fun hh => ?_⟩, (hB1.setCell (p := ⟨hw, j * 2, none⟩) hBw _).setCell (p := ⟨hw, j * 2 + 1, none⟩) hBw _⟩
  · rcases Nat.lt_or_ge i j with h9 | h9
    · obtain ⟨e0, v, e1, e2⟩ := h8 i hi (by omega)
      refine ⟨?_, v, ?_, e2⟩
      · rw [Array.getElem?_setIfInBounds, if_neg (by omega), Array.getElem?_setIfInBounds, if_neg (by omega)]
        exact e0
      · rw [Array.getElem?_setIfInBounds, if_neg (by omega), Array.getElem?_setIfInBounds, if_neg (by omega)]
        exact e1
    · obtain rfl : i = j := by omega
      refine ⟨?_, _, ?_, o, by rw [hps], fun hh => ho (by rw [hps] at hh; omega)⟩
      · rw [Array.getElem?_setIfInBounds, if_neg (by omega), Array.getElem?_setIfInBounds, if_pos rfl, if_pos (by omega), hs]
      · rw [Array.getElem?_setIfInBounds, if_pos rfl, if_pos (by simp; omega)]
  · have e : T - startP (pieces D) (D.1.length + j + 1) = T - startP (pieces D) (D.1.length + j) - s.length := by omega
    rw [e]
    exact (c1.far (by simpa using n4.symm) _).far (by simpa using n4.symm) _
  · rw [c2 (by omega), ho (by omega), hst]
end Go.Proofs.YtbggkfomfeeikaaGreatDoor
/-
  dev.laid, whatever disk it is handed, answers a disk that reads as it does, laid in one piece of new memory; nothing that was there is written.
-/
namespace Go.Proofs.YtbggkfomfeeikaaGreatDoor
open Go.RowKit Go.Shelf
set_option maxRecDepth 100000

theorem below_alloc2' (w : World) (o1 o2 : Obj) : Below w.heap.size w ((w.alloc o1).alloc o2) := ((Below.refl _ w).alloc (Nat.le_refl _) _).alloc (by simp) _
theorem blk3_0 (w : World) (t : TypeId) (cs : Array Value) (o2 o3 : Obj) : Blk (((w.alloc (.cells cs t)).alloc o2).alloc o3) w.heap.size t cs := ((Blk.new w t cs).alloc _).alloc _
theorem blk3_1 (w : World) (t : TypeId) (cs : Array Value) (o1 o3 : Obj) : Blk (((w.alloc o1).alloc (.cells cs t)).alloc o3) (w.heap.size + 1) t cs := by
  have := (Blk.new (w.alloc o1) t cs).alloc o3
  rwa [World.size_alloc] at this
theorem blk3_2 (w : World) (t : TypeId) (cs : Array Value) (o1 o2 : Obj) : Blk (((w.alloc o1).alloc o2).alloc (.cells cs t)) (w.heap.size + 1 + 1) t cs := by
  have := Blk.new ((w.alloc o1).alloc o2) t cs
  rwa [World.size_alloc, World.size_alloc] at this
end Go.Proofs.YtbggkfomfeeikaaGreatDoor
/-
  Words for rows of the call's own whose cells are slices of bytes, or writes; appends to them.
-/
namespace Go.Proofs.YtbggkfomfeeikaaGreatDoor
open Go.RowKit Go.Shelf
set_option maxRecDepth 100000

/-- A slice that reads as s, and lies below block B, or in a block of bytes. -/
def BslO (w : World) (B : Nat) (A : Option Addr) (n c : Nat) (s : List UInt8) : Prop :=
  s.length = n ∧ n ≤ c ∧ c ≤ maxLen ∧ (A = none → c = 0) ∧
    (0 < n → ∃ b off, A = some ⟨b, off, none⟩ ∧ b < w.heap.size ∧ (b < B ∨ ∃ cs, Blk w b 5 cs) ∧ ∀ i (h : i < s.length), w.cell? ⟨b, off + i, none⟩ = some (.int .u8 ((s[i]).toNat : Int)))
section
variable {w w' : World} {B n c : Nat} {A : Option Addr} {s : List UInt8}
theorem BslO.bsl (h : BslO w B A n c s) : Bsl w w.heap.size A n c s := by
  obtain ⟨h1, h2, h3, h4, h5⟩ := h
  refine ⟨h1, h2, h3, h4, fun h0 => ?_⟩
  obtain ⟨b, off, e, hb, _, hc⟩ := h5 h0
  exact ⟨b, off, e, hb, hc⟩
theorem BslO.of (h : Bsl w B A n c s) (hB : B ≤ w.heap.size) : BslO w B A n c s := by
  obtain ⟨h1, h2, h3, h4, h5⟩ := h
  refine ⟨h1, h2, h3, h4, fun h0 => ?_⟩
  obtain ⟨b, off, e, hb, hc⟩ := h5 h0
  exact ⟨b, off, e, by omega, .inl hb, hc⟩
theorem BslO.own {base : Nat} (h : w.ownsRow base 5 1 (.slice A n c) n (vals s)) (B : Nat) : BslO w B A n c s := by
  have hb := own_bsl h
  obtain ⟨h1, h2, h3, h4, h5⟩ := hb
  refine ⟨h1, h2, h3, h4, fun h0 => ?_⟩
  obtain ⟨b, off, e, hb, hc⟩ := h5 h0
  subst e
  obtain ⟨_, ⟨e, _⟩ | ⟨g, cap, cur, e, _, hh, _⟩⟩ := h
  · cases e
  · cases e
    exact ⟨b, 0, rfl, hb, .inr ⟨cur, hh⟩, hc⟩
theorem BslO.below (h : BslO w B A n c s) (hb : Below w.heap.size w w') : BslO w' B A n c s := by
  obtain ⟨h1, h2, h3, h4, h5⟩ := h
  refine ⟨h1, h2, h3, h4, fun h0 => ?_⟩
  obtain ⟨b, off, e, hlt, ho, hc⟩ := h5 h0
  exact ⟨b, off, e, Nat.lt_of_lt_of_le hlt hb.size, ho.imp id fun ⟨cs, hcs⟩ => ⟨cs, hcs.below hb hlt⟩, fun i hi => (hb.cell (p := ⟨b, off + i, none⟩) hlt).trans (hc i hi)⟩
/-- Another block of one's own, that is none of bytes, is written. -/
theorem BslO.row {row : Option Nat} (h : BslO w B A n c s) (hg : w.grownBy w' row) (hr : ∀ g, row = some g → B ≤ g ∧ ∃ t cs, Blk w g t cs ∧ t ≠ 5) : BslO w' B A n c s := by
  obtain ⟨h1, h2, h3, h4, h5⟩ := h
  refine ⟨h1, h2, h3, h4, fun h0 => ?_⟩
  obtain ⟨b, off, e, hlt, ho, hc⟩ := h5 h0
  have hne : some b ≠ row := fun er => by
    obtain ⟨h6, t, cs, h7, h8⟩ := hr b er.symm
    rcases ho with ho | ⟨cs', h9⟩
    · omega
    · exact h9.ne h7 (fun e => h8 e.symm) rfl
  have hbk := hg.block b hlt hne
  refine ⟨b, off, e, Nat.lt_of_lt_of_le hlt hg.size, ho.imp id fun ⟨cs, hcs⟩ => ⟨cs, hbk.trans hcs⟩, fun i hi => ?_⟩
  rw [← hc i hi]
  exact World.cell?_of_block (a := ⟨b, off + i, none⟩) hbk
end
/-- A row of the call's own, of slices of bytes. -/
def BRowC (w : World) (C base : Nat) (v : Value) (bl : List (List UInt8)) : Prop :=
  ∃ xs, w.ownsRow base 27 1 v bl.length xs ∧ ∀ i, i < bl.length → ∃ A c, xs.getD i undef = .slice A (bl.getD i []).length c ∧ BslO w C A (bl.getD i []).length c (bl.getD i [])
/-- A row of the call's own, of writes. -/
def WRowC (w : World) (C base : Nat) (v : Value) (ws : WrL) : Prop :=
  ∃ xs, w.ownsRow base 91 2 v ws.length xs ∧ ∀ i, i < ws.length → (Lit.int .i64 (wr_ ws i).1).wf = true ∧ xs.getD (i * 2) undef = .int .i64 (wr_ ws i).1 ∧ ∃ A c, xs.getD (i * 2 + 1) undef = .slice A (wr_ ws i).2.length c ∧ BslO w C A (wr_ ws i).2.length c (wr_ ws i).2
theorem BRowC.below {w w' : World} {C base : Nat} {v : Value} {bl : List (List UInt8)} (h : BRowC w C base v bl) (hb : Below w.heap.size w w') : BRowC w' C base v bl := by
  obtain ⟨xs, h1, h2⟩ := h
  refine ⟨xs, own_below h1 hb, fun i hi => ?_⟩
  obtain ⟨A, c, h3, h4⟩ := h2 i hi
  exact ⟨A, c, h3, h4.below hb⟩
theorem WRowC.below {w w' : World} {C base : Nat} {v : Value} {ws : WrL} (h : WRowC w C base v ws) (hb : Below w.heap.size w w') : WRowC w' C base v ws := by
  obtain ⟨xs, h1, h2⟩ := h
  refine ⟨xs, own_below h1 hb, fun i hi => ?_⟩
  obtain ⟨h0, h5, A, c, h3, h4⟩ := h2 i hi
  exact ⟨h0, h5, A, c, h3, h4.below hb⟩
/-- Another block of one's own, that is none of bytes, is written. -/
theorem BRowC.row {w w' : World} {C base : Nat} {v : Value} {bl : List (List UInt8)} (h : BRowC w C base v bl) {g : Nat} (hg : w.grownBy w' (some g)) (hB : C ≤ g) {t : TypeId} {cs : Array Value} (hx : Blk w g t cs) (ht : t ≠ 5) (hne : t ≠ 27) : BRowC w' C base v bl := by
  obtain ⟨xs, h1, h2⟩ := h
  refine ⟨xs, own_other h1 hg fun k hk e => ?_, fun i hi => ?_⟩
  · obtain ⟨_, ⟨rfl, _⟩ | ⟨g', cap, cur, rfl, _, h3, _⟩⟩ := h1
    · cases hk
    · exact (show Blk w g' _ cur from h3).ne hx (Ne.symm hne) ((Option.some.inj hk).trans e)
  · obtain ⟨A, c, h3, h4⟩ := h2 i hi
    exact ⟨A, c, h3, h4.row hg fun k hk => by cases hk; exact ⟨hB, t, cs, hx, ht⟩⟩
theorem WRowC.row {w w' : World} {C base : Nat} {v : Value} {ws : WrL} (h : WRowC w C base v ws) {g : Nat} (hg : w.grownBy w' (some g)) (hB : C ≤ g) {t : TypeId} {cs : Array Value} (hx : Blk w g t cs) (ht : t ≠ 5) (hne : t ≠ 91) : WRowC w' C base v ws := by
  obtain ⟨xs, h1, h2⟩ := h
  refine ⟨xs, own_other h1 hg fun k hk e => ?_, fun i hi => ?_⟩
  · obtain ⟨_, ⟨rfl, _⟩ | ⟨g', cap, cur, rfl, _, h3, _⟩⟩ := h1
    · cases hk
    · exact (show Blk w g' _ cur from h3).ne hx (Ne.symm hne) ((Option.some.inj hk).trans e)
  · obtain ⟨h0, h5, A, c, h3, h4⟩ := h2 i hi
    exact ⟨h0, h5, A, c, h3, h4.row hg fun k hk => by cases hk; exact ⟨hB, t, cs, hx, ht⟩⟩
theorem BRowC.bls {w : World} {C base : Nat} {v : Value} {bl : List (List UInt8)} (h : BRowC w C base v bl) : ∃ a c, v = .slice a bl.length c ∧ Bls w w.heap.size a bl.length c bl := by
  obtain ⟨xs, h1, h2⟩ := h
  obtain ⟨hl, ⟨rfl, h0⟩ | ⟨g, cap, cur, rfl, _, h3, h4, h5, h6, h7⟩⟩ := id h1
  · have : bl = [] := List.eq_nil_of_length_eq_zero h0
    subst this
    exact ⟨none, 0, rfl, bls_nil _ _⟩
  · refine ⟨_, _, rfl, rfl, h4, h5, fun _ => ⟨g, 0, rfl, (Array.getElem?_eq_some_iff.1 h3).1, fun i hi => ?_⟩⟩
    obtain ⟨A, c, e1, e2⟩ := h2 i hi
    refine ⟨A, c, ?_, e2.bsl⟩
    rw [Nat.zero_add, cell_of_row w g i cur 27 (0, 0) h3, ← Array.getElem?_toList]
    have : cur.toList[i]? = xs[i]? := by rw [← h7, List.getElem?_take_of_lt (by omega)]
    rw [this, ← e1, List.getD_eq_getElem?_getD, List.getElem?_eq_getElem (by omega)]
    rfl
theorem WRowC.wts {w : World} {C base : Nat} {v : Value} {ws : WrL} (h : WRowC w C base v ws) : ∃ a c, v = .slice a ws.length c ∧ Wts w w.heap.size a ws.length c ws := by
  obtain ⟨xs, h1, h2⟩ := h
  obtain ⟨hl, ⟨rfl, h0⟩ | ⟨g, cap, cur, rfl, _, h3, h4, h5, h6, h7⟩⟩ := id h1
  · have : ws = [] := List.eq_nil_of_length_eq_zero h0
    subst this
    exact ⟨none, 0, rfl, wts_nil _ _⟩
  · refine ⟨_, _, rfl, rfl, h4, h5, fun _ => ⟨g, 0, rfl, (Array.getElem?_eq_some_iff.1 h3).1, fun i hi => ?_⟩⟩
    obtain ⟨e0, e3, A, c, e1, e2⟩ := h2 i hi
    have hget : ∀ j, j < ws.length * 2 → cur.toList[j]? = some (xs.getD j undef) := fun j hj => by
      have : cur.toList[j]? = xs[j]? := by rw [← h7, List.getElem?_take_of_lt hj]
      rw [this, List.getD_eq_getElem?_getD, List.getElem?_eq_getElem (by omega)]
      rfl
    refine ⟨e0, ?_, A, c, ?_, e2.bsl⟩
    · rw [Nat.zero_add, cell_of_row w g _ cur 91 (0, 0) h3, ← Array.getElem?_toList, hget _ (by omega), e3]
    · rw [Nat.zero_add, cell_of_row w g _ cur 91 (0, 0) h3, ← Array.getElem?_toList, hget _ (by omega), e1]
/-- append(v, nil...), whatever capacity nil is written with. -/
theorem run_append_nothing {P : Program} {w : World} (base : Nat) (t ty e : TypeId) (i : TypeInfo) (size c : Nat) (ht : P.underlying t = some (.slice e)) (hi : P.info? e = some i)
    (v : Value) (n : Nat) (xs : List Value) (hown : w.ownsRow base e size v n xs) : (Builtin.append_ #[t, t] ty #[v, .slice none 0 c]).run P w = .ok v w := by
  rcases hown.2 with ⟨rfl, rfl⟩ | ⟨g, cap, cur, rfl, _, _, hnc, _⟩
  · simp [Builtin.append_, run_underlying ht, sizeOf, typeInfo, hi, Builtin.lenOf, Builtin.firstCells]
  · simp [Builtin.append_, run_underlying ht, sizeOf, typeInfo, hi, Builtin.lenOf, Builtin.firstCells, hnc, storeCells]
section
variable {w : World} {o : Oper} {a : Act} {K : Act → World → Prop} {Q : Exit → Act → World → Prop} {ops : Array Oper} {rest : List Oper}
/-- append(bytes, more...). -/
theorem wp_append_big (s x : Operand)
    (ho : o.op = .call { callee := .builtin .append, args := #[s, x], argTypes := #[27, 27] })
    (base : Nat) (v : Value) (n : Nat) (xs : List UInt8) (hs : a.eval s = v) (hown : w.ownsRow base 5 1 v n (vals xs))
    (B : Nat) (A : Option Addr) (m c : Nat) (news : List UInt8) (hx : a.eval x = .slice A m c) (hr : Bsl w B A m c news)
    (hnm : n + m ≤ 100000000000000) (hbase : base ≤ w.heap.size)
    (h : ∀ v' w', w'.ownsRow base 5 1 v' (n + m) (vals (xs ++ news)) → w.grownBy w' v.ownBlock → K (a.put o.dst v') w') : o.wp Tryz.prog a w K Q := by
  obtain ⟨i0, hi, hz0, hz1, hz2⟩ := info_parts infoU8
  obtain ⟨h1, h2, h3, h4, h5⟩ := hr
  cases A with
  | none =>
    have hc := h4 rfl
    have hm : m = 0 := by omega
    subst hm; subst hc
    obtain rfl : news = [] := List.eq_nil_of_length_eq_zero h1
    have hrun := run_append_nothing (P := Tryz.prog) (w := w) base 27 o.type 5 i0 1 0 Tryz.underlying27 hi v n (vals xs) hown
    unfold Oper.wp
    simp [execOp, ho, resolve, invoke, builtin, hs, hx, hrun, Result.andThen]
    exact h v w (by simpa using hown) (World.grownBy.refl w _)
  | some ad =>
    refine wp_append_own w s x 27 ho base 5 i0 (.int .u8 0) 1 1 Tryz.underlying27 hi hz0 hz1 hz2 rfl (by decide) v n (vals xs) hs hown ad m c (vals news) hx (by simp [vals, h1]) (fun j u hu => ?_) (fun u hu => ?_) (by unfold maxLen; omega) (by omega) hbase ?_
    · obtain ⟨hj, rfl⟩ := vals_get hu
      obtain ⟨b, off, e, _, hc⟩ := h5 (by omega)
      cases e
      rw [← hc j hj]
      congr 1
      unfold Addr.add
      split <;> simp_all
    · obtain ⟨y, _, rfl⟩ := List.mem_map.1 hu
      rfl
    · intro v' w' h2 h3 _
      exact h v' w' (by rw [← vals_append]; exact h2) h3
end
section
variable {l : List Oper} {Q : Exit → Act → World → Prop} {md : Region.Mode} {S : World → Prop} {i : Nat} {σ : List Nat} {o : Oper} {listed : Array Bool} {a : Act} {w : World}
/-- append(nil, bytes...), where its turn comes alone. -/
theorem wpS_append_new (hi : nthOp l i = some o) (hr : Region.ready md l.toArray listed = [i]) (hgd : o.guard = none) (s x : Operand)
    (ho : o.op = .call { callee := .builtin .append, args := #[s, x], argTypes := #[27, 27] }) (hs : a.eval s = .slice none 0 0)
    (B : Nat) (A : Option Addr) (m c : Nat) (news : List UInt8) (hx : a.eval x = .slice A m c) (hb : Bsl w B A m c news) (hm : m ≤ 100000000000000)
    (h : ∀ v' w', w'.ownsRow w.heap.size 5 1 v' m (vals news) → Below w.heap.size w w' → wpS Tryz.prog md l Q σ (listed.setIfInBounds i true) (a.put o.dst v') w') : wpS Tryz.prog md l Q (i :: σ) listed a w :=
  wpS_lone hi hr fun K hK => by
    rw [if_pos (by simp [Region.wanted, hgd])]
    refine wp_append_big s x ho w.heap.size (.slice none 0 0) 0 [] hs (own_nil w _) B A m c news hx hb (by omega) (Nat.le_refl _) fun v' w' h1 h2 => ?_
    have b2 : Below w.heap.size w w' := ⟨h2.os, h2.tape, h2.output, h2.size, fun i hi => h2.block i hi (by simp [Value.ownBlock])⟩
    rw [Nat.zero_add, List.nil_append] at h1
    exact hK _ _ (Stays.of_below b2) (h v' w' h1 b2)
end
end Go.Proofs.YtbggkfomfeeikaaGreatDoor
/-
  What lasts where boxes of the call's own are written: blocks below a bound, and blocks of bytes, of slices of bytes, of writes, of numbers, stay.
-/
namespace Go.Proofs.YtbggkfomfeeikaaGreatDoor
open Go.RowKit Go.Shelf
set_option maxRecDepth 100000

/-- Rows: bytes, slices of bytes, writes, numbers. -/
def rowT (t : TypeId) : Bool := t == 5 || t == 27 || t == 91 || t == 3
/-- From w to w' each block below L, and each row, stays as it is. -/
structure Keeps (L : Nat) (w w' : World) : Prop where
  os : w'.os = w.os
  tape : w'.tape = w.tape
  output : w'.output = w.output
  size : w.heap.size ≤ w'.heap.size
  low : ∀ b, b < w.heap.size → b < L → w'.heap[b]? = w.heap[b]?
  row : ∀ b t cs, Blk w b t cs → rowT t = true → Blk w' b t cs
theorem Keeps.refl (L : Nat) (w : World) : Keeps L w w := ⟨rfl, rfl, rfl, Nat.le_refl _, fun _ _ _ => rfl, fun _ _ _ h _ => h⟩
theorem Keeps.trans {L : Nat} {a b c : World} (h : Keeps L a b) (k : Keeps L b c) : Keeps L a c :=
  ⟨k.os.trans h.os, k.tape.trans h.tape, k.output.trans h.output, Nat.le_trans h.size k.size, fun i hi hl => (k.low i (Nat.lt_of_lt_of_le hi h.size) hl).trans (h.low i hi hl), fun i t cs hb ht => k.row i t cs (h.row i t cs hb ht) ht⟩
theorem Keeps.of_below {L : Nat} {w w' : World} (h : Below w.heap.size w w') : Keeps L w w' :=
  ⟨h.os, h.tape, h.output, h.size, fun b hb _ => h.block b hb, fun _ _ _ hb _ => hb.below h hb.lt⟩
theorem Keeps.of_box {L g : Nat} {w w' : World} {t : TypeId} {cs : Array Value} (hg : w.grownBy w' (some g)) (hb : Blk w g t cs) (ht : rowT t = false) (hL : L ≤ g) : Keeps L w w' :=
  ⟨hg.os, hg.tape, hg.output, hg.size, fun b hlt hl => hg.block b hlt (fun e => by injection e; omega), fun b t' cs' hb' ht' => hb'.grown hg (fun e => by
    obtain rfl : b = g := Option.some.inj e
    have he : some (Obj.cells cs t (0, 0)) = some (Obj.cells cs' t' (0, 0)) := (show w.heap[b]? = _ from hb).symm.trans (show w.heap[b]? = _ from hb')
    cases he
    rw [ht] at ht'
    cases ht')⟩
theorem Keeps.below {L : Nat} {w w' : World} (h : Keeps L w w') (hL : L ≤ w.heap.size) : Below L w w' :=
  ⟨h.os, h.tape, h.output, h.size, fun b hb => h.low b (Nat.lt_of_lt_of_le hb hL) hb⟩
theorem Keeps.more {L L' : Nat} {w w' : World} (h : Keeps L w w') (hL : L' ≤ L) : Keeps L' w w' :=
  ⟨h.os, h.tape, h.output, h.size, fun b hb hl => h.low b hb (Nat.lt_of_lt_of_le hl hL), h.row⟩
/-- What lasts. -/
def Lasts (L : Nat) (w : World) (P : World → Prop) : Prop := ∀ w', Keeps L w w' → P w'
section
variable {L : Nat} {w w' : World} {P : World → Prop}
theorem Lasts.now (h : Lasts L w P) : P w := h w (Keeps.refl _ _)
theorem Lasts.step (h : Lasts L w P) (k : Keeps L w w') : Lasts L w' P := fun w2 k2 => h w2 (k.trans k2)
theorem Lasts.bel (h : Lasts L w P) (b : Below w.heap.size w w') : Lasts L w' P := h.step (Keeps.of_below b)
theorem Lasts.and {Q : World → Prop} (h : Lasts L w P) (k : Lasts L w Q) : Lasts L w fun W => P W ∧ Q W := fun w' hk => ⟨h w' hk, k w' hk⟩
theorem Lasts.less {L' : Nat} (h : Lasts L' w P) (hL : L' ≤ L) : Lasts L w P := fun w' k => h w' (k.more hL)
end
theorem own_keeps {L : Nat} {w w' : World} {B : Nat} {e : TypeId} {size : Nat} {v : Value} {n : Nat} {xs : List Value} (h : w.ownsRow B e size v n xs) (he : rowT e = true) (k : Keeps L w w') : w'.ownsRow B e size v n xs :=
  ⟨h.1, h.2.imp id fun ⟨g, cap, cur, h1, h2, h3, h4⟩ => ⟨g, cap, cur, h1, h2, k.row g e cur h3 he, h4⟩⟩
theorem bslO_keeps {L : Nat} {w w' : World} {n c : Nat} {A : Option Addr} {s : List UInt8} (h : BslO w 0 A n c s) (k : Keeps L w w') : BslO w' 0 A n c s := by
  obtain ⟨h1, h2, h3, h4, h5⟩ := h
  refine ⟨h1, h2, h3, h4, fun h0 => ?_⟩
  obtain ⟨b, off, e, hlt, ho, hc⟩ := h5 h0
  rcases ho with ho | ⟨cs, hcs⟩
  · exact absurd ho (Nat.not_lt_zero _)
  · have hk := k.row b _ cs hcs (by decide)
    refine ⟨b, off, e, hk.lt, .inr ⟨cs, hk⟩, fun i hi => ?_⟩
    rw [hk.cell, ← hcs.cell]
    exact hc i hi
theorem brow_keeps {L : Nat} {w w' : World} {base : Nat} {v : Value} {bl : List (List UInt8)} (h : BRowC w 0 base v bl) (k : Keeps L w w') : BRowC w' 0 base v bl := by
  obtain ⟨xs, h1, h2⟩ := h
  refine ⟨xs, own_keeps h1 (by decide) k, fun i hi => ?_⟩
  obtain ⟨A, c, h3, h4⟩ := h2 i hi
  exact ⟨A, c, h3, bslO_keeps h4 k⟩
theorem wrow_keeps {L : Nat} {w w' : World} {base : Nat} {v : Value} {ws : WrL} (h : WRowC w 0 base v ws) (k : Keeps L w w') : WRowC w' 0 base v ws := by
  obtain ⟨xs, h1, h2⟩ := h
  refine ⟨xs, own_keeps h1 (by decide) k, fun i hi => ?_⟩
  obtain ⟨h0, h5, A, c, h3, h4⟩ := h2 i hi
  exact ⟨h0, h5, A, c, h3, bslO_keeps h4 k⟩
theorem bsl_lasts {L : Nat} {w : World} {a : Option Addr} {n c : Nat} {s : List UInt8} (h : Bsl w L a n c s) (hL : L ≤ w.heap.size) : Lasts L w fun W => Bsl W W.heap.size a n c s :=
  fun _ k => (h.below (k.below hL)).more (Nat.le_trans hL k.size)
theorem own_lasts {L : Nat} {w : World} {B n c : Nat} {a : Option Addr} {s : List UInt8} (h : w.ownsRow B 5 1 (.slice a n c) n (vals s)) : Lasts L w fun W => Bsl W W.heap.size a n c s :=
  fun _ k => own_bsl (own_keeps h (by decide) k)
theorem dsk_lasts {L : Nat} {w : World} {x : DAt} {D : DkL} (h : Dsk w L x D) (hL : L ≤ w.heap.size) : Lasts L w fun W => Dsk W W.heap.size x D :=
  fun _ k => ⟨(h.1.below (k.below hL)).more (Nat.le_trans hL k.size), (h.2.below (k.below hL)).more (Nat.le_trans hL k.size)⟩
end Go.Proofs.YtbggkfomfeeikaaGreatDoor
/-
  slices.Backward over a slice of bytes hands its places and bytes to the loop from behind, whatever the loop does that keeps the slice readable; code.isSize and code.fits answer as the chapter asks.
-/
namespace Go.Proofs.YtbggkfomfeeikaaGreatDoor
open Go.RowKit Go.Shelf
set_option maxRecDepth 100000
attribute [local go_sem] Oper.semAt_some

theorem isSize_yes (s : Int) (h1 : 1 ≤ s) (h2 : s ≤ 4) (w : World) : Calls Tryz.prog 104 #[.int .i64 s] w fun e w' => e = .returned (.bool true) ∧ w = w' := by
  go_enter Tryz.func104, Tryz.ntmps104
  go_wp2
  go_ret
  exact ⟨rfl, rfl⟩
theorem fits_yes (n k : Nat) (hm : n < 256 ^ k) (h1 : 1 ≤ k) (h2 : k ≤ 4) (w : World) : Calls Tryz.prog 105 #[.int .i64 n, .int .i64 k] w fun e w' => e = .returned (.bool true) ∧ w = w' := by
  have hs : k = 1 ∨ k = 2 ∨ k = 3 ∨ k = 4 := by omega
  rcases hs with rfl | rfl | rfl | rfl
  all_goals
    simp at hm
    have h0 : (0 : Int) ≤ n := by omega
    have h9 : (n : Int) ≤ 4294967295 := by omega
    go_enter Tryz.func105, Tryz.ntmps105
    go_wp2
    go_ret
    refine ⟨?_, rfl⟩
    show Ending.returned (.bool ((n : Int) / _ == 0)) = _
    congr 2
    simp
    omega
/-- What the walk backward goes on reading: the box of the slice, and a number in each cell of it, of which V tells. -/
def Reach (Bs b off len cap : Nat) (V : Nat → UInt8 → Prop) (W : World) : Prop :=
  W.cell? ⟨Bs, 0, none⟩ = some (.slice (some ⟨b, off, none⟩) len cap) ∧ ∀ j, j < len → ∃ v : UInt8, W.cell? ⟨b, off + j, none⟩ = some (.int .u8 (v.toNat : Int)) ∧ V j v

theorem back_in (F : Fence) (n : Nat) (h : F.fn 106) (hro : F.round = none) (a : Option Addr) (len cap : Nat) (w : World) :
    CallsIn F n Tryz.prog 106 #[.slice a len cap] w fun e w' => e = .returned (.func (.func 134) #[] #[.pointer (some ⟨w.heap.size, 0, none⟩)]) ∧ w' = w.alloc (.cells #[.slice a len cap] 27) := by
  refine callsIn_of_wp Tryz.func106 rfl h ?_ hro
  simp only [Tryz.ntmps106, List.size_toArray, List.length_cons, List.length_nil, Nat.reduceAdd, Nat.reduceSub, Array.replicate_succ, Array.replicate_zero, List.push_toArray, List.append_toArray, List.nil_append, List.cons_append]
  gi_wp2
  go_ret
  exact ⟨rfl, rfl⟩


/-- What has come when k rounds are over is so: the places from behind, and V of each. -/
def Came (len : Nat) (V : Nat → UInt8 → Prop) (pre : List (Fin len × UInt8)) : Prop :=
  pre.length ≤ len ∧ ∀ i (h : i < pre.length), (pre[i]).1.val = len - 1 - i ∧ V (pre[i]).1.val (pre[i]).2
theorem came_nil (len V) : Came len V [] := ⟨Nat.zero_le _, fun i h => by simp at h⟩
theorem came_snoc {len V pre} (h : Came len V pre) {j : Nat} (hl : j < len) {v : UInt8} (hj : j + pre.length + 1 = len) (hv : V j v) : Came len V (pre ++ [(⟨j, hl⟩, v)]) := by
  refine ⟨by simp; omega, fun i hi => ?_⟩
  by_cases hlt : i < pre.length
  · rw [List.getElem_append_left hlt]; exact h.2 i hlt
  · have : i = pre.length := by simp at hi; omega
    subst this
    simp only [List.getElem_append_right (Nat.le_refl _), Nat.sub_self, List.getElem_cons_zero]
    exact ⟨by omega, hv⟩

set_option maxHeartbeats 2000000 in
theorem backward_in (F : Fence) (n : Nat) (h19 : F.fn 134) (hro : F.round = none) (hn : 1 ≤ n) (l Bs b off len cap : Nat) (V : Nat → UInt8 → Prop) (hlen : len ≤ 9223372036854775807) (J Jx : List (Fin len × UInt8) → World → Prop)
    (hY : ∀ pre x W, J pre W → pre.length < len → YieldAt F (n - 1) Tryz.prog l #[.int .i64 ((x.1.val : Nat) : Int), .int .u8 ((x.2 : UInt8).toNat : Int)] W fun e W' =>
      (e = .returned (.bool true) ∧ J (pre ++ [x]) W' ∧ (Reach Bs b off len cap V W → Reach Bs b off len cap V W')) ∨ (e = .returned (.bool false) ∧ Jx (pre ++ [x]) W'))
    (W : World) (hR : Reach Bs b off len cap V W) (h0 : J [] W) :
    CallsIn F n Tryz.prog 134 #[.func (.yield l) #[] #[], .pointer (some ⟨Bs, 0, none⟩)] W fun e W' => (∃ v, e = .returned v) ∧
      ((∃ ys, (Came len V ys ∧ ys.length = len) ∧ J ys W') ∨ (∃ pre, Came len V pre ∧ Jx pre W')) := by
  refine callsIn_of_wp Tryz.func134 rfl h19 ?_ hro
  simp only [Tryz.ntmps134, List.size_toArray, List.length_cons, List.length_nil, Nat.reduceAdd, Nat.reduceSub, Array.replicate_succ, Array.replicate_zero, List.push_toArray, List.append_toArray, List.nil_append, List.cons_append]
  have hbox := hR.1
  have HR := Lib.hid hR
  clear hR
  have hll : (0 : Int) ≤ len := by omega
  have hlm : (len : Int) ≤ 9223372036854775807 := by omega
  gi_wp2
  gi_loopw [3] (fun i wr => ∃ pre : List (Fin len × UInt8), Came len V pre ∧ i = .int .i64 ((len : Int) - 1 - pre.length) ∧ J pre wr ∧ Reach Bs b off len cap V wr)
    (fun i _ => (intOf i + 1).toNat)
  case atStart => exact ⟨[], came_nil _ _, by simp, h0, HR.out⟩
  case round =>
    obtain ⟨pre, hC, rfl, hJs, hRs⟩ := hrel
    by_cases hlt : pre.length < len
    · obtain ⟨j, hj⟩ : ∃ j : Nat, j + pre.length + 1 = len := ⟨len - 1 - pre.length, by omega⟩
      have hjl : j < len := by omega
      obtain ⟨v, hv, hV⟩ := hRs.2 j hjl
      have hb := hRs.1
      have ej : (len : Int) - 1 - pre.length = (j : Int) := by omega
      rw [ej]
      obtain ⟨fn, tmps, assign, body, hy, hR⟩ := hY pre (⟨j, hjl⟩, v) wr hJs hlt
      dsimp only at hy
      have HV := Lib.hid hV; clear hV
      have HJ := Lib.hid hj; clear hj
      have HE := Lib.hid ej; clear ej
      have HC := Lib.hid hC; clear hC
      have HRs := Lib.hid hRs; clear hRs
      have hj0 : (0 : Int) ≤ j := by omega
      have hj1 : (j : Int) < len := by have := HJ.out; omega
      gi_wp2
      refine hR.mono ?_
      rintro e W3 (⟨rfl, hJ3, hk3⟩ | ⟨rfl, hJx3⟩)
      · gi_wp2
        go_roundw
        case rel => exact ⟨pre ++ [(⟨j, hjl⟩, v)], came_snoc HC.out hjl HJ.out HV.out, by have := HJ.out; simp; omega, hJ3, hk3 HRs.out⟩
        case measure => simp [intOf]
      · gi_wp2
        refine bodyPost_ret (results_none rfl _ _ _) rfl ?_
        exact ⟨⟨_, rfl⟩, .inr ⟨_, came_snoc HC.out hjl HJ.out HV.out, hJx3⟩⟩
    · have := hC.1
      have el : pre.length = len := by omega
      have ej : (len : Int) - 1 - pre.length = -1 := by omega
      rw [ej]
      gi_wp2
      go_end0
      exact ⟨⟨_, rfl⟩, .inl ⟨pre, ⟨hC, el⟩, hJs⟩⟩

theorem reach_putObj {Bs b off len cap : Nat} {V : Nat → UInt8 → Prop} {W : World} (l : Nat) (o o' : Obj) (h : W.heap[l]? = some o) (ho : o.isCells = false) (hR : Reach Bs b off len cap V W) : Reach Bs b off len cap V (W.putObj l o') := by
  have hk : ∀ r, some l = some r → ∃ o : Obj, W.heap[r]? = some o ∧ o.isCells = false := fun r e => by cases e; exact ⟨_, h, ho⟩
  exact ⟨cell_kept hR.1 (grownBy_putObj' W l o') hk, fun j hj => let ⟨v, hv, hV⟩ := hR.2 j hj; ⟨v, cell_kept hv (grownBy_putObj' W l o') hk, hV⟩⟩

theorem stops (F : Fence) (n : Nat) (h19 : F.fn 134) (hro : F.round = none) (hn : 1 ≤ n) (Bs b off len cap : Nat) (V : Nat → UInt8 → Prop) (hlen : len ≤ 9223372036854775807) (w : World) (hBs : Bs < w.heap.size) (hb : b < w.heap.size) (hR : Reach Bs b off len cap V w) :
    SeqStopsK F n Tryz.prog 134 #[.pointer (some ⟨Bs, 0, none⟩)] (fun x : Fin len × UInt8 => #[Value.int .i64 (x.1.val : Int), Value.int .u8 (x.2.toNat : Int)]) (fun A B => Reach Bs b off len cap V A → Reach Bs b off len cap V B)
      (fun ys => Came len V ys ∧ ys.length = len) (fun pre => Came len V pre) len w := fun l J Jx W hW _ _ hY h0 => by
  refine backward_in F n h19 hro hn l Bs b off len cap V hlen J Jx hY W ⟨(hW.cell (p := ⟨Bs, 0, none⟩) hBs).trans hR.1, fun j hj => ?_⟩ h0
  obtain ⟨v, hv, hV⟩ := hR.2 j hj
  exact ⟨v, (hW.cell (p := ⟨b, off + j, none⟩) hb).trans hv, hV⟩
end Go.Proofs.YtbggkfomfeeikaaGreatDoor
/-
  A region that draws its order, in a round of a range over a function, is walked as it is everywhere, where nothing in it is deferred.
-/
namespace Go.Proofs.YtbggkfomfeeikaaGreatDoor
open Go
set_option maxRecDepth 100000

def noDefer (ops : List Oper) : Bool := ops.all fun o => match o.op with | .defer _ => false | _ => true
theorem noDefer_spec {ops : List Oper} (h : noDefer ops = true) {o : Oper} (ho : o ∈ ops) : ∀ c, o.op ≠ .defer c := by
  intro c e
  have := List.all_eq_true.1 h o ho
  rw [e] at this
  cases this

section
variable {P : Program} {Q : Exit → Act → World → Prop} {md : Region.Mode} {l m : Nat}

theorem rowsIn_of_rows {row : String} {args : Array Value} {w : World} {R : Value → World → Prop} (h : Rows P row args w R) : RowsIn (Fence.wide.inRound l) m P row args w R :=
  fun c cs _ => let ⟨v, w', r, s⟩ := h c cs; ⟨v, w', r, stepsIn_wide.2 s⟩

theorem uponIn_of_upon {o : Oper} {a : Act} {K K' : Act → World → Prop} (hK : ∀ a w, K a w → K' a w) {r : Result Next} (h : o.upon P a K Q r) : o.uponIn (Fence.wide.inRound l) m P a K' Q r := by
  cases r with
  | ok x w' =>
    cases x <;> simp only [Oper.upon, Oper.uponIn] at h ⊢
    case value => exact hK _ _ h
    case skip => exact hK _ _ h
    case defer => exact hK _ _ h
    case enter f args =>
      refine ⟨fun h => by simp [Fence.wide] at h, CallsIn.mono (CallsIn.inRound l (callsIn_wide.2 h)) fun e w'' he => ?_⟩
      cases e <;> first | exact hK _ _ he | exact he
    case row row args => exact ⟨fun h => by simp [Fence.wide] at h, (rowsIn_of_rows h).mono fun _ _ he => hK _ _ he⟩
  | halt x w' => cases x <;> simp only [Oper.upon, Oper.uponIn] at h ⊢ <;> exact h

theorem wpAnyIn_of_wpAny {ops : List Oper} (hnd : noDefer ops = true) (hlo : ¬ LetsOut Q) : ∀ (fuel : Nat) (listed : Array Bool) (a : Act) (w : World), wpAny P md ops.toArray Q fuel listed a w → wpAnyIn (Fence.wide.inRound l) m P md ops.toArray Q fuel listed a w
  | 0, _, _, _, h => h
  | fuel + 1, listed, a, w, h => by
    refine ⟨h.1, fun i hi => ?_⟩
    have hop := h.2 i hi
    have ih : ∀ a w, wpAny P md ops.toArray Q fuel (listed.setIfInBounds i true) a w → wpAnyIn (Fence.wide.inRound l) m P md ops.toArray Q fuel (listed.setIfInBounds i true) a w := fun a w => wpAnyIn_of_wpAny hnd hlo fuel _ a w
    unfold wpOp at hop
    unfold wpOpIn
    cases ho : ops.toArray[i]? with
    | none => rw [ho] at hop; exact ih _ _ hop
    | some o =>
      rw [ho] at hop
      have hmem : o ∈ ops := by
        rw [List.getElem?_toArray] at ho
        exact List.mem_of_getElem? ho
      simp only at hop ⊢
      split
      · rename_i hw
        rw [if_pos hw] at hop
        rcases hop with hop | ⟨_, hl⟩
        · refine ⟨fun _ _ => trivial, ?_⟩
          show Oper.uponIn _ _ _ _ _ _ _ (Sem.run P (o.semAt (some l) a.eval) w)
          rw [Oper.semAt_some l _ _ (noDefer_spec hnd hmem)]
          exact uponIn_of_upon ih hop
        · exact absurd hl hlo
      · rename_i hw
        rw [if_neg hw] at hop
        exact ⟨fun _ _ => trivial, ih _ _ hop⟩

/-- A region that draws its order, in a round: as everywhere, where nothing is deferred. -/
theorem region_round {ops : List Oper} {id : Nat} {a : Act} {w : World} (hm : P.follows .mixedOrders = true) (hnd : noDefer ops = true) (hlo : ¬ LetsOut Q)
    (h : wpAny P .any ops.toArray Q ops.length (Array.replicate ops.length false) a w.drew) : (Code.region id ops.toArray true).wpIn (Fence.wide.inRound l) m P Q a w :=
  wpIn_region_any hm (by simpa using wpAnyIn_of_wpAny (l := l) (m := m) hnd hlo _ _ _ _ h)

/-- Reads, and one write at the end: the reads in the text's order, then the write. -/
theorem region_round_tail {ops : List Oper} {id : Nat} {a : Act} {w : World} (n : Nat) (hm : P.follows .mixedOrders = true) (hnd : noDefer ops = true) (hlo : ¬ LetsOut Q) (hB : Region.lexTailB .any ops.toArray n = true)
    (h : wpStill P ops.toArray w.drew (fun a' => wpList P ops.toArray Q (ops.drop n) a' w.drew) (ops.take n) a) : (Code.region id ops.toArray true).wpIn (Fence.wide.inRound l) m P Q a w := by
  refine region_round hm hnd hlo ?_
  simp only [Region.lexTailB, Bool.and_eq_true, decide_eq_true_eq] at hB
  obtain ⟨⟨⟨⟨hsel, hn⟩, hs⟩, hc⟩, hlex⟩ := hB
  have hn' : n < ops.length := by simpa using hn
  have ht : (ops.take n).length = n := by simp; omega
  have hst : HeadInv .any ops.toArray n (Array.replicate ops.toArray.size false) :=
    ⟨by simp, fun j oj _ hl => (by rw [getD_replicate_false] at hl; cases hl), fun t _ ht => getD_in (by simpa using ht) (getD_replicate_false _ _)⟩
  have H := wpAnyL_lex (md := .any) (g := ops.toArray.size - n) hsel hs hc hn (ops.take n) 0 _ a (fun j hj => by rw [ht] at hj; simp [hj]) (by omega) hst (by rw [ht]; exact hlex) h
  have G := wpAny_of_head (Q' := Q) (g := ops.toArray.size - n) (fun listed a' hL => by
    have := wpAny_of_seq (md := .any) (Q' := Q) (ops.drop n) n listed a' w.drew (fun j => by simp) (by simpa using hL.1) hL.2
    simpa using this) _ _ _ H
  have e : (ops.take n).length + (ops.toArray.size - n) = ops.length := by simp; omega
  rw [e] at G
  simpa using G
end
end Go.Proofs.YtbggkfomfeeikaaGreatDoor
/-
  code.Put, of a number and a size that may be, returns a new slice of the number's bytes, the lowest first, and OK; nothing that was there is written.
-/
namespace Go.Proofs.YtbggkfomfeeikaaGreatDoor
open Go.RowKit Go.Shelf
set_option maxRecDepth 100000
attribute [local go_sem] Oper.semAt_some

theorem make1 (w : World) : (Instr.makeSlice 27 (.int .i64 1) (.int .i64 1)).run Tryz.prog w = .ok (.slice (some ⟨w.heap.size, 0, none⟩) 1 1) (w.alloc (.cells #[.int .u8 0] 5)) := by kernel_rfl
theorem make2 (w : World) : (Instr.makeSlice 27 (.int .i64 2) (.int .i64 2)).run Tryz.prog w = .ok (.slice (some ⟨w.heap.size, 0, none⟩) 2 2) (w.alloc (.cells #[.int .u8 0, .int .u8 0] 5)) := by kernel_rfl
theorem make3 (w : World) : (Instr.makeSlice 27 (.int .i64 3) (.int .i64 3)).run Tryz.prog w = .ok (.slice (some ⟨w.heap.size, 0, none⟩) 3 3) (w.alloc (.cells #[.int .u8 0, .int .u8 0, .int .u8 0] 5)) := by kernel_rfl
theorem make4 (w : World) : (Instr.makeSlice 27 (.int .i64 4) (.int .i64 4)).run Tryz.prog w = .ok (.slice (some ⟨w.heap.size, 0, none⟩) 4 4) (w.alloc (.cells #[.int .u8 0, .int .u8 0, .int .u8 0, .int .u8 0] 5)) := by kernel_rfl
theorem make_any (k : Nat) (h1 : 1 ≤ k) (h2 : k ≤ 4) (w : World) : (Instr.makeSlice 27 (.int .i64 k) (.int .i64 k)).run Tryz.prog w = .ok (.slice (some ⟨w.heap.size, 0, none⟩) k k) (w.alloc (.cells (Array.replicate k (.int .u8 0)) 5)) := by
  have hs : k = 1 ∨ k = 2 ∨ k = 3 ∨ k = 4 := by omega
  rcases hs with rfl | rfl | rfl | rfl
  · exact make1 w
  · exact make2 w
  · exact make3 w
  · exact make4 w


/-- The byte at place i of n. -/
def byteAt (n i : Nat) : UInt8 := UInt8.ofNat (n / 256 ^ i % 256)

/-- What the loop of Put keeps: the box of n, the box of the slice, and each cell: the byte where it has come, else nought. -/
def PutI (g n k : Nat) (w : World) (pre : List (Fin k × UInt8)) (W : World) : Prop :=
  (W.cell? ⟨g, 0, none⟩ = some (.int .i64 n) ∧ W.cell? ⟨g + 2, 0, none⟩ = some (.slice (some ⟨g + 1, 0, none⟩) k k) ∧
    ∀ j, j < k → W.cell? ⟨g + 1, j, none⟩ = some (.int .u8 ((if j ∈ pre.map (·.1.val) then byteAt n j else 0 : UInt8).toNat : Int)) ∧ W.frozen? ⟨g + 1, j, none⟩ = false) ∧ Below g w W

theorem byteAt_toNat (n i : Nat) : (byteAt n i).toNat = n / 256 ^ i % 256 := by simp [byteAt]
theorem byteAt_0 (n : Nat) : (((byteAt n 0).toNat : Nat) : Int) = (n : Int) % 256 := by rw [byteAt_toNat]; simp
theorem byteAt_1 (n : Nat) : (((byteAt n 1).toNat : Nat) : Int) = (n : Int) / 256 % 256 := by rw [byteAt_toNat]; simp
theorem byteAt_2 (n : Nat) : (((byteAt n 2).toNat : Nat) : Int) = (n : Int) / 65536 % 256 := by rw [byteAt_toNat]; simp
theorem byteAt_3 (n : Nat) : (((byteAt n 3).toNat : Nat) : Int) = (n : Int) / 16777216 % 256 := by rw [byteAt_toNat]; simp

theorem putI_all {k : Nat} {V : Nat → UInt8 → Prop} {ys : List (Fin k × UInt8)} (hC : Came k V ys) (hl : ys.length = k) (j : Nat) (hj : j < k) : j ∈ ys.map (·.1.val) := by
  have hi : k - 1 - j < ys.length := by omega
  have := (hC.2 (k - 1 - j) hi).1
  exact List.mem_map.2 ⟨ys[k - 1 - j], List.getElem_mem hi, by omega⟩

theorem putI_step {g n k i B : Nat} {w W : World} {pre : List (Fin k × UInt8)} {v : UInt8} {x : Int} (hi : i < k) (hI : PutI g n k w pre W) (hx : x = (((byteAt n i).toNat : Nat) : Int)) :
    KeepsFrom B W (W.setCell ⟨g + 1, i, none⟩ (.int .u8 x)).drew ∧ (Reach (g + 1 + 1 + 1) (g + 1) 0 k k (fun _ _ => True) W → Reach (g + 1 + 1 + 1) (g + 1) 0 k k (fun _ _ => True) (W.setCell ⟨g + 1, i, none⟩ (.int .u8 x)).drew) ∧
      PutI g n k w (pre ++ [(⟨i, hi⟩, v)]) (W.setCell ⟨g + 1, i, none⟩ (.int .u8 x)).drew := by
  subst hx
  obtain ⟨⟨h0, h2, h1⟩, hB⟩ := hI
  refine ⟨((KeepsOthers.setCell _ _ _).trans (KeepsOthers.drew _)).from _, fun hR => ⟨?_, fun j hj => ?_⟩, ⟨⟨?_, ?_, fun j hj => ⟨?_, ?_⟩⟩, ?_⟩⟩
  · exact (World.cell?_setCell_other W _ _ _ (by simp)).trans hR.1
  · rw [Nat.zero_add]
    by_cases e : j = i
    · subst e
      exact ⟨_, World.cell?_setCell_same' W _ _ (by rw [(h1 j hj).1]; rfl), trivial⟩
    · obtain ⟨v', hv', _⟩ := hR.2 j hj
      rw [Nat.zero_add] at hv'
      exact ⟨v', (World.cell?_setCell_other W _ _ _ (by simp; first | done | exact fun h => e h.symm)).trans hv', trivial⟩
  · exact (World.cell?_setCell_other W _ _ _ (by simp)).trans h0
  · exact (World.cell?_setCell_other W _ _ _ (by simp)).trans h2
  · by_cases e : j = i
    · subst e
      rw [if_pos (by simp)]
      exact World.cell?_setCell_same' W _ _ (by rw [(h1 j hj).1]; rfl)
    · have : (j ∈ (pre ++ [((⟨i, hi⟩ : Fin k), v)]).map (·.1.val)) ↔ j ∈ pre.map (·.1.val) := by simp [e]
      simp only [this]
      exact (World.cell?_setCell_other W _ _ _ (by simp; first | done | exact fun h => e h.symm)).trans (h1 j hj).1
  · exact (World.frozen?_setCell _ _ _ _).trans (h1 j hj).2
  · exact (hB.setCell (p := ⟨g + 1, i, none⟩) (by simp) _).drew

set_option maxHeartbeats 2000000 in
theorem put_in (m : Nat) (hn : 3 ≤ m) (n k : Nat) (h1 : 1 ≤ k) (h2 : k ≤ 4) (hm : n < 256 ^ k) (w : World) :
    CallsIn Fence.wide m Tryz.prog 76 #[.int .i64 n, .int .i64 k] w fun e W' => e = .returned (.tuple #[.slice (some ⟨w.heap.size + 1, 0, none⟩) k k, .int .i64 0]) ∧
      (∀ j, j < k → W'.cell? ⟨w.heap.size + 1, j, none⟩ = some (.int .u8 ((byteAt n j).toNat : Int))) ∧ Below w.heap.size w W' ∧ w.heap.size + 1 < W'.heap.size := by
  have hro : Fence.wide.round = none := rfl
  have hk1 : (1:Int) ≤ k := by omega
  have hk2 : (k:Int) ≤ 4 := by omega
  have hmk := make_any k h1 h2
  have HM := Lib.hid hm; clear hm
  refine callsIn_of_wp_marks Tryz.func76 rfl trivial ?_ hro
  simp only [Tryz.ntmps76, List.size_toArray, List.length_cons, List.length_nil, Nat.reduceAdd, Nat.reduceSub, Array.replicate_succ, Array.replicate_zero, List.push_toArray, List.append_toArray, List.nil_append, List.cons_append]
  have hd : 1 ≤ m := by omega
  gi_wp2_with (refine ⟨trivial, ?_⟩; first | (gi_at_call 104; refine (callsIn_wide.2 (isSize_yes _ (by omega) (by omega) _)).mono ?_; rintro e w' ⟨rfl, rfl⟩) | (gi_at_call 105; refine (callsIn_wide.2 (fits_yes n k HM.out h1 h2 _)).mono ?_; rintro e w' ⟨rfl, rfl⟩) | (gi_at_call 106; refine (back_in Fence.wide (m - 1) trivial hro _ _ _ _).mono ?_; rintro e w' ⟨rfl, rfl⟩))
  obtain ⟨g, hg⟩ : ∃ g, w.heap.size = g := ⟨_, rfl⟩
  obtain ⟨W0, hW0⟩ : ∃ W0, ((((w.alloc (Obj.cells #[Value.int IntKind.i64 ↑n] 3)).alloc (Obj.cells (Array.replicate k (Value.int IntKind.u8 0)) 5)).alloc (Obj.cells #[Value.slice (some { block := w.heap.size + 1, off := 0 }) k k] 27)).alloc (Obj.cells #[Value.slice (some { block := w.heap.size + 1, off := 0 }) k k] 27)) = W0 := ⟨_, rfl⟩
  have hsz : W0.heap.size = g + 4 := by rw [← hW0]; simp [hg]
  have hB0 : Below g w W0 := by rw [← hW0, ← hg]; exact ((((Below.refl _ w).alloc (Nat.le_refl _) _).alloc (by simp) _).alloc (by simp; omega) _).alloc (by simp; omega) _
  have c0 : W0.cell? ⟨g, 0, none⟩ = some (.int .i64 n) := by rw [← hW0, ← hg]; exact ((((Boxed.new w 3 _).alloc _).alloc _).alloc _).cell
  have c1 : ∀ j, j < k → W0.cell? ⟨g + 1, j, none⟩ = some (.int .u8 0) ∧ W0.frozen? ⟨g + 1, j, none⟩ = false := by
    intro j hj
    have hh : W0.heap[g + 1]? = some (.cells (Array.replicate k (Value.int IntKind.u8 0)) 5 (0, 0)) := by
      rw [← hW0, ← hg, Below.heap_alloc _ _ _ (by simp), Below.heap_alloc _ _ _ (by simp)]
      have := World.alloc_heap_new (w.alloc (Obj.cells #[Value.int IntKind.i64 ↑n] 3)) (Obj.cells (Array.replicate k (Value.int IntKind.u8 0)) 5)
      rwa [World.size_alloc] at this
    exact ⟨by simp [World.cell?, hh, hj], by simp [World.frozen?, hh]⟩
  have c2 : W0.cell? ⟨g + 2, 0, none⟩ = some (.slice (some ⟨g + 1, 0, none⟩) k k) := by
    rw [← hW0, ← hg]
    have := (Boxed.new ((w.alloc (Obj.cells #[Value.int IntKind.i64 ↑n] 3)).alloc (Obj.cells (Array.replicate k (Value.int IntKind.u8 0)) 5)) 27 (Value.slice (some { block := w.heap.size + 1, off := 0 }) k k)).alloc (Obj.cells #[Value.slice (some { block := w.heap.size + 1, off := 0 }) k k] 27)
    rw [World.size_alloc, World.size_alloc] at this
    exact this.cell
  have c3 : W0.cell? ⟨g + 3, 0, none⟩ = some (.slice (some ⟨g + 1, 0, none⟩) k k) := by
    rw [← hW0, ← hg]
    have := Boxed.new (((w.alloc (Obj.cells #[Value.int IntKind.i64 ↑n] 3)).alloc (Obj.cells (Array.replicate k (Value.int IntKind.u8 0)) 5)).alloc (Obj.cells #[Value.slice (some { block := w.heap.size + 1, off := 0 }) k k] 27)) 27 (Value.slice (some { block := w.heap.size + 1, off := 0 }) k k)
    rw [World.size_alloc, World.size_alloc, World.size_alloc] at this
    exact this.cell
  rw [hW0, hg]
  have hR : Reach (g + 3) (g + 1) 0 k k (fun _ _ => True) W0 := ⟨c3, fun j hj => ⟨0, by simpa using (c1 j hj).1, trivial⟩⟩
  refine wpIn_rangeFunc_ownG hro hd (gf := 134) (lb := #[.pointer (some ⟨g + 1 + 1 + 1, 0, none⟩)]) rfl trivial (enters_of Tryz.func134 (by kernel_rfl) rfl)
    (stops Fence.wide (m - 1) trivial hro (by omega) (g + 1 + 1 + 1) (g + 1) 0 k k (fun _ _ => True) (by omega) W0 (by omega) (by omega) hR) (fun h k r => k (h r)) (fun W l o o' _ h ho _ => reach_putObj l o o' h ho) (Below.refl _ _) (fun _ => rfl)
    (PutI g n k w) (fun _ _ _ => False) ?hI (fun _ _ _ _ _ hs _ _ => hs) ⟨⟨c0, c2, fun j hj => by simpa using c1 j hj⟩, hB0⟩
    (fun x => { tmps := #[Value.int IntKind.i64 ↑n, Value.int IntKind.i64 ↑k, Value.pointer (some { block := g, off := 0 }), undef, Value.slice none 0 0, Value.int IntKind.i64 0, Value.pointer (some { block := g + 1 + 1, off := 0 }), .int .i64 (x.1.val : Int), Value.int IntKind.i64 ↑k, Value.bool true, Value.bool false, Value.bool false, Value.int IntKind.i64 ↑n, Value.int IntKind.i64 ↑k, Value.bool true, Value.bool false, Value.bool false, Value.int IntKind.i64 ↑k, Value.slice (some { block := g + 1, off := 0 }) k k, Value.slice (some { block := g + 1, off := 0 }) k k, Value.func (Fn.func 134) #[] #[Value.pointer (some { block := g + 1 + 1 + 1, off := 0 })], .int .i64 (x.1.val : Int), .int .u8 (x.2.toNat : Int), undef, undef, undef, undef, undef, undef, undef, undef, undef], defers := [] }) ?assign ?body ?done ?stop
  case hI =>
    refine OwnFrom.and (Own.from (fun s A B row hs hg hr => ?_) _) (ownFrom_below (by omega) (by omega))
    obtain ⟨h0, h2, h1⟩ := hs
    exact ⟨cell_kept h0 hg hr, cell_kept h2 hg hr, fun j hj => ⟨cell_kept (h1 j hj).1 hg hr, (frozen_kept (h1 j hj).1 hg hr).trans (h1 j hj).2⟩⟩
  case assign =>
    intro l x W K hK
    gi_wp2
    exact hK
  case body =>
    rintro l pre ⟨⟨i, hi⟩, v⟩ W ⟨⟨hcn, hcs, hcj⟩, hB⟩ _
    obtain ⟨hci, hfi⟩ := hcj i hi
    have H := Lib.hid hcj; clear hcj
    have hi4 : i = 0 ∨ i = 1 ∨ i = 2 ∨ i = 3 := by omega
    have hmx : Tryz.prog.follows Departure.mixedOrders = true := by kernel_rfl
    have e0 : IntKind.i64.wrap 0 = 0 := by decide
    have e8 : IntKind.i64.wrap 8 = 8 := by decide
    have e16 : IntKind.i64.wrap 16 = 16 := by decide
    have e24 : IntKind.i64.wrap 24 = 24 := by decide
    have step := fun x (hx : x = (((byteAt n i).toNat : Nat) : Int)) => putI_step (B := W0.heap.size) (v := v) (x := x) hi ⟨⟨hcn, hcs, H.out⟩, hB⟩ hx
    have HS := Lib.hid step; clear step
    have HB := Lib.hid hB; clear hB
    rcases hi4 with rfl | rfl | rfl | rfl
    · have hi0 : (0 : Int) < k := by omega
      dsimp only
      gi_wp2
      refine region_round_tail 8 hmx (by kernel_rfl) (fun h => by obtain ⟨_, _, h⟩ := h; exact h) (by kernel_rfl) ?_
      simp only [List.take_succ_cons, List.take_zero, List.drop_succ_cons, List.drop_zero]
      repeat still_step
      refine wpStill_nil ?_
      go_wp2
      exact HS.out _ (by rw [byteAt_0])
    · have hi0 : (1 : Int) < k := by omega
      dsimp only
      gi_wp2
      refine region_round_tail 8 hmx (by kernel_rfl) (fun h => by obtain ⟨_, _, h⟩ := h; exact h) (by kernel_rfl) ?_
      simp only [List.take_succ_cons, List.take_zero, List.drop_succ_cons, List.drop_zero]
      repeat still_step
      refine wpStill_nil ?_
      go_wp2
      exact HS.out _ (by rw [byteAt_1])
    · have hi0 : (2 : Int) < k := by omega
      dsimp only
      gi_wp2
      refine region_round_tail 8 hmx (by kernel_rfl) (fun h => by obtain ⟨_, _, h⟩ := h; exact h) (by kernel_rfl) ?_
      simp only [List.take_succ_cons, List.take_zero, List.drop_succ_cons, List.drop_zero]
      repeat still_step
      refine wpStill_nil ?_
      go_wp2
      exact HS.out _ (by rw [byteAt_2])
    · have hi0 : (3 : Int) < k := by omega
      dsimp only
      gi_wp2
      refine region_round_tail 8 hmx (by kernel_rfl) (fun h => by obtain ⟨_, _, h⟩ := h; exact h) (by kernel_rfl) ?_
      simp only [List.take_succ_cons, List.take_zero, List.drop_succ_cons, List.drop_zero]
      repeat still_step
      refine wpStill_nil ?_
      go_wp2
      exact HS.out _ (by rw [byteAt_3])
  case done =>
    rintro D ys W hD ⟨hC, hl⟩ ⟨⟨h0, h2, h1⟩, hB⟩ hK
    have hD' : g + 4 ≤ D := by omega
    have H1 := Lib.hid h1; clear h1
    have HC := Lib.hid hC; clear hC
    have HL := Lib.hid hl; clear hl
    have h2' : W.cell? ⟨g + 1 + 1, 0, none⟩ = some (.slice (some ⟨g + 1, 0, none⟩) k k) := h2
    gi_wp2
    refine ⟨by simp, .inl ⟨_, _, rfl, run_takeDeferred hK, ?_⟩⟩
    subst hg
    refine ⟨.tuple #[.slice (some ⟨w.heap.size + 1, 0, none⟩) k k, .int .i64 0], by simp [results, Tryz.f76, go_sem], rfl, fun j hj => ?_, hB.trans (belowK_b (w := w) (by omega) W D _ _ (by omega) hK rfl rfl), ?_⟩
    · have := putI_all HC.out HL.out j hj
      have hc := (H1.out j hj).1
      rw [if_pos this] at hc
      exact cell_kept hc (grownBy_putObj' _ D (.deferred none)) (fun r e => by cases e; exact ⟨_, hK, rfl⟩)
    · have := (Array.getElem?_eq_some_iff.1 hK).1
      simp; omega
  case stop =>
    rintro D c pre W _ _ h _
    exact h.elim
end Go.Proofs.YtbggkfomfeeikaaGreatDoor
/-
  code.Get, of a slice that has the bytes, returns the number whose bytes they are, and OK; else 0 and the error of the chapter; nothing that was there is written.
-/
namespace Go.Proofs.YtbggkfomfeeikaaGreatDoor
open Go.RowKit Go.Shelf
set_option maxRecDepth 100000
attribute [local go_sem] Oper.semAt_some

/-- The number whose bytes these are, the lowest first. -/
def leN : List UInt8 → Nat
  | [] => 0
  | x :: r => x.toNat + 256 * leN r

/-- What the loop of Get has in its box when these have come. -/
def accN {k : Nat} (pre : List (Fin k × UInt8)) : Nat := pre.foldl (fun a x => a * 256 + x.2.toNat) 0
theorem accN_snoc {k : Nat} (pre : List (Fin k × UInt8)) (x : Fin k × UInt8) : accN (pre ++ [x]) = accN pre * 256 + x.2.toNat := by simp [accN]
theorem accN_eq {k : Nat} (pre : List (Fin k × UInt8)) : accN pre = leN (pre.map (·.2)).reverse := by
  have h : ∀ l : List UInt8, leN l.reverse = l.foldl (fun a x => a * 256 + x.toNat) 0 := by
    intro l
    have : ∀ l : List UInt8, l.foldr (fun x a => a * 256 + x.toNat) 0 = leN l := by
      intro l
      induction l with
      | nil => rfl
      | cons x r ih => simp only [List.foldr_cons, leN, ih]; omega
    rw [← this, List.foldr_reverse]
  rw [h, List.foldl_map]
  rfl
theorem leN_lt : ∀ l, leN l < 256 ^ l.length
  | [] => by simp [leN]
  | x :: r => by
    have h1 := leN_lt r
    have h2 := x.toNat_lt
    simp only [leN, List.length_cons, Nat.pow_succ]; omega
theorem accN_lt {k : Nat} (pre : List (Fin k × UInt8)) : accN pre < 256 ^ pre.length := by
  rw [accN_eq]
  have := leN_lt (pre.map (·.2)).reverse
  simpa using this
theorem accN_all {k i : Nat} {s : List UInt8} {ys : List (Fin k × UInt8)} (hC : Came k (fun j v => s[i + j]? = some v) ys) (hl : ys.length = k) (hk : i + k ≤ s.length) : accN ys = leN ((s.drop i).take k) := by
  rw [accN_eq]
  congr 1
  apply List.ext_getElem
  · simp; omega
  · intro j h1 h2
    have hj : j < k := by simp at h1; omega
    have hm : k - 1 - j < ys.length := by omega
    obtain ⟨e1, e2⟩ := hC.2 (k - 1 - j) hm
    have e3 : (ys[k - 1 - j]).1.val = j := by omega
    rw [e3] at e2
    have hx : i + j < s.length := by omega
    rw [List.getElem?_eq_getElem hx] at e2
    simp only [List.getElem_reverse, List.getElem_map, List.getElem_take, List.getElem_drop, List.length_map]
    have e4 : ys.length - 1 - j = k - 1 - j := by omega
    simp only [e4]
    exact (Option.some.inj e2).symm
theorem or_byte (a b : Nat) (ha : a ≤ 16777215) (hb : b < 256) : bits .or .i64 ((a : Int) * 256) (b : Int) = ((a * 256 + b : Nat) : Int) := by
  have e : (a : Int) * 256 = ((a * 256 : Nat) : Int) := by omega
  rw [e]
  show IntKind.i64.wrap ((BitVec.ofInt 64 ((a * 256 : Nat) : Int) ||| BitVec.ofInt 64 (b : Int)).toNat : Int) = _
  have h := Nat.two_pow_add_eq_or_of_lt (i := 8) (b := b) (by omega) a
  rw [BitVec.toNat_or, ofInt_u64 _ (by omega), ofInt_u64 _ (by omega), show a * 256 = 2 ^ 8 * a by omega, ← h, show 2 ^ 8 * a + b = 256 * a + b by omega]
  exact Lib.wrap_i64_small _ (by omega)
def GetI (g k : Nat) (w : World) (pre : List (Fin k × UInt8)) (W : World) : Prop :=
  (W.cell? ⟨g, 0, none⟩ = some (.int .i64 (accN pre : Nat)) ∧ W.frozen? ⟨g, 0, none⟩ = false) ∧ Below g w W

set_option maxHeartbeats 2000000 in
theorem get_in (m : Nat) (hn : 3 ≤ m) (b off len cap at_ k : Nat) (s : List UInt8) (hs : s.length = len) (hlc : len ≤ cap) (hcm : cap ≤ 9223372036854775807) (h1 : 1 ≤ k) (h2 : k ≤ 4) (hk : at_ + k ≤ len) (w : World) (hb : b < w.heap.size)
    (hc : ∀ i (h : i < s.length), w.cell? ⟨b, off + i, none⟩ = some (.int .u8 ((s[i]).toNat : Int))) :
    CallsIn Fence.wide m Tryz.prog 116 #[.slice (some ⟨b, off, none⟩) len cap, .int .i64 at_, .int .i64 k] w fun e W' => e = .returned (.tuple #[.int .i64 (leN ((s.drop at_).take k) : Nat), .int .i64 0]) ∧ Below w.heap.size w W' := by
  have hro : Fence.wide.round = none := rfl
  have hd : 1 ≤ m := by omega
  have hk1 : (1:Int) ≤ k := by omega
  have hk2 : (k:Int) ≤ 4 := by omega
  have a0 : (0:Int) ≤ at_ := by omega
  have a1 : (at_:Int) ≤ len := by omega
  have a2 : (k:Int) ≤ len - at_ := by omega
  have hlm : (len:Int) ≤ 9223372036854775807 := by omega
  have ea : (at_ : Int) + k = ((at_ + k : Nat) : Int) := by omega
  have HS := Lib.hid hs; clear hs
  have HC := Lib.hid hc; clear hc
  have hsl := fun W => Lib.run_slice_window (P := Tryz.prog) W 27 5 Tryz.underlying27 (fun _ => by kernel_rfl) b off len cap at_ (at_ + k) (by omega) (by omega)
  simp only [← ea] at hsl
  have HE := Lib.hid ea; clear ea
  refine callsIn_of_wp_marks Tryz.func116 rfl trivial ?_ hro
  simp only [Tryz.ntmps116, List.size_toArray, List.length_cons, List.length_nil, Nat.reduceAdd, Nat.reduceSub, Array.replicate_succ, Array.replicate_zero, List.push_toArray, List.append_toArray, List.nil_append, List.cons_append]
  gi_wp2_with (refine ⟨trivial, ?_⟩; first | (gi_at_call 104; refine (callsIn_wide.2 (isSize_yes _ (by omega) (by omega) _)).mono ?_; rintro e w' ⟨rfl, rfl⟩) | (gi_at_call 106; refine (back_in Fence.wide (m - 1) trivial hro _ _ _ _).mono ?_; rintro e w' ⟨rfl, rfl⟩))
  obtain ⟨g, hg⟩ : ∃ g, w.heap.size = g := ⟨_, rfl⟩
  obtain ⟨W0, hW0⟩ : ∃ W0, ((w.alloc (Obj.cells #[Value.int IntKind.i64 0] 3)).alloc (Obj.cells #[Value.slice (some { block := b, off := off + at_ }) k (cap - at_)] 27)) = W0 := ⟨_, rfl⟩
  have hsz : W0.heap.size = g + 2 := by rw [← hW0]; simp [hg]
  have hB0 : Below g w W0 := by rw [← hW0, ← hg]; exact ((Below.refl _ w).alloc (Nat.le_refl _) _).alloc (by simp) _
  have c0 : W0.cell? ⟨g, 0, none⟩ = some (.int .i64 0) ∧ W0.frozen? ⟨g, 0, none⟩ = false := by rw [← hW0, ← hg]; exact ⟨((Boxed.new w 3 _).alloc _).cell, ((Boxed.new w 3 _).alloc _).frozen⟩
  have c1 : W0.cell? ⟨g + 1, 0, none⟩ = some (.slice (some ⟨b, off + at_, none⟩) k (cap - at_)) := by
    rw [← hW0, ← hg]
    have := Boxed.new (w.alloc (Obj.cells #[Value.int IntKind.i64 0] 3)) 27 (Value.slice (some { block := b, off := off + at_ }) k (cap - at_))
    rw [World.size_alloc] at this
    exact this.cell
  rw [hW0, hg]
  have hR : Reach (g + 1) b (off + at_) k (cap - at_) (fun j v => s[at_ + j]? = some v) W0 := ⟨c1, fun j hj => by
    have hl : at_ + j < s.length := by have := HS.out; omega
    exact ⟨s[at_ + j], (hB0.cell (p := ⟨b, off + at_ + j, none⟩) (by simp <;> omega)).trans (by rw [Nat.add_assoc]; exact HC.out _ hl), List.getElem?_eq_getElem hl⟩⟩
  refine wpIn_rangeFunc_ownG hro hd (gf := 134) (lb := #[.pointer (some ⟨g + 1, 0, none⟩)]) rfl trivial (enters_of Tryz.func134 (by kernel_rfl) rfl)
    (stops Fence.wide (m - 1) trivial hro (by omega) (g + 1) b (off + at_) k (cap - at_) (fun j v => s[at_ + j]? = some v) (by omega) W0 (by omega) (by omega) hR) (fun h k r => k (h r)) (fun W l o o' _ h ho _ => reach_putObj l o o' h ho) (Below.refl _ _) (fun _ => rfl)
    (GetI g k w) (fun _ _ _ => False) ?hI (fun _ _ _ _ _ hs _ _ => hs) ⟨c0, hB0⟩
    (fun x => { tmps := #[Value.slice (some { block := b, off := off }) len cap, Value.int IntKind.i64 ↑at_, Value.int IntKind.i64 ↑k,
          undef, undef, undef, Value.int IntKind.i64 0, Value.int IntKind.i64 0,
          Value.pointer (some { block := g, off := 0 }), undef, .int .u8 (x.2.toNat : Int), Value.int IntKind.i64 ↑k,
          Value.bool true, Value.bool false, Value.bool false, Value.int IntKind.i64 ↑at_,
          Value.bool (decide ((at_ : Int) < 0)), Value.bool (decide ((at_ : Int) < 0)), Value.bool (decide ((at_ : Int) < 0)),
          Value.int IntKind.i64 ↑at_, Value.slice (some { block := b, off := off }) len cap, Value.int IntKind.i64 ↑len,
          Value.bool false, Value.bool (decide ((at_ : Int) < 0)), Value.slice (some { block := b, off := off }) len cap,
          Value.int IntKind.i64 ↑len, Value.int IntKind.i64 ↑at_, Value.int IntKind.i64 (↑len - ↑at_),
          Value.int IntKind.i64 ↑k, Value.bool (decide ((len : Int) - at_ < k)),
          Value.slice (some { block := b, off := off }) len cap, Value.int IntKind.i64 ↑at_, Value.int IntKind.i64 ↑at_,
          Value.int IntKind.i64 ↑k, Value.int IntKind.i64 (↑at_ + ↑k),
          Value.slice (some { block := b, off := off + at_ }) k (cap - at_),
          Value.func (Fn.func 134) #[] #[Value.pointer (some { block := g + 1, off := 0 })], .int .i64 (x.1.val : Int), .int .u8 (x.2.toNat : Int),
          undef, undef, undef, undef, undef, undef], defers := [] }) ?assign ?body ?done ?stop
  case hI => exact OwnFrom.and (Own.from (fun s A B row hs hg hr => ⟨cell_kept hs.1 hg hr, (frozen_kept hs.1 hg hr).trans hs.2⟩) _) (ownFrom_below (by omega) (by omega))
  case assign =>
    intro l x W K hK
    gi_wp2
    exact hK
  case body =>
    rintro l pre ⟨⟨i, hi⟩, v⟩ W ⟨⟨hcn, hfn⟩, hB⟩ hlt
    have hv0 : (0 : Int) ≤ v.toNat := by omega
    have hv1 : (v.toNat : Int) ≤ 255 := by have := v.toNat_lt; omega
    have hA0 : (0 : Int) ≤ accN pre := by omega
    have hA1 : (accN pre : Int) ≤ 16777215 := by
      have h3 : pre.length ≤ 3 := by omega
      have h4 := accN_lt pre
      have h5 : 256 ^ pre.length ≤ 256 ^ 3 := Nat.pow_le_pow_right (by omega) h3
      omega
    have hor := or_byte (accN pre) v.toNat (by omega) (by omega)
    have HO := Lib.hid hor; clear hor
    dsimp only
    gi_wp2
    rw [HO.out]
    refine ⟨(KeepsOthers.setCell _ _ _).from _, fun hR => ⟨(World.cell?_setCell_other W _ _ _ (by simp)).trans hR.1, fun j hj => ?_⟩, ⟨⟨?_, (World.frozen?_setCell _ _ _ _).trans hfn⟩, hB.setCell (p := ⟨g, 0, none⟩) (Nat.le_refl _) _⟩⟩
    · obtain ⟨v', hv', hV⟩ := hR.2 j hj
      exact ⟨v', (World.cell?_setCell_other W _ _ _ (by simp <;> omega)).trans hv', hV⟩
    · rw [accN_snoc]; exact World.cell?_setCell_same' W _ _ (by rw [hcn]; rfl)
  case done =>
    rintro D ys W hD ⟨hC, hl⟩ ⟨⟨h0, _⟩, hB⟩ hK
    have hD' : g + 2 ≤ D := by omega
    have hfin := accN_all hC hl (by have := HS.out; omega)
    have HF := Lib.hid hfin; clear hfin
    have HCm := Lib.hid hC; clear hC
    have HL := Lib.hid hl; clear hl
    gi_wp2
    refine ⟨by simp, .inl ⟨_, _, rfl, run_takeDeferred hK, ?_⟩⟩
    subst hg
    exact ⟨.tuple #[.int .i64 (accN ys : Nat), .int .i64 0], by simp [results, Tryz.f116, go_sem], by rw [HF.out], hB.trans (belowK_b (w := w) (by omega) W D _ _ (by omega) hK rfl rfl)⟩
  case stop =>
    rintro D c pre W _ _ h _
    exact h.elim
end Go.Proofs.YtbggkfomfeeikaaGreatDoor
/-
  What code.Put and code.Get answer, in one word each, for every number, size, place and slice of bytes; slices of bytes, windows of them, and strings made of them.
-/
namespace Go.Proofs.YtbggkfomfeeikaaGreatDoor
open Go.RowKit Go.Shelf
set_option maxRecDepth 100000

/-- The bytes of n, so many as k says, the lowest first. -/
def leB (k n : Nat) : List UInt8 := (List.range k).map (byteAt n)
theorem leB_length (k n : Nat) : (leB k n).length = k := by simp [leB]

theorem put_ok (n k : Nat) (h1 : 1 ≤ k) (h2 : k ≤ 4) (hm : n < 256 ^ k) (w : World) :
    Calls Tryz.prog 76 #[.int .i64 n, .int .i64 k] w fun e W' => e = .returned (.tuple #[.slice (some ⟨w.heap.size + 1, 0, none⟩) k k, .int .i64 0]) ∧ Holds W' (w.heap.size + 1) (leB k n) ∧ Below w.heap.size w W' ∧ w.heap.size + 1 < W'.heap.size :=
  (callsIn_wide.1 (put_in 3 (Nat.le_refl _) n k h1 h2 hm w)).mono fun e W' ⟨he, hc, hb, hs⟩ => ⟨he, fun i hi => by
    have hi' : i < k := by simpa [leB] using hi
    rw [hc i hi']; simp [leB], hb, hs⟩

theorem get_ok (b off len cap i k : Nat) (s : List UInt8) (hs : s.length = len) (hlc : len ≤ cap) (hcm : cap ≤ 9223372036854775807) (h1 : 1 ≤ k) (h2 : k ≤ 4) (hk : i + k ≤ len) (w : World) (hb : b < w.heap.size)
    (hc : ∀ i (h : i < s.length), w.cell? ⟨b, off + i, none⟩ = some (.int .u8 ((s[i]).toNat : Int))) :
    Calls Tryz.prog 116 #[.slice (some ⟨b, off, none⟩) len cap, .int .i64 i, .int .i64 k] w fun e W' => e = .returned (.tuple #[.int .i64 (leN ((s.drop i).take k) : Nat), .int .i64 0]) ∧ Below w.heap.size w W' :=
  callsIn_wide.1 (get_in 3 (Nat.le_refl _) b off len cap i k s hs hlc hcm h1 h2 hk w hb hc)

theorem put_at (n k : Nat) (s : Int) (hs : s = k) (h1 : 1 ≤ k) (h2 : k ≤ 4) (hm : n < 256 ^ k) (w : World) :
    Calls Tryz.prog 76 #[.int .i64 n, .int .i64 s] w fun e W' => e = .returned (.tuple #[.slice (some ⟨w.heap.size + 1, 0, none⟩) k k, .int .i64 0]) ∧ Holds W' (w.heap.size + 1) (leB k n) ∧ Below w.heap.size w W' ∧ w.heap.size + 1 < W'.heap.size := by
  subst hs; exact put_ok n k h1 h2 hm w
theorem leB_take (k N : Nat) : leB (k + 1) N = leB k N ++ [byteAt N k] := by simp [leB, List.range_succ]
theorem byteAt_succ (n i : Nat) : byteAt n (i + 1) = byteAt (n / 256) i := by
  unfold byteAt; rw [Nat.pow_succ, Nat.mul_comm, ← Nat.div_div_eq_div_mul]
theorem leB_succ (k n : Nat) : leB (k + 1) n = byteAt n 0 :: leB k (n / 256) := by
  unfold leB
  rw [List.range_succ_eq_map, List.map_cons, List.map_map]
  congr 1
  apply List.map_congr_left
  intro i _
  exact byteAt_succ n i
theorem leB_leN : ∀ l : List UInt8, leB l.length (leN l) = l
  | [] => rfl
  | x :: r => by
    have h2 := x.toNat_lt
    rw [List.length_cons, leB_succ, leN, show (x.toNat + 256 * leN r) / 256 = leN r by omega, leB_leN r]
    congr 1
    apply UInt8.toNat_inj.1
    rw [byteAt_toNat]
    simp <;> omega

theorem get_bsl {w : World} {a : Option Addr} {len cap : Nat} {s : List UInt8} (h : Bsl w w.heap.size a len cap s) (i k : Nat) (h1 : 1 ≤ k) (h2 : k ≤ 4) (hk : i + k ≤ len) :
    Calls Tryz.prog 116 #[.slice a len cap, .int .i64 i, .int .i64 k] w fun e W' => e = .returned (.tuple #[.int .i64 (leN ((s.drop i).take k) : Nat), .int .i64 0]) ∧ Below w.heap.size w W' := by
  obtain ⟨e1, e2, e3, _, e5⟩ := h
  obtain ⟨b, off, rfl, hb, hc⟩ := e5 (by omega)
  exact get_ok b off len cap i k s e1 e2 (by unfold maxLen at e3; omega) h1 h2 hk w hb hc
end Go.Proofs.YtbggkfomfeeikaaGreatDoor
/-
  Words for pointers by value (api.Ptr): five numbers; two of them compared; a row of them in memory.
-/
namespace Go.Proofs.YtbggkfomfeeikaaGreatDoor
open Go.RowKit Go.Shelf
set_option maxRecDepth 100000

/-- A pointer: At, Birth, Iv, Tag, Sum. -/
abbrev Pt := Int × Nat × Nat × Nat × Nat
/-- The pointer as a value. -/
@[reducible] def ptV (p : Pt) : Value := .agg #[.int .i64 p.1, .int .u32 (p.2.1 : Int), .int .u32 (p.2.2.1 : Int), .int .u32 (p.2.2.2.1 : Int), .int .u32 (p.2.2.2.2 : Int)]
/-- Its cells. -/
def ptC (p : Pt) : List Value := [.int .i64 p.1, .int .u32 (p.2.1 : Int), .int .u32 (p.2.2.1 : Int), .int .u32 (p.2.2.2.1 : Int), .int .u32 (p.2.2.2.2 : Int)]
/-- Each of its numbers is one of its kind. -/
def WfP (p : Pt) : Prop := (-9223372036854775808 ≤ p.1 ∧ p.1 ≤ 9223372036854775807) ∧ p.2.1 < 4294967296 ∧ p.2.2.1 < 4294967296 ∧ p.2.2.2.1 < 4294967296 ∧ p.2.2.2.2 < 4294967296
/-- None. -/
abbrev p0 : Pt := (0, 0, 0, 0, 0)
theorem wf_p0 : WfP p0 := ⟨⟨by decide, by decide⟩, by decide, by decide, by decide, by decide⟩
/-- A pointer may be. -/
def MayP (p : Pt) : Prop := p = p0 ∨ ((12 ≤ p.1 ∧ p.1 < 256) ∧ 1 ≤ p.2.1 ∧ p.2.1 ≤ 16777215)
instance (p : Pt) : Decidable (MayP p) := by unfold MayP; exact inferInstance
theorem may_p0 : MayP p0 := .inl rfl

/-- Two pointers are the same just where their numbers are. -/
def eqP (p q : Pt) : Bool := decide (p = q)
theorem eqP_iff (p q : Pt) : eqP p q = true ↔ p = q := by simp [eqP]
theorem eqP_parts (p q : Pt) : eqP p q = ((p.1 == q.1) && (((p.2.1 : Nat) : Int) == ((q.2.1 : Nat) : Int) && (((p.2.2.1 : Nat) : Int) == ((q.2.2.1 : Nat) : Int) && (((p.2.2.2.1 : Nat) : Int) == ((q.2.2.2.1 : Nat) : Int) && ((p.2.2.2.2 : Nat) : Int) == ((q.2.2.2.2 : Nat) : Int))))) := by
  obtain ⟨a, b, c, d, e⟩ := p
  obtain ⟨a', b', c', d', e'⟩ := q
  rw [Bool.eq_iff_iff]
  simp [eqP]
  omega
theorem eqF_step {P : Program} {w : World} {d : Nat} {xs ys : Array Value} {f : Field} {fs : List Field} {a b : Value} {r R : Bool} (hn : f.name ≠ "_") (ha : (part f.type xs f.offset).run P w = .ok a w) (hb : (part f.type ys f.offset).run P w = .ok b w)
    (he : (Op.equalIn d f.type a b).run P w = .ok r w) (hr : (Op.eqFields d xs ys fs).run P w = .ok R w) : (Op.eqFields d xs ys (f :: fs)).run P w = .ok (r && R) w := by
  simp only [Op.eqFields, if_pos hn, Sem.run_bind, ha, hb, he, Result.andThen_ok]
  cases r <;> simp [hr]
theorem eqPt (p q : Pt) (w : World) : (Op.equalIn 10000 32 (ptV p) (ptV q)).run Tryz.prog w = .ok (eqP p q) w := by
  have hu : Tryz.prog.underlying 32 = some (.struct (Tryz.prog.fieldsOf 32)) := by kernel_rfl
  have hs : Tryz.prog.stoodInHeld 32 = false := by kernel_rfl
  obtain ⟨f0, f1, f2, f3, f4, hf, n0, n1, n2, n3, n4, t0, t1, t2, t3, t4, o0, o1, o2, o3, o4⟩ : ∃ f0 f1 f2 f3 f4 : Field, (Tryz.prog.fieldsOf 32).toList = [f0, f1, f2, f3, f4] ∧ f0.name ≠ "_" ∧ f1.name ≠ "_" ∧ f2.name ≠ "_" ∧ f3.name ≠ "_" ∧ f4.name ≠ "_" ∧ f0.type = 3 ∧ f1.type = 28 ∧ f2.type = 28 ∧ f3.type = 28 ∧ f4.type = 28 ∧ f0.offset = 0 ∧ f1.offset = 1 ∧ f2.offset = 2 ∧ f3.offset = 3 ∧ f4.offset = 4 :=
    ⟨_, _, _, _, _, rfl, by decide, by decide, by decide, by decide, by decide, rfl, rfl, rfl, rfl, rfl, rfl, rfl, rfl, rfl, rfl⟩
  rw [ptV, ptV, run_equalIn_struct w 9999 32 _ _ hu hs, hf]
  have pI : ∀ (cs : Array Value) (i : Nat) (v : Value) (_ : cs[i]? = some v) (w : World), (part 3 cs i).run Tryz.prog w = .ok v w := fun cs i v h w => run_part_plain w (by kernel_rfl) h
  have pU : ∀ (cs : Array Value) (i : Nat) (v : Value) (_ : cs[i]? = some v) (w : World), (part 28 cs i).run Tryz.prog w = .ok v w := fun cs i v h w => run_part_plain w (by kernel_rfl) h
  have eI : ∀ (a b : Int) (w : World), (Op.equalIn 9999 3 (.int .i64 a) (.int .i64 b)).run Tryz.prog w = .ok (a == b) w := fun a b w => run_equalIn_int w 9998 3 .i64 .i64 a b Tryz.underlying3
  have eU : ∀ (a b : Int) (w : World), (Op.equalIn 9999 28 (.int .u32 a) (.int .u32 b)).run Tryz.prog w = .ok (a == b) w := fun a b w => run_equalIn_int w 9998 28 .u32 .u32 a b Tryz.underlying28
  have nil : (Op.eqFields 9999 #[.int .i64 p.1, .int .u32 (p.2.1 : Int), .int .u32 (p.2.2.1 : Int), .int .u32 (p.2.2.2.1 : Int), .int .u32 (p.2.2.2.2 : Int)] #[.int .i64 q.1, .int .u32 (q.2.1 : Int), .int .u32 (q.2.2.1 : Int), .int .u32 (q.2.2.2.1 : Int), .int .u32 (q.2.2.2.2 : Int)] []).run Tryz.prog w = .ok true w := rfl
  have h4 := eqF_step n4 (by rw [t4, o4]; exact pU _ 4 _ rfl w) (by rw [t4, o4]; exact pU _ 4 _ rfl w) (by rw [t4]; exact eU _ _ w) nil
  have h3 := eqF_step n3 (by rw [t3, o3]; exact pU _ 3 _ rfl w) (by rw [t3, o3]; exact pU _ 3 _ rfl w) (by rw [t3]; exact eU _ _ w) h4
  have h2 := eqF_step n2 (by rw [t2, o2]; exact pU _ 2 _ rfl w) (by rw [t2, o2]; exact pU _ 2 _ rfl w) (by rw [t2]; exact eU _ _ w) h3
  have h1 := eqF_step n1 (by rw [t1, o1]; exact pU _ 1 _ rfl w) (by rw [t1, o1]; exact pU _ 1 _ rfl w) (by rw [t1]; exact eU _ _ w) h2
  have h0 := eqF_step n0 (by rw [t0, o0]; exact pI _ 0 _ rfl w) (by rw [t0, o0]; exact pI _ 0 _ rfl w) (by rw [t0]; exact eI _ _ w) h1
  rw [h0, eqP_parts, Bool.and_true]
/-- As the walk meets it. -/
theorem eqPt_lit (x : Int) (a b c d : Nat) (x' : Int) (a' b' c' d' : Nat) (w : World) : (Op.equalIn 10000 32 (.agg #[.int .i64 x, .int .u32 (a : Int), .int .u32 (b : Int), .int .u32 (c : Int), .int .u32 (d : Int)]) (.agg #[.int .i64 x', .int .u32 (a' : Int), .int .u32 (b' : Int), .int .u32 (c' : Int), .int .u32 (d' : Int)])).run Tryz.prog w = .ok (eqP (x, a, b, c, d) (x', a', b', c', d')) w := eqPt (x, a, b, c, d) (x', a', b', c', d') w
theorem eqPt_zero (x : Int) (a b c d : Nat) (w : World) : (Op.equalIn 10000 32 (.agg #[.int .i64 x, .int .u32 (a : Int), .int .u32 (b : Int), .int .u32 (c : Int), .int .u32 (d : Int)]) (.agg #[.int .i64 0, .int .u32 0, .int .u32 0, .int .u32 0, .int .u32 0])).run Tryz.prog w = .ok (eqP (x, a, b, c, d) p0) w := eqPt (x, a, b, c, d) p0 w

/-- A slice of pointers that lies below block B reads as L. -/
def Pts (w : World) (B : Nat) (a : Option Addr) (len cap : Nat) (L : List Pt) : Prop :=
  L.length = len ∧ len ≤ cap ∧ cap ≤ maxLen ∧ (a = none → cap = 0) ∧
    (0 < len → ∃ b off, a = some ⟨b, off, none⟩ ∧ b < B ∧ ∀ i (h : i < L.length), WfP L[i] ∧ ∀ j u, (ptC L[i])[j]? = some u → w.cell? ⟨b, off + i * 5 + j, none⟩ = some u)
theorem pts_nil (w : World) (B : Nat) : Pts w B none 0 0 [] := ⟨rfl, Nat.le_refl _, Nat.zero_le _, fun _ => rfl, fun h => absurd h (Nat.lt_irrefl _)⟩
section
variable {w w' : World} {B len cap : Nat} {a : Option Addr} {L : List Pt}
theorem Pts.below (h : Pts w B a len cap L) (hb : Below B w w') : Pts w' B a len cap L := by
  obtain ⟨h1, h2, h3, h4, h5⟩ := h
  refine ⟨h1, h2, h3, h4, fun hl => ?_⟩
  obtain ⟨b, off, e, hlt, hc⟩ := h5 hl
  exact ⟨b, off, e, hlt, fun i hi => ⟨(hc i hi).1, fun j u hu => (hb.cell (p := ⟨b, off + i * 5 + j, none⟩) hlt).trans ((hc i hi).2 j u hu)⟩⟩
theorem Pts.more {B' : Nat} (h : Pts w B a len cap L) (hB : B ≤ B') : Pts w B' a len cap L := by
  obtain ⟨h1, h2, h3, h4, h5⟩ := h
  refine ⟨h1, h2, h3, h4, fun hl => ?_⟩
  obtain ⟨b, off, e, hlt, hc⟩ := h5 hl
  exact ⟨b, off, e, by omega, hc⟩
theorem Pts.step (h : Pts w w.heap.size a len cap L) (hb : Below w.heap.size w w') : Pts w' w'.heap.size a len cap L := (h.below hb).more hb.size
theorem Pts.wf (h : Pts w B a len cap L) {p : Pt} (hp : p ∈ L) : WfP p := by
  obtain ⟨i, hi, rfl⟩ := List.getElem_of_mem hp
  obtain ⟨b, off, _, _, hc⟩ := h.2.2.2.2 (by rw [← h.1]; omega)
  exact (hc i hi).1
/-- The five cells of a pointer. -/
theorem Pts.cells (h : Pts w B a len cap L) (i : Nat) (hi : i < len) : ∃ b off, a = some ⟨b, off, none⟩ ∧ b < B ∧ WfP (L.getD i p0) ∧ w.cell? ⟨b, off + i * 5, none⟩ = some (.int .i64 (L.getD i p0).1) ∧ w.cell? ⟨b, off + i * 5 + 1, none⟩ = some (.int .u32 ((L.getD i p0).2.1 : Int)) ∧ w.cell? ⟨b, off + i * 5 + 2, none⟩ = some (.int .u32 ((L.getD i p0).2.2.1 : Int)) ∧
    w.cell? ⟨b, off + i * 5 + 3, none⟩ = some (.int .u32 ((L.getD i p0).2.2.2.1 : Int)) ∧ w.cell? ⟨b, off + i * 5 + 4, none⟩ = some (.int .u32 ((L.getD i p0).2.2.2.2 : Int)) := by
  obtain ⟨b, off, e, hb, hc⟩ := h.2.2.2.2 (by omega)
  have hl : i < L.length := by rw [h.1]; exact hi
  obtain ⟨hw, hx⟩ := hc i hl
  have hg : L.getD i p0 = L[i] := by rw [List.getD_eq_getElem?_getD, List.getElem?_eq_getElem hl]; rfl
  rw [hg]
  exact ⟨b, off, e, hb, hw, hx 0 _ rfl, hx 1 _ rfl, hx 2 _ rfl, hx 3 _ rfl, hx 4 _ rfl⟩
end
/-- The cells of pointers. -/
def ptCs (L : List Pt) : List Value := L.flatMap ptC
theorem ptCs_length : ∀ L : List Pt, (ptCs L).length = L.length * 5
  | [] => rfl
  | p :: L => by
    show (ptC p ++ ptCs L).length = _
    rw [List.length_append, ptCs_length L, List.length_cons]
    show 5 + _ = _
    omega
theorem ptCs_append (L M : List Pt) : ptCs (L ++ M) = ptCs L ++ ptCs M := by simp [ptCs]
theorem ptCs_get : ∀ (L : List Pt) (i : Nat) (h : i < L.length) (j : Nat) (u : Value), (ptC L[i])[j]? = some u → (ptCs L)[i * 5 + j]? = some u
  | p :: L, 0, _, j, u, hu => by
    show (ptC p ++ ptCs L)[_]? = _
    have hj : j < (ptC p).length := by
      rcases Nat.lt_or_ge j (ptC p).length with hj | hj
      · exact hj
      · rw [show ((p :: L)[0]) = p from rfl, List.getElem?_eq_none hj] at hu; cases hu
    rw [List.getElem?_append_left (by omega), Nat.zero_mul, Nat.zero_add]
    exact hu
  | p :: L, i + 1, h, j, u, hu => by
    show (ptC p ++ ptCs L)[_]? = _
    have hl : (ptC p).length = 5 := rfl
    rw [List.getElem?_append_right (by omega), hl, show (i + 1) * 5 + j - 5 = i * 5 + j by omega]
    exact ptCs_get L i (by simpa using h) j u hu
/-- A row of the call's own, of pointers. -/
def PRow (w : World) (base : Nat) (v : Value) (L : List Pt) : Prop := w.ownsRow base 32 5 v L.length (ptCs L) ∧ ∀ p ∈ L, WfP p
theorem PRow.pts {w : World} {base : Nat} {v : Value} {L : List Pt} (h : PRow w base v L) : ∃ a c, v = .slice a L.length c ∧ Pts w w.heap.size a L.length c L := by
  obtain ⟨⟨hl, ⟨rfl, h0⟩ | ⟨g, cap, cur, rfl, _, h3, h4, h5, h6, h7⟩⟩, hw⟩ := h
  · have : L = [] := List.eq_nil_of_length_eq_zero h0
    subst this
    exact ⟨none, 0, rfl, pts_nil _ _⟩
  · refine ⟨_, _, rfl, rfl, h4, h5, fun e => (by cases e), fun _ => ⟨g, 0, rfl, (Array.getElem?_eq_some_iff.1 h3).1, fun i hi => ⟨hw _ (List.getElem_mem hi), fun j u hu => ?_⟩⟩⟩
    have hg := ptCs_get L i hi j u hu
    have hj : i * 5 + j < L.length * 5 := by
      rcases Nat.lt_or_ge (i * 5 + j) (ptCs L).length with hj | hj
      · rw [ptCs_length] at hj; exact hj
      · rw [List.getElem?_eq_none hj] at hg; cases hg
    rw [Nat.zero_add, cell_of_row w g _ cur 32 (0, 0) h3, ← Array.getElem?_toList, ← hg, ← h7, List.getElem?_take_of_lt hj]
theorem PRow.below {w w' : World} {base : Nat} {v : Value} {L : List Pt} (h : PRow w base v L) (hb : Below w.heap.size w w') : PRow w' base v L := ⟨own_below h.1 hb, h.2⟩
theorem prow_nil (w : World) (base : Nat) : PRow w base (.slice none 0 0) [] := ⟨World.ownsRow_nil _ _ _ _, fun _ h => (by cases h)⟩
theorem PRow.mono {w : World} {B B' : Nat} {v : Value} {L : List Pt} (h : PRow w B v L) (hB : B' ≤ B) : PRow w B' v L := ⟨own_mono h.1 hB, h.2⟩
/-- The cells of a block that is a pointer. -/
theorem Blk.five {w : World} {g : Nat} {t : TypeId} {a : Int} {b c d e : Nat} (h : Blk w g t #[.int .i64 a, .int .u32 (b : Int), .int .u32 (c : Int), .int .u32 (d : Int), .int .u32 (e : Int)]) : w.cell? ⟨g, 0, none⟩ = some (.int .i64 a) ∧ w.cell? ⟨g, 1, none⟩ = some (.int .u32 (b : Int)) ∧ w.cell? ⟨g, 2, none⟩ = some (.int .u32 (c : Int)) ∧ w.cell? ⟨g, 3, none⟩ = some (.int .u32 (d : Int)) ∧ w.cell? ⟨g, 4, none⟩ = some (.int .u32 (e : Int)) :=
  ⟨h.cell 0, h.cell 1, h.cell 2, h.cell 3, h.cell 4⟩
/-- Five cells are written. -/
@[reducible] def set5 (w : World) (g : Nat) (v0 v1 v2 v3 v4 : Value) : World := ((((w.setCell ⟨g, 0, none⟩ v0).setCell ⟨g, 1, none⟩ v1).setCell ⟨g, 2, none⟩ v2).setCell ⟨g, 3, none⟩ v3).setCell ⟨g, 4, none⟩ v4
theorem Blk.set5 {w : World} {g : Nat} {t : TypeId} {u0 u1 u2 u3 u4 : Value} (h : Blk w g t #[u0, u1, u2, u3, u4]) (v0 v1 v2 v3 v4 : Value) : Blk (set5 w g v0 v1 v2 v3 v4) g t #[v0, v1, v2, v3, v4] :=
  ((((h.set_ 0 v0).set_ 1 v1).set_ 2 v2).set_ 3 v3).set_ 4 v4
theorem below_set5 {B : Nat} {a w : World} {g : Nat} (h : Below B a w) (hg : B ≤ g) (v0 v1 v2 v3 v4 : Value) : Below B a (set5 w g v0 v1 v2 v3 v4) :=
  ((((h.setCell (p := ⟨g, 0, none⟩) hg v0).setCell (p := ⟨g, 1, none⟩) hg v1).setCell (p := ⟨g, 2, none⟩) hg v2).setCell (p := ⟨g, 3, none⟩) hg v3).setCell (p := ⟨g, 4, none⟩) hg v4
theorem only_set5 {a w : World} {g : Nat} (h : a.grownBy w (some g)) (v0 v1 v2 v3 v4 : Value) : a.grownBy (set5 w g v0 v1 v2 v3 v4) (some g) :=
  only_setCell (only_setCell (only_setCell (only_setCell (only_setCell h (.inl rfl) v0) (.inl rfl) v1) (.inl rfl) v2) (.inl rfl) v3) (.inl rfl) v4
end Go.Proofs.YtbggkfomfeeikaaGreatDoor
/-
  Tables of blocks as plain lists of bytes: which may be, which blocks are free, what is counted, what is settled.
-/
namespace Go.Proofs.YtbggkfomfeeikaaGreatDoor
open Go.RowKit Go.Shelf
set_option maxRecDepth 100000

/-- The mark of a block. -/
def mkT (s : List UInt8) (i : Nat) : Nat := (s.getD i 0).toNat
theorem mkT_lt (s : List UInt8) (i : Nat) : mkT s i < 256 := (s.getD i 0).toNat_lt
/-- A table may be. -/
def MayT (s : List UInt8) : Prop := s.length = 256 ∧ (∀ i, i < 256 → mkT s i ≤ 2) ∧ ∀ i, i < 12 → mkT s i = 1
/-- The first place from p on, below n, where P holds; or there is none. -/
theorem first_from (P : Nat → Prop) (p n : Nat) : (∃ k, p ≤ k ∧ k < n ∧ P k ∧ ∀ i, p ≤ i → i < k → ¬ P i) ∨ ∀ i, p ≤ i → i < n → ¬ P i := by
  induction n with
  | zero => exact .inr fun i _ h => absurd h (Nat.not_lt_zero _)
  | succ n ih =>
    rcases ih with ⟨k, h1, h2, h3, h4⟩ | h
    · exact .inl ⟨k, h1, by omega, h3, h4⟩
    · by_cases hp : p ≤ n ∧ P n
      · exact .inl ⟨n, hp.1, Nat.lt_succ_self n, hp.2, h⟩
      · refine .inr fun i hi hl hpi => ?_
        rcases Nat.lt_or_ge i n with h5 | h5
        · exact h i hi h5 hpi
        · obtain rfl : i = n := by omega
          exact hp ⟨hi, hpi⟩
end Go.Proofs.YtbggkfomfeeikaaGreatDoor
/-
  Plain mathematics of layer 2: four words, turned there and back; the four words of bytes; texts of one length with one other piece have unlike four words. Nothing of the program.
-/
namespace Go.Proofs.YtbggkfomfeeikaaGreatDoor
set_option maxRecDepth 100000

def pl (x y : BitVec 32) : BitVec 32 := x + y
def xo (x y : BitVec 32) : BitVec 32 := x ^^^ y
def ro (k : Nat) (x : BitVec 32) : BitVec 32 := x.rotateLeft k

/-- One bit to the left, by numbers. -/
theorem ro_succ (k : Nat) (hk : k < 31) (x : BitVec 32) : (ro (k + 1) x).toNat = (ro k x).toNat * 2 % 4294967296 + (ro k x).toNat * 2 / 4294967296 := by
  have h1 : ro (k + 1) x = ro 1 (ro k x) := by
    unfold ro
    apply BitVec.eq_of_getElem_eq
    intro i hi
    have e1 : (k + 1) % 32 = k + 1 := Nat.mod_eq_of_lt (by omega)
    have e2 : k % 32 = k := Nat.mod_eq_of_lt (by omega)
    have e3 : 1 % 32 = 1 := rfl
    simp only [BitVec.getElem_rotateLeft, e1, e2, e3]
    by_cases a : i < 1
    · rw [dif_pos (by omega), dif_pos a]
      rcases Nat.eq_zero_or_pos k with h0 | h0
      · subst h0
        rw [dif_neg (by omega)]
        congr 1 <;> omega
      · rw [dif_neg (by omega)]
        congr 1
        omega
    · rw [dif_neg a]
      by_cases b : i < k + 1
      · rw [dif_pos b, dif_pos (by omega)]
        congr 1
        omega
      · rw [dif_neg b, dif_neg (by omega)]
        congr 1
        omega
  rw [h1]
  generalize ro k x = y
  unfold ro
  have hy := y.isLt
  rw [BitVec.rotateLeft_def, BitVec.toNat_or, BitVec.toNat_shiftLeft, BitVec.toNat_ushiftRight]
  have e1 : 1 % 32 = 1 := rfl
  rw [e1, Nat.shiftLeft_eq, Nat.shiftRight_eq_div_pow]
  have e2 : y.toNat * 2 ^ 1 % 2 ^ 32 = (y.toNat % 2 ^ 31) * 2 := by omega
  have e3 : y.toNat / 2 ^ (32 - 1) ≤ 1 := by omega
  have e4 : (y.toNat % 2 ^ 31) * 2 ||| y.toNat / 2 ^ (32 - 1) = (y.toNat % 2 ^ 31) * 2 + y.toNat / 2 ^ (32 - 1) := by
    have := Nat.two_pow_add_eq_or_of_lt (i := 1) (b := y.toNat / 2 ^ (32 - 1)) (by omega) (y.toNat % 2 ^ 31)
    rw [show 2 ^ 1 * (y.toNat % 2 ^ 31) = (y.toNat % 2 ^ 31) * 2 by omega] at this
    exact this.symm
  rw [e2, e4]
  omega
theorem ro_0 (x : BitVec 32) : ro 0 x = x := by
  unfold ro
  apply BitVec.eq_of_getElem_eq
  intro i hi
  simp only [BitVec.getElem_rotateLeft, Nat.zero_mod]
  rw [dif_neg (by omega)]
  rfl

/-- Four words. -/
structure W4 where
  a : BitVec 32
  b : BitVec 32
  c : BitVec 32
  d : BitVec 32

def halfT (k m : Nat) (x : W4) : W4 :=
  ⟨pl x.a x.b, ro m (xo x.b (pl x.c (ro k (xo x.d (pl x.a x.b))))), pl x.c (ro k (xo x.d (pl x.a x.b))), ro k (xo x.d (pl x.a x.b))⟩
def turnW (x : W4) : W4 := halfT 9 6 (halfT 15 11 x)
def turnsW : Nat → W4 → W4
  | 0, x => x
  | n + 1, x => turnW (turnsW n x)
/-- One piece, of the numbers m and n, is taken in. -/
def stepW (x : W4) (m n : BitVec 32) : W4 := turnsW 4 ⟨xo x.a m, x.b, xo x.c n, x.d⟩
/-- The byte at place i of a text, one byte 1 and noughts behind it. -/
def byteP (s : List UInt8) (i : Nat) : UInt8 := if h : i < s.length then s[i] else if i = s.length then 1 else 0
/-- Four of them. -/
def quadP (s : List UInt8) (i : Nat) : List UInt8 := [byteP s i, byteP s (i + 1), byteP s (i + 2), byteP s (i + 3)]
def wordP (s : List UInt8) (i : Nat) : BitVec 32 := BitVec.ofNat 32 (leN (quadP s i))
/-- The words behind so many pieces. -/
def behind (s : List UInt8) : Nat → W4
  | 0 => ⟨1, 2, 3, 4⟩
  | k + 1 => stepW (behind s k) (wordP s (8 * k)) (wordP s (8 * k + 4))
/-- The four words of a text. -/
def fourW (s : List UInt8) : W4 :=
  let x := behind s (s.length / 8 + 1)
  turnsW 8 ⟨x.a, xo x.b (BitVec.ofNat 32 s.length), x.c, x.d⟩

theorem leN4 (a b c d : UInt8) : leN [a, b, c, d] = a.toNat + 256 * b.toNat + 65536 * c.toNat + 16777216 * d.toNat := by simp only [leN]; omega
theorem leN4_lt (a b c d : UInt8) : leN [a, b, c, d] < 4294967296 := by
  rw [leN4]
  have := a.toNat_lt; have := b.toNat_lt; have := c.toNat_lt; have := d.toNat_lt
  omega
theorem wordP_toNat (s : List UInt8) (i : Nat) : (wordP s i).toNat = leN (quadP s i) := by
  unfold wordP
  rw [BitVec.toNat_ofNat]
  exact Nat.mod_eq_of_lt (leN4_lt _ _ _ _)
end Go.Proofs.YtbggkfomfeeikaaGreatDoor
/-
  mix.Turn and mix.Back, whatever four words they are handed, answer these words turned, there and back; nothing that was there is written.
-/
namespace Go.Proofs.YtbggkfomfeeikaaGreatDoor
open Go.RowKit Go.Shelf
set_option maxRecDepth 100000

theorem add32 (x y : BitVec 32) : ((x.toNat : Int) + (y.toNat : Int)) % 4294967296 = ((pl x y).toNat : Int) := by
  unfold pl
  rw [BitVec.toNat_add]
  show ((x.toNat : Int) + (y.toNat : Int)) % ((4294967296 : Nat) : Int) = _
  rw [Int.natCast_emod]
  rfl
theorem xor32 (x y : BitVec 32) : bits .xor .u32 (x.toNat : Int) (y.toNat : Int) = ((xo x y).toNat : Int) := by
  rw [u32_xor_nat _ _ x.isLt y.isLt]
  rfl
/-- What RotateLeft32 makes of its two shifts. -/
theorem rot32 (x : BitVec 32) (k l : Nat) (hk : 0 < k) (hl : l + k = 32) (hl0 : 0 < l) (m n : Int) (hm : m = (x.toNat : Int) * ((2 ^ k : Nat) : Int) % 4294967296) (hn : n = (x.toNat : Int) / ((2 ^ l : Nat) : Int)) : bits .or .u32 m n = ((ro k x).toNat : Int) := by
  have e1 : m = ((x.toNat * 2 ^ k % 4294967296 : Nat) : Int) := by rw [hm, Int.natCast_emod, Int.natCast_mul]; rfl
  have e2 : n = ((x.toNat / 2 ^ l : Nat) : Int) := by rw [hn, Int.natCast_ediv]
  have hx := x.isLt
  rw [e1, e2, u32_or_nat _ _ (Nat.mod_lt _ (by omega)) (Nat.lt_of_le_of_lt (Nat.div_le_self _ _) hx)]
  unfold ro
  rw [BitVec.rotateLeft_def, BitVec.toNat_or, BitVec.toNat_shiftLeft, BitVec.toNat_ushiftRight, Nat.mod_eq_of_lt (show k < 32 by omega), Nat.shiftLeft_eq, Nat.shiftRight_eq_div_pow, show 32 - k = l by omega]

theorem ret_int {k : IntKind} {a b : Int} (h : a = b) : Ending.returned (.int k a) = .returned (.int k b) := by rw [h]
theorem rot_any (x : BitVec 32) (z : Int) (k : Nat) (hk : (z = 15 ∧ k = 15) ∨ (z = 11 ∧ k = 11) ∨ (z = 9 ∧ k = 9) ∨ (z = 6 ∧ k = 6) ∨ (z = -15 ∧ k = 17) ∨ (z = -11 ∧ k = 21) ∨ (z = -9 ∧ k = 23) ∨ (z = -6 ∧ k = 26)) (w : World) :
    Calls Tryz.prog 152 #[.int .u32 (x.toNat : Int), .int .i64 z] w fun e w' => e = .returned (.int .u32 ((ro k x).toNat : Int)) ∧ w = w' := by
  have hx0 : (0 : Int) ≤ (x.toNat : Int) := by omega
  have hx1 : (x.toNat : Int) ≤ 4294967295 := by have := x.isLt; omega
  rcases hk with ⟨rfl, rfl⟩ | ⟨rfl, rfl⟩ | ⟨rfl, rfl⟩ | ⟨rfl, rfl⟩ | ⟨rfl, rfl⟩ | ⟨rfl, rfl⟩ | ⟨rfl, rfl⟩ | ⟨rfl, rfl⟩
  · have e1 : bits BinOp.and IntKind.u64 15 31 = 15 := by decide
    have e2 := rot32 x 15 17 (by omega) (by omega) (by omega) ((x.toNat : Int) * 32768 % 4294967296) ((x.toNat : Int) / 131072) (by simp) (by simp)
    go_enter Tryz.func152, Tryz.ntmps152
    go_wp2
    go_ret
    exact ⟨rfl, rfl⟩
  · have e1 : bits BinOp.and IntKind.u64 11 31 = 11 := by decide
    have e2 := rot32 x 11 21 (by omega) (by omega) (by omega) ((x.toNat : Int) * 2048 % 4294967296) ((x.toNat : Int) / 2097152) (by simp) (by simp)
    go_enter Tryz.func152, Tryz.ntmps152
    go_wp2
    go_ret
    exact ⟨rfl, rfl⟩
  · have e1 : bits BinOp.and IntKind.u64 9 31 = 9 := by decide
    have e2 := rot32 x 9 23 (by omega) (by omega) (by omega) ((x.toNat : Int) * 512 % 4294967296) ((x.toNat : Int) / 8388608) (by simp) (by simp)
    go_enter Tryz.func152, Tryz.ntmps152
    go_wp2
    go_ret
    exact ⟨rfl, rfl⟩
  · have e1 : bits BinOp.and IntKind.u64 6 31 = 6 := by decide
    have e2 := rot32 x 6 26 (by omega) (by omega) (by omega) ((x.toNat : Int) * 64 % 4294967296) ((x.toNat : Int) / 67108864) (by simp) (by simp)
    go_enter Tryz.func152, Tryz.ntmps152
    go_wp2
    go_ret
    exact ⟨rfl, rfl⟩
  · have e1 : bits BinOp.and IntKind.u64 (IntKind.u64.wrap (-15)) 31 = 17 := by decide
    have e2 := rot32 x 17 15 (by omega) (by omega) (by omega) ((x.toNat : Int) * 131072 % 4294967296) ((x.toNat : Int) / 32768) (by simp) (by simp)
    go_enter Tryz.func152, Tryz.ntmps152
    go_wp2
    go_ret
    exact ⟨rfl, rfl⟩
  · have e1 : bits BinOp.and IntKind.u64 (IntKind.u64.wrap (-11)) 31 = 21 := by decide
    have e2 := rot32 x 21 11 (by omega) (by omega) (by omega) ((x.toNat : Int) * 2097152 % 4294967296) ((x.toNat : Int) / 2048) (by simp) (by simp)
    go_enter Tryz.func152, Tryz.ntmps152
    go_wp2
    go_ret
    exact ⟨rfl, rfl⟩
  · have e1 : bits BinOp.and IntKind.u64 (IntKind.u64.wrap (-9)) 31 = 23 := by decide
    have e2 := rot32 x 23 9 (by omega) (by omega) (by omega) ((x.toNat : Int) * 8388608 % 4294967296) ((x.toNat : Int) / 512) (by simp) (by simp)
    go_enter Tryz.func152, Tryz.ntmps152
    go_wp2
    go_ret
    exact ⟨rfl, rfl⟩
  · have e1 : bits BinOp.and IntKind.u64 (IntKind.u64.wrap (-6)) 31 = 26 := by decide
    have e2 := rot32 x 26 6 (by omega) (by omega) (by omega) ((x.toNat : Int) * 67108864 % 4294967296) ((x.toNat : Int) / 64) (by simp) (by simp)
    go_enter Tryz.func152, Tryz.ntmps152
    go_wp2
    go_ret
    exact ⟨rfl, rfl⟩

/-- Four words as a value. -/
@[reducible] def ag (x : W4) : Value := .agg #[.int .u32 (x.a.toNat : Int), .int .u32 (x.b.toNat : Int), .int .u32 (x.c.toNat : Int), .int .u32 (x.d.toNat : Int)]

set_option maxHeartbeats 1000000 in
theorem turn_any (x : W4) (w : World) : Calls Tryz.prog 145 #[ag x] w fun e w' => e = .returned (ag (turnW x)) ∧ Below w.heap.size w w' := by
  have r1 := add32
  have r2 := xor32
  obtain ⟨a, b, c, d⟩ := x
  go_enter Tryz.func145, Tryz.ntmps145
  go_wp2_with (go_at_call 151; go_in)
  refine (rot_any _ 15 15 (by simp) _).mono ?_
  rintro e w' ⟨rfl, rfl⟩
  go_wp2_with (go_at_call 151; go_in)
  refine (rot_any _ 11 11 (by simp) _).mono ?_
  rintro e w' ⟨rfl, rfl⟩
  go_wp2_with fail
  go_end0
  go_wp2_with (go_at_call 151; go_in)
  refine (rot_any _ 9 9 (by simp) _).mono ?_
  rintro e w' ⟨rfl, rfl⟩
  go_wp2_with fail
  refine (rot_any _ 6 6 (by simp) _).mono ?_
  rintro e w' ⟨rfl, rfl⟩
  go_wp2_with fail
  go_end0
  go_wp2_with fail
  exact bodyPost_ret (v := ag (turnW ⟨a, b, c, d⟩)) (by simp [results, Tryz.results145, go_sem, turnW, halfT]) rfl ⟨rfl, ((Below.refl _ w).alloc (Nat.le_refl _) _).alloc (by simp) _⟩

/-- The cells of four words. -/
@[reducible] def cl (x : W4) : Array Value := #[.int .u32 (x.a.toNat : Int), .int .u32 (x.b.toNat : Int), .int .u32 (x.c.toNat : Int), .int .u32 (x.d.toNat : Int)]
end Go.Proofs.YtbggkfomfeeikaaGreatDoor
/-
  mix.turns, mix.word and mix.take: so many turns; a word of a piece; a piece taken in; nothing that was there is written.
-/
namespace Go.Proofs.YtbggkfomfeeikaaGreatDoor
open Go.RowKit Go.Shelf
set_option maxRecDepth 100000

set_option maxHeartbeats 1000000 in
theorem turns_any (x : W4) (n : Nat) (hn : n ≤ 1000) (w : World) : Calls Tryz.prog 131 #[ag x, .int .i64 n] w fun e w' => e = .returned (ag (turnsW n x)) ∧ Below w.heap.size w w' := by
  have hb0 : Blk ((w.alloc (.cells (cl x) 135)).alloc (.cells #[.int .u32 0, .int .u32 0, .int .u32 0, .int .u32 0] 135)) w.heap.size 135 (cl x) := (Blk.new w _ _).alloc _
  have hr0 := Blk.new (w.alloc (.cells (cl x) 135)) 135 #[.int .u32 0, .int .u32 0, .int .u32 0, .int .u32 0]
  have hB0 : Below w.heap.size w ((w.alloc (.cells (cl x) 135)).alloc (.cells #[.int .u32 0, .int .u32 0, .int .u32 0, .int .u32 0] 135)) := ((Below.refl _ w).alloc (Nat.le_refl _) _).alloc (by simp) _
  rw [World.size_alloc] at hr0
  have HB0 := Lib.hid hb0; clear hb0
  have HR0 := Lib.hid hr0; clear hr0
  have HBe := Lib.hid hB0; clear hB0
  have hn' : (n : Int) ≤ 1000 := by omega
  go_enter Tryz.func131, Tryz.ntmps131
  go_wp2_with fail
  go_loopw [6] (fun i wr => ∃ k : Nat, k ≤ n ∧ i = .int .i64 k ∧ Blk wr w.heap.size 135 (cl (turnsW k x)) ∧ Blk wr (w.heap.size + 1) 135 #[.int .u32 0, .int .u32 0, .int .u32 0, .int .u32 0] ∧ Below w.heap.size w wr) (fun i _ => n - (intOf i).toNat)
  case atStart => exact ⟨0, Nat.zero_le _, rfl, HB0.out, HR0.out, HBe.out⟩
  case round =>
    obtain ⟨k, hk, rfl, hb, hr, hbe⟩ := hrel
    have c0 := hb.cell 0
    have c1 := hb.cell 1
    have c2 := hb.cell 2
    have c3 := hb.cell 3
    have HB := Lib.hid hb; clear hb
    have HR := Lib.hid hr; clear hr
    have HE := Lib.hid hbe; clear hbe
    by_cases hlt : k < n
    · go_wp2_with fail
      refine (turn_any _ _).mono ?_
      rintro e w1 ⟨rfl, b1⟩
      have hb1 := HB.out.below b1 HB.out.lt
      have f := fun i => hb1.frozen i
      have d0 := hb1.cell 0
      have d1 := hb1.cell 1
      have d2 := hb1.cell 2
      have d3 := hb1.cell 3
      have HB1 := Lib.hid hb1; clear hb1
      have hr1 := HR.out.below b1 HR.out.lt
      have HR1 := Lib.hid hr1; clear hr1
      have he1 := HE.out.trans (b1.mono HE.out.size)
      have HE1 := Lib.hid he1; clear he1 b1
      clear c0 c1 c2 c3
      go_wp2_with fail
      go_roundw
      case rel => exact ⟨k + 1, by omega, by go_num, HB1.out.set4 _ _ _ _, (((HR1.out.far (by simp) _).far (by simp) _).far (by simp) _).far (by simp) _, below_set4 HE1.out (Nat.le_refl _) _ _ _ _⟩
      case measure => simp [intOf]; omega
    · obtain rfl : k = n := by omega
      have d0 := HR.out.cell 0
      have d1 := HR.out.cell 1
      have d2 := HR.out.cell 2
      have d3 := HR.out.cell 3
      have f := fun i => HR.out.frozen i
      go_wp2_with fail
      have hR := HR.out.set4 (.int .u32 ((turnsW k x).a.toNat : Int)) (.int .u32 ((turnsW k x).b.toNat : Int)) (.int .u32 ((turnsW k x).c.toNat : Int)) (.int .u32 ((turnsW k x).d.toNat : Int))
      have e0 := hR.cell 0
      have e1 := hR.cell 1
      have e2 := hR.cell 2
      have e3 := hR.cell 3
      have E := below_set4 HE.out (g := w.heap.size + 1) (by omega) (.int .u32 ((turnsW k x).a.toNat : Int)) (.int .u32 ((turnsW k x).b.toNat : Int)) (.int .u32 ((turnsW k x).c.toNat : Int)) (.int .u32 ((turnsW k x).d.toNat : Int))
      clear hR
      exact bodyPost_ret (v := ag (turnsW k x)) (by simp [results, Tryz.results131, go_sem, e0, e1, e2, e3]) rfl ⟨rfl, E⟩

/-- The number of four bytes of a piece. -/
theorem word_any (b off cap i : Nat) (s : List UInt8) (hs : s.length = 8) (hc8 : 8 ≤ cap) (hcm : cap ≤ 9223372036854775807) (hi : i + 4 ≤ 8) (w : World) (hb : b < w.heap.size)
    (hc : ∀ i (h : i < s.length), w.cell? ⟨b, off + i, none⟩ = some (.int .u8 ((s[i]).toNat : Int))) :
    Calls Tryz.prog 144 #[.slice (some ⟨b, off, none⟩) 8 cap, .int .i64 i] w fun e w' => e = .returned (.int .u32 (leN ((s.drop i).take 4) : Nat)) ∧ Below w.heap.size w w' := by
  have hlt : leN ((s.drop i).take 4) < 4294967296 := by
    have h1 := leN_lt ((s.drop i).take 4)
    have h2 : ((s.drop i).take 4).length = 4 := by simp; omega
    rw [h2] at h1
    exact h1
  have hg := get_ok b off 8 cap i 4 s hs hc8 hcm (by omega) (by omega) (by omega) w hb hc
  have HG := Lib.hid hg; clear hg hc hs
  obtain ⟨m, hm⟩ : ∃ m : Nat, leN ((s.drop i).take 4) = m := ⟨_, rfl⟩
  rw [hm] at hlt HG ⊢
  clear hm
  have h0 : (0 : Int) ≤ m := by omega
  have h1 : (m : Int) ≤ 4294967295 := by omega
  go_enter Tryz.func144, Tryz.ntmps144
  go_wp2_with fail
  refine HG.out.mono ?_
  rintro e w1 ⟨rfl, b1⟩
  go_wp2_with fail
  go_ret
  exact ⟨rfl, b1⟩

set_option maxHeartbeats 2000000 in
theorem take_any (x : W4) (b off cap : Nat) (s : List UInt8) (hs : s.length = 8) (hc8 : 8 ≤ cap) (hcm : cap ≤ 9223372036854775807) (w : World) (hb : b < w.heap.size)
    (hc : ∀ i (h : i < s.length), w.cell? ⟨b, off + i, none⟩ = some (.int .u8 ((s[i]).toNat : Int))) :
    Calls Tryz.prog 130 #[ag x, .slice (some ⟨b, off, none⟩) 8 cap] w fun e w' => e = .returned (ag (stepW x (BitVec.ofNat 32 (leN (s.take 4))) (BitVec.ofNat 32 (leN ((s.drop 4).take 4))))) ∧ Below w.heap.size w w' := by
  have r2 := xor32
  have hb0 : Blk ((w.alloc (.cells (cl x) 135)).alloc (.cells #[.int .u32 0, .int .u32 0, .int .u32 0, .int .u32 0] 135)) w.heap.size 135 (cl x) := (Blk.new w _ _).alloc _
  have hr0 := Blk.new (w.alloc (.cells (cl x) 135)) 135 #[.int .u32 0, .int .u32 0, .int .u32 0, .int .u32 0]
  have hB0 : Below w.heap.size w ((w.alloc (.cells (cl x) 135)).alloc (.cells #[.int .u32 0, .int .u32 0, .int .u32 0, .int .u32 0] 135)) := ((Below.refl _ w).alloc (Nat.le_refl _) _).alloc (by simp) _
  rw [World.size_alloc] at hr0
  have wd : ∀ (z : Int) (i : Nat), z = i → i + 4 ≤ 8 → ∀ W, Below w.heap.size w W → Calls Tryz.prog 144 #[.slice (some ⟨b, off, none⟩) 8 cap, .int .i64 z] W fun e w' => e = .returned (.int .u32 ((BitVec.ofNat 32 (leN ((s.drop i).take 4))).toNat : Int)) ∧ Below W.heap.size W w' := fun z i hz hi W hW => by
    subst hz
    have e1 : (BitVec.ofNat 32 (leN ((s.drop i).take 4))).toNat = leN ((s.drop i).take 4) := by
      rw [BitVec.toNat_ofNat]
      have h1 := leN_lt ((s.drop i).take 4)
      have h2 : ((s.drop i).take 4).length = 4 := by simp; omega
      rw [h2] at h1
      exact Nat.mod_eq_of_lt h1
    rw [e1]
    exact word_any b off cap i s hs hc8 hcm hi W (Nat.lt_of_lt_of_le hb hW.size) (fun j hj => (hW.cell (p := ⟨b, off + j, none⟩) hb).trans (hc j hj))
  obtain ⟨m, hm⟩ : ∃ m, BitVec.ofNat 32 (leN (s.take 4)) = m := ⟨_, rfl⟩
  obtain ⟨n, hn⟩ : ∃ n, BitVec.ofNat 32 (leN ((s.drop 4).take 4)) = n := ⟨_, rfl⟩
  have wd0 := wd 0 0 rfl (by omega)
  have wd4 := wd 4 4 rfl (by omega)
  rw [List.drop_zero, hm] at wd0
  rw [hn] at wd4
  rw [hm, hn]
  clear hc hs wd hm hn
  have WD0 := Lib.hid wd0; clear wd0
  have WD4 := Lib.hid wd4; clear wd4
  obtain ⟨w0, hw0⟩ : ∃ w0, ((w.alloc (.cells (cl x) 135)).alloc (.cells #[.int .u32 0, .int .u32 0, .int .u32 0, .int .u32 0] 135)) = w0 := ⟨_, rfl⟩
  rw [hw0] at hb0 hr0 hB0
  have HW0 := Lib.hid hw0; clear hw0
  obtain ⟨a, bb, c, d⟩ := x
  have c0 := hb0.cell 0
  have f := fun i => hb0.frozen i
  have HB0 := Lib.hid hb0; clear hb0
  have HR0 := Lib.hid hr0; clear hr0
  have HBe := Lib.hid hB0; clear hB0
  go_enter Tryz.func130, Tryz.ntmps130
  go_wp2_with fail
  rw [HW0.out]
  go_region_with (first | (go_at_call 144; (refine (WD0.out _ ?_).mono ?_); exact HBe.out.drew; rintro e w1 ⟨rfl, b1⟩; have fr1 := (HB0.out.drew.below b1 HB0.out.lt).frozen 0; have cr1 := (HB0.out.drew.below b1 HB0.out.lt).cell 0))
  all_goals
    obtain ⟨w2, hw2⟩ : ∃ w2, w1.setCell ⟨w.heap.size, 0, none⟩ (.int .u32 ((xo a m).toNat : Int)) = w2 := ⟨_, rfl⟩
    have hb2 : Blk w2 w.heap.size 135 (cl ⟨xo a m, bb, c, d⟩) := hw2 ▸ (HB0.out.drew.below b1 HB0.out.lt).set_ 0 _
    have hr2 : Blk w2 (w.heap.size + 1) 135 #[.int .u32 0, .int .u32 0, .int .u32 0, .int .u32 0] := hw2 ▸ (HR0.out.drew.below b1 HR0.out.lt).far (by simp) _
    have he2 : Below w.heap.size w w2 := hw2 ▸ (HBe.out.drew.trans (b1.mono HBe.out.size)).setCell (p := ⟨w.heap.size, 0, none⟩) (Nat.le_refl _) _
    have HW2 := Lib.hid hw2; clear hw2
    clear b1 fr1 cr1 c0 f
    have c2 := hb2.cell 2
    have f := fun i => hb2.frozen i
    have HB2 := Lib.hid hb2; clear hb2
    have HR2 := Lib.hid hr2; clear hr2
    have HE2 := Lib.hid he2; clear he2
    rw [HW2.out]
    go_wp2_with fail
    go_region_with (first | (go_at_call 144; (refine (WD4.out _ ?_).mono ?_); exact HE2.out.drew; rintro e w3 ⟨rfl, b3⟩; have fr1 := (HB2.out.drew.below b3 HB2.out.lt).frozen 2; have cr1 := (HB2.out.drew.below b3 HB2.out.lt).cell 2))
    all_goals
      obtain ⟨w4, hw4⟩ : ∃ w4, w3.setCell ⟨w.heap.size, 2, none⟩ (.int .u32 ((xo c n).toNat : Int)) = w4 := ⟨_, rfl⟩
      have hb4 : Blk w4 w.heap.size 135 (cl ⟨xo a m, bb, xo c n, d⟩) := hw4 ▸ (HB2.out.drew.below b3 HB2.out.lt).set_ 2 _
      have hr4 : Blk w4 (w.heap.size + 1) 135 #[.int .u32 0, .int .u32 0, .int .u32 0, .int .u32 0] := hw4 ▸ (HR2.out.drew.below b3 HR2.out.lt).far (by simp) _
      have he4 : Below w.heap.size w w4 := hw4 ▸ (HE2.out.drew.trans (b3.mono HE2.out.size)).setCell (p := ⟨w.heap.size, 2, none⟩) (Nat.le_refl _) _
      have HW4 := Lib.hid hw4; clear hw4
      clear b3 fr1 cr1 c2 f
      have c0 := hb4.cell 0
      have c1 := hb4.cell 1
      have c2 := hb4.cell 2
      have c3 := hb4.cell 3
      have HB4 := Lib.hid hb4; clear hb4
      have HR4 := Lib.hid hr4; clear hr4
      have HE4 := Lib.hid he4; clear he4
      rw [HW4.out]
      go_wp2_with fail
      refine (turns_any ⟨xo a m, bb, xo c n, d⟩ 4 (by omega) _).mono ?_
      rintro e w5 ⟨rfl, b5⟩
      have hr5 := HR4.out.below b5 HR4.out.lt
      have he5 := HE4.out.trans (b5.mono HE4.out.size)
      have f := fun i => hr5.frozen i
      have d0 := hr5.cell 0
      have d1 := hr5.cell 1
      have d2 := hr5.cell 2
      have d3 := hr5.cell 3
      have HR5 := Lib.hid hr5; clear hr5
      have HE5 := Lib.hid he5; clear he5 b5
      obtain ⟨y, hy⟩ : ∃ y, turnsW 4 ⟨xo a m, bb, xo c n, d⟩ = y := ⟨_, rfl⟩
      rw [hy]
      have HY := Lib.hid hy; clear hy
      go_wp2_with fail
      have hR := HR5.out.set4 (.int .u32 (y.a.toNat : Int)) (.int .u32 (y.b.toNat : Int)) (.int .u32 (y.c.toNat : Int)) (.int .u32 (y.d.toNat : Int))
      have e0 := hR.cell 0
      have e1 := hR.cell 1
      have e2 := hR.cell 2
      have e3 := hR.cell 3
      have E := below_set4 HE5.out (g := w.heap.size + 1) (by omega) (.int .u32 (y.a.toNat : Int)) (.int .u32 (y.b.toNat : Int)) (.int .u32 (y.c.toNat : Int)) (.int .u32 (y.d.toNat : Int))
      clear hR
      exact bodyPost_ret (v := ag y) (by simp [results, Tryz.results130, go_sem, e0, e1, e2, e3]) rfl ⟨by rw [← HY.out]; rfl, E⟩
end Go.Proofs.YtbggkfomfeeikaaGreatDoor
/-
  A region that draws its order, at the wide fence, is walked as it is everywhere, where nothing in it is deferred.
-/
namespace Go.Proofs.YtbggkfomfeeikaaGreatDoor
open Go
set_option maxRecDepth 100000

section
variable {P : Program} {Q : Exit → Act → World → Prop} {md : Region.Mode} {m : Nat}

theorem rowsIn_of_rows_w {row : String} {args : Array Value} {w : World} {R : Value → World → Prop} (h : Rows P row args w R) : RowsIn Fence.wide m P row args w R :=
  fun c cs _ => let ⟨v, w', r, s⟩ := h c cs; ⟨v, w', r, stepsIn_wide.2 s⟩

theorem uponIn_of_upon_w {o : Oper} {a : Act} {K K' : Act → World → Prop} (hK : ∀ a w, K a w → K' a w) {r : Result Next} (h : o.upon P a K Q r) : o.uponIn Fence.wide m P a K' Q r := by
  cases r with
  | ok x w' =>
    cases x <;> simp only [Oper.upon, Oper.uponIn] at h ⊢
    case value => exact hK _ _ h
    case skip => exact hK _ _ h
    case defer => exact hK _ _ h
    case enter f args =>
      refine ⟨fun h => by simp [Fence.wide] at h, CallsIn.mono (callsIn_wide.2 h) fun e w'' he => ?_⟩
      cases e <;> first | exact hK _ _ he | exact he
    case row row args => exact ⟨fun h => by simp [Fence.wide] at h, (rowsIn_of_rows_w h).mono fun _ _ he => hK _ _ he⟩
  | halt x w' => cases x <;> simp only [Oper.upon, Oper.uponIn] at h ⊢ <;> exact h

theorem wpAnyIn_of_wpAny_w {ops : List Oper} (hnd : noDefer ops = true) (hlo : ¬ LetsOut Q) : ∀ (fuel : Nat) (listed : Array Bool) (a : Act) (w : World), wpAny P md ops.toArray Q fuel listed a w → wpAnyIn Fence.wide m P md ops.toArray Q fuel listed a w
  | 0, _, _, _, h => h
  | fuel + 1, listed, a, w, h => by
    refine ⟨h.1, fun i hi => ?_⟩
    have hop := h.2 i hi
    have ih : ∀ a w, wpAny P md ops.toArray Q fuel (listed.setIfInBounds i true) a w → wpAnyIn Fence.wide m P md ops.toArray Q fuel (listed.setIfInBounds i true) a w := fun a w => wpAnyIn_of_wpAny_w hnd hlo fuel _ a w
    unfold wpOp at hop
    unfold wpOpIn
    cases ho : ops.toArray[i]? with
    | none => rw [ho] at hop; exact ih _ _ hop
    | some o =>
      rw [ho] at hop
      have hmem : o ∈ ops := by
        rw [List.getElem?_toArray] at ho
        exact List.mem_of_getElem? ho
      simp only at hop ⊢
      split
      · rename_i hw
        rw [if_pos hw] at hop
        rcases hop with hop | ⟨_, hl⟩
        · refine ⟨fun _ _ => trivial, ?_⟩
          show Oper.uponIn _ _ _ _ _ _ _ (Sem.run P (o.semAt none a.eval) w)
          rw [Oper.semAt_none]
          exact uponIn_of_upon_w ih hop
        · exact absurd hl hlo
      · rename_i hw
        rw [if_neg hw] at hop
        exact ⟨fun _ _ => trivial, ih _ _ hop⟩

/-- A region that draws its order, in a function that stands in a fence: as everywhere, where nothing is deferred. -/
theorem region_wide {ops : List Oper} {id : Nat} {a : Act} {w : World} (hm : P.follows .mixedOrders = true) (hnd : noDefer ops = true) (hlo : ¬ LetsOut Q)
    (h : wpAny P .any ops.toArray Q ops.length (Array.replicate ops.length false) a w.drew) : (Code.region id ops.toArray true).wpIn Fence.wide m P Q a w :=
  wpIn_region_any hm (by simpa using wpAnyIn_of_wpAny_w (m := m) hnd hlo _ _ _ _ h)

/-- Reads, and one write at the end: the reads in the text's order, then the write. -/
theorem region_wide_tail {ops : List Oper} {id : Nat} {a : Act} {w : World} (n : Nat) (hm : P.follows .mixedOrders = true) (hnd : noDefer ops = true) (hlo : ¬ LetsOut Q) (hB : Region.lexTailB .any ops.toArray n = true)
    (h : wpStill P ops.toArray w.drew (fun a' => wpList P ops.toArray Q (ops.drop n) a' w.drew) (ops.take n) a) : (Code.region id ops.toArray true).wpIn Fence.wide m P Q a w := by
  refine region_wide hm hnd hlo ?_
  simp only [Region.lexTailB, Bool.and_eq_true, decide_eq_true_eq] at hB
  obtain ⟨⟨⟨⟨hsel, hn⟩, hs⟩, hc⟩, hlex⟩ := hB
  have hn' : n < ops.length := by simpa using hn
  have ht : (ops.take n).length = n := by simp; omega
  have hst : HeadInv .any ops.toArray n (Array.replicate ops.toArray.size false) :=
    ⟨by simp, fun j oj _ hl => (by rw [getD_replicate_false] at hl; cases hl), fun t _ ht => getD_in (by simpa using ht) (getD_replicate_false _ _)⟩
  have H := wpAnyL_lex (md := .any) (g := ops.toArray.size - n) hsel hs hc hn (ops.take n) 0 _ a (fun j hj => by rw [ht] at hj; simp [hj]) (by omega) hst (by rw [ht]; exact hlex) h
  have G := wpAny_of_head (Q' := Q) (g := ops.toArray.size - n) (fun listed a' hL => by
    have := wpAny_of_seq (md := .any) (Q' := Q) (ops.drop n) n listed a' w.drew (fun j => by simp) (by simpa using hL.1) hL.2
    simpa using this) _ _ _ H
  have e : (ops.take n).length + (ops.toArray.size - n) = ops.length := by simp; omega
  rw [e] at G
  simpa using G
/-- The same, the world behind the draw under a name. -/
theorem region_wide_named {ops : List Oper} {id : Nat} {a : Act} {w w1 : World} (n : Nat) (hm : P.follows .mixedOrders = true) (hnd : noDefer ops = true) (hlo : ¬ LetsOut Q) (hB : Region.lexTailB .any ops.toArray n = true) (hw : w.drew = w1)
    (h : wpStill P ops.toArray w1 (fun a' => wpList P ops.toArray Q (ops.drop n) a' w1) (ops.take n) a) : (Code.region id ops.toArray true).wpIn Fence.wide m P Q a w := by
  subst hw
  exact region_wide_tail n hm hnd hlo hB h
end
end Go.Proofs.YtbggkfomfeeikaaGreatDoor
/-
  slices.Chunk of a slice of bytes by eights, of a length that eights make up, hands the loop its windows in their order.
-/
namespace Go.Proofs.YtbggkfomfeeikaaGreatDoor
open Go.RowKit Go.Shelf
set_option maxRecDepth 100000
attribute [local go_sem] Oper.semAt_some

/-- What the walk goes on reading: the box of the slice, and that of the size. -/
def ReachC (Bs Bn : Nat) (A : Option Addr) (q cap : Nat) (W : World) : Prop :=
  W.cell? ⟨Bs, 0, none⟩ = some (.slice A (8 * q) cap) ∧ W.cell? ⟨Bn, 0, none⟩ = some (.int .i64 8)

theorem chunk_in (F : Fence) (n : Nat) (h : F.fn 81) (hro : F.round = none) (a : Option Addr) (len cap : Nat) (w : World) :
    CallsIn F n Tryz.prog 81 #[.slice a len cap, .int .i64 8] w fun e w' => e = .returned (.func (.func 113) #[] #[.pointer (some ⟨w.heap.size, 0, none⟩), .pointer (some ⟨w.heap.size + 1, 0, none⟩)]) ∧
      w' = (w.alloc (.cells #[.slice a len cap] 27)).alloc (.cells #[.int .i64 8] 3) := by
  refine callsIn_of_wp Tryz.func81 rfl h ?_ hro
  simp only [Tryz.ntmps81, List.size_toArray, List.length_cons, List.length_nil, Nat.reduceAdd, Nat.reduceSub, Array.replicate_succ, Array.replicate_zero, List.push_toArray, List.append_toArray, List.nil_append, List.cons_append]
  gi_wp2
  go_ret
  exact ⟨rfl, rfl⟩

/-- s[l:], where it is not empty. -/
theorem slice_l (W : World) (g off len cap l : Nat) (hl : l < len) (hc : len ≤ cap) : (Instr.slice 27 (.slice (some ⟨g, off, none⟩) len cap) (some (.int .i64 (l : Int))) none none).run Tryz.prog W = .ok (.slice (some ⟨g, off + l, none⟩) (len - l) (cap - l)) W := by
  rw [run_slice_l W 27 _ _ _ (by kernel_rfl) .i64 _ (by omega) (by omega)]
  have hz : (Go.sizeOf (Tryz.prog.elem 27)).run Tryz.prog W = .ok 1 W := by kernel_rfl
  rw [hz]
  simp [Result.andThen, sliced, Addr.add]
  rw [if_neg (by omega)]
  by_cases h0 : l = 0
  · subst h0; simp
  · rw [if_neg h0]
/-- The window of number x. -/
@[reducible] def win (b off : Nat) (x : Nat) : Array Value := #[.slice (some ⟨b, off + 8 * x, none⟩) 8 8]

set_option maxHeartbeats 2000000 in
theorem chunk1_in (n : Nat) (hn : 1 ≤ n) (l Bs Bn b off q cap : Nat) (A : Option Addr) (hA : 0 < q → A = some ⟨b, off, none⟩) (hqc : 8 * q ≤ cap) (hcm : cap ≤ 9223372036854775807) (J Jx : List (Fin q) → World → Prop)
    (hY : ∀ pre x W, J pre W → pre.length < q → YieldAt Fence.wide (n - 1) Tryz.prog l (win b off x.val) W fun e W' =>
      (e = .returned (.bool true) ∧ J (pre ++ [x]) W' ∧ (ReachC Bs Bn A q cap W → ReachC Bs Bn A q cap W')) ∨ (e = .returned (.bool false) ∧ Jx (pre ++ [x]) W'))
    (hJd : ∀ pre W, J pre W → J pre W.drew)
    (W : World) (hR : ReachC Bs Bn A q cap W) (h0 : J [] W) :
    CallsIn Fence.wide n Tryz.prog 113 #[.func (.yield l) #[] #[], .pointer (some ⟨Bs, 0, none⟩), .pointer (some ⟨Bn, 0, none⟩)] W fun e W' => (∃ v, e = .returned v) ∧
      ((∃ ys, ys.map (·.val) = List.range q ∧ J ys W') ∨ (∃ pre, pre.map (·.val) = List.range pre.length ∧ Jx pre W')) := by
  refine callsIn_of_wp Tryz.func113 rfl trivial ?_ rfl
  simp only [Tryz.ntmps113, List.size_toArray, List.length_cons, List.length_nil, Nat.reduceAdd, Nat.reduceSub, Array.replicate_succ, Array.replicate_zero, List.push_toArray, List.append_toArray, List.nil_append, List.cons_append]
  have hmx : Tryz.prog.follows Departure.mixedOrders = true := by kernel_rfl
  have HR := Lib.hid hR
  clear hR
  gi_wp2
  gi_loopw [4] (fun i wr => ∃ pre : List (Fin q), pre.map (·.val) = List.range pre.length ∧ pre.length ≤ q ∧ i = .int .i64 ((8 * pre.length : Nat) : Int) ∧ J pre wr ∧ ReachC Bs Bn A q cap wr)
    (fun i _ => 8 * q - (intOf i).toNat)
  case atStart => exact ⟨[], rfl, Nat.zero_le _, rfl, h0, HR.out⟩
  case round =>
    obtain ⟨pre, hC, hle, rfl, hJs, hRs⟩ := hrel
    obtain ⟨k, hk⟩ : ∃ k, pre.length = k := ⟨_, rfl⟩
    have hb1 := hRs.1
    have hb2 := hRs.2
    obtain ⟨m, hm⟩ : ∃ m : Nat, 8 * k = m := ⟨_, rfl⟩
    obtain ⟨L, hL⟩ : ∃ L : Nat, 8 * q = L := ⟨_, rfl⟩
    rw [hL] at hb1
    rw [hk, hm]
    by_cases hlt : k < q
    · rw [hA (by omega)] at hb1
      have hmL : m < L := by omega
      have hm8 : m + 8 ≤ L := by omega
      have hLc : L ≤ cap := by omega
      have HRs := Lib.hid hRs; clear hRs
      have HM := Lib.hid hm; clear hm
      have HL := Lib.hid hL; clear hL
      have HK := Lib.hid hk; clear hk
      have h8 : ((m : Int) < (L : Int)) := by omega
      have h80 : (0 : Int) ≤ (m : Int) := by omega
      have h8m : (L : Int) ≤ 9223372036854775807 := by omega
      have hsl := fun W => slice_l W b off L cap m hmL hLc
      have hmin : min (8 : Int) ((L - m : Nat) : Int) = 8 := by omega
      gi_wp2
      refine region_wide_tail 6 hmx (by kernel_rfl) (fun h => by obtain ⟨_, _, ⟨v, hv⟩, _⟩ := h; cases hv) (by kernel_rfl) ?_
      simp only [List.take_succ_cons, List.take_zero, List.drop_succ_cons, List.drop_zero]
      repeat still_step
      refine wpStill_nil ?_
      obtain ⟨fn, tmps, assign, body, hy, hR⟩ := hY pre ⟨k, hlt⟩ wr.drew (hJd _ _ hJs) (by rw [HK.out]; exact hlt)
      have hw : win b off k = #[.slice (some ⟨b, off + m, none⟩) 8 8] := by rw [win, HM.out]
      dsimp only at hy
      rw [hw] at hy
      clear hw
      have HC := Lib.hid hC; clear hC
      go_wp2
      gi_wp2
      refine hR.mono ?_
      rintro e W3 (⟨rfl, hJ3, hk3⟩ | ⟨rfl, hJx3⟩)
      · have hr3 := hk3 HRs.out
        have hb3 := hr3.2
        have HR3 := Lib.hid hr3; clear hr3 hk3
        gi_wp2
        go_roundw
        case rel => exact ⟨pre ++ [⟨k, hlt⟩], by simp [HC.out, List.range_succ, HK.out], by simp; rw [HK.out]; omega, by simp [HK.out]; have := HM.out; omega, hJ3, HR3.out⟩
        case measure => simp [intOf]; have := HM.out; have := HL.out; omega
      · gi_wp2
        refine bodyPost_ret (results_none rfl _ _ _) rfl ?_
        exact ⟨⟨_, rfl⟩, .inr ⟨_, by simp [HC.out, List.range_succ, HK.out], hJx3⟩⟩
    · have hkq : k = q := by omega
      have hmL : m = L := by omega
      rw [hmL]
      have HRs := Lib.hid hRs; clear hRs
      have HM := Lib.hid hm; clear hm
      have HL := Lib.hid hL; clear hL
      have HK := Lib.hid hk; clear hk
      have HKQ := Lib.hid hkq; clear hkq
      have HC := Lib.hid hC; clear hC
      clear hmL
      gi_wp2
      go_end0
      exact ⟨⟨_, rfl⟩, .inl ⟨pre, by rw [HC.out, HK.out, HKQ.out], hJs⟩⟩

theorem reachC_putObj {Bs Bn : Nat} {A : Option Addr} {q cap : Nat} {W : World} (l : Nat) (o o' : Obj) (h : W.heap[l]? = some o) (ho : o.isCells = false) (hR : ReachC Bs Bn A q cap W) : ReachC Bs Bn A q cap (W.putObj l o') := by
  have hk : ∀ r, some l = some r → ∃ o : Obj, W.heap[r]? = some o ∧ o.isCells = false := fun r e => by cases e; exact ⟨_, h, ho⟩
  exact ⟨cell_kept hR.1 (grownBy_putObj' W l o') hk, cell_kept hR.2 (grownBy_putObj' W l o') hk⟩

theorem stopsC (n : Nat) (hn : 1 ≤ n) (Bs Bn b off q cap : Nat) (A : Option Addr) (hA : 0 < q → A = some ⟨b, off, none⟩) (hqc : 8 * q ≤ cap) (hcm : cap ≤ 9223372036854775807) (w : World) (hBs : Bs < w.heap.size) (hBn : Bn < w.heap.size) (hR : ReachC Bs Bn A q cap w) :
    SeqStopsK Fence.wide n Tryz.prog 113 #[.pointer (some ⟨Bs, 0, none⟩), .pointer (some ⟨Bn, 0, none⟩)] (fun x : Fin q => win b off x.val) (fun W W' => ReachC Bs Bn A q cap W → ReachC Bs Bn A q cap W')
      (fun ys => ys.map (·.val) = List.range q) (fun pre => pre.map (·.val) = List.range pre.length) q w := fun l J Jx W hW hJ _ hY h0 =>
  chunk1_in n hn l Bs Bn b off q cap A hA hqc hcm J Jx hY (fun s W1 h => hJ s W1 W1.drew none h (only_drew (World.grownBy.refl W1 none)) (fun r e => by cases e)) W
    ⟨(hW.cell (p := ⟨Bs, 0, none⟩) hBs).trans hR.1, (hW.cell (p := ⟨Bn, 0, none⟩) hBn).trans hR.2⟩ h0
end Go.Proofs.YtbggkfomfeeikaaGreatDoor
/-
  mix.Four, whatever bytes it is handed, answers the four words of these bytes; nothing that was there is written.
-/
namespace Go.Proofs.YtbggkfomfeeikaaGreatDoor
open Go.RowKit Go.Shelf
set_option maxRecDepth 100000
attribute [local go_sem] Oper.semAt_some

/-- b[:h], b nil or not. -/
theorem slice_to (W : World) (a : Option Addr) (len cap h : Nat) (hc : h ≤ cap) : (Instr.slice 27 (.slice a len cap) none (some (.int .i64 (h : Int))) none).run Tryz.prog W = .ok (.slice a h cap) W := by
  rw [run_slice_h W 27 _ _ _ (by kernel_rfl) .i64 _ (by omega) (by omega)]
  have hz : (Go.sizeOf (Tryz.prog.elem 27)).run Tryz.prog W = .ok 1 W := by kernel_rfl
  rw [hz]
  cases a <;> simp [Result.andThen, sliced, Addr.add]
/-- b[l:], b nil or not. -/
theorem slice_from (a : Option Addr) (len cap l : Nat) (hl : l ≤ len) (hc : len ≤ cap) : ∃ A', (∀ W : World, (Instr.slice 27 (.slice a len cap) (some (.int .i64 (l : Int))) none none).run Tryz.prog W = .ok (.slice A' (len - l) (cap - l)) W) ∧ (l < len → ∀ b off, a = some ⟨b, off, none⟩ → A' = some ⟨b, off + l, none⟩) := by
  have hz : ∀ W : World, (Go.sizeOf (Tryz.prog.elem 27)).run Tryz.prog W = .ok 1 W := fun W => by kernel_rfl
  cases a with
  | none =>
    refine ⟨none, fun W => ?_, fun _ b off h => by cases h⟩
    rw [run_slice_l W 27 _ _ _ (by kernel_rfl) .i64 _ (by omega) (by omega), hz]
    simp [Result.andThen, sliced]
    try omega
  | some x =>
    refine ⟨if cap = l then some x else some (if l = 0 then x else x.add l), fun W => ?_, fun h b off e => ?_⟩
    · rw [run_slice_l W 27 _ _ _ (by kernel_rfl) .i64 _ (by omega) (by omega), hz]
      have e0 : (if l = 0 then x else x.add l) = x.add l := by
        by_cases h0 : l = 0
        · subst h0; simp [Addr.add]
        · rw [if_neg h0]
      simp [Result.andThen, sliced, e0]
    · cases e
      rw [if_neg (by omega)]
      by_cases h0 : l = 0
      · subst h0; simp
      · rw [if_neg h0]; unfold Addr.add; rw [if_neg h0]

/-- Eight bytes of a text, one byte 1 and noughts behind it. -/
def octP (s : List UInt8) (j : Nat) : List UInt8 := [byteP s j, byteP s (j + 1), byteP s (j + 2), byteP s (j + 3), byteP s (j + 4), byteP s (j + 5), byteP s (j + 6), byteP s (j + 7)]
theorem octP_get (s : List UInt8) (j i : Nat) (h : i < (octP s j).length) : (octP s j)[i] = byteP s (j + i) := by
  have h8 : i < 8 := h
  have : i = 0 ∨ i = 1 ∨ i = 2 ∨ i = 3 ∨ i = 4 ∨ i = 5 ∨ i = 6 ∨ i = 7 := by omega
  rcases this with rfl | rfl | rfl | rfl | rfl | rfl | rfl | rfl <;> rfl
theorem octP_lo (s : List UInt8) (j : Nat) : (octP s j).take 4 = quadP s j := rfl
theorem octP_hi (s : List UInt8) (j : Nat) : ((octP s j).drop 4).take 4 = quadP s (j + 4) := rfl

/-- The words behind these pieces, whichever they are. -/
def foldP (s : List UInt8) (pre : List Nat) : W4 := pre.foldl (fun x k => stepW x (wordP s (8 * k)) (wordP s (8 * k + 4))) ⟨1, 2, 3, 4⟩
theorem foldP_snoc (s : List UInt8) (pre : List Nat) (k : Nat) : foldP s (pre ++ [k]) = stepW (foldP s pre) (wordP s (8 * k)) (wordP s (8 * k + 4)) := by simp [foldP]
theorem foldP_range (s : List UInt8) : ∀ k, foldP s (List.range k) = behind s k
  | 0 => rfl
  | k + 1 => by rw [List.range_succ, foldP_snoc, foldP_range s k]; rfl

theorem vals_length (s : List UInt8) : (vals s).length = s.length := by simp [vals]
/-- What copy lays at the beginning of eight noughts, and one byte 1 behind it. -/
theorem octP_laid (s : List UInt8) (L r : Nat) (hr : r < 8) (hs : s.length = L + r) :
    ((splice (List.replicate 8 (Value.int .u8 0)) 0 (vals (s.drop L))).toArray).setIfInBounds r (.int .u8 1) = (vals (octP s L)).toArray := by
  have hcl : (vals (s.drop L)).length = r := by rw [vals_length, List.length_drop]; omega
  obtain ⟨Z, hZ⟩ : ∃ Z, List.replicate 8 (Value.int .u8 0) = Z := ⟨_, rfl⟩
  have hZl : Z.length = 8 := by rw [← hZ]; rfl
  have hZg : ∀ i (h : i < Z.length), Z[i] = .int .u8 0 := by subst hZ; intro i h; exact List.getElem_replicate _
  rw [hZ]
  clear hZ
  have hlen : (splice Z 0 (vals (s.drop L))).length = 8 := by rw [length_splice _ _ _ (by omega), hZl]
  have ho : (vals (octP s L)).length = 8 := by rw [vals_length]; rfl
  apply Array.ext
  · rw [Array.size_setIfInBounds, List.size_toArray, List.size_toArray, hlen, ho]
  intro i h1 h2
  have hi8 : i < (octP s L).length := by rw [List.size_toArray, vals_length] at h2; exact h2
  have hi9 : i < 8 := hi8
  have hR : ((vals (octP s L)).toArray)[i] = .int .u8 ((byteP s (L + i)).toNat : Int) := by
    have hget := octP_get s L i hi8
    show (List.map (fun x : UInt8 => Value.int .u8 (x.toNat : Int)) (octP s L))[i]'(by rw [List.length_map]; exact hi8) = _
    rw [List.getElem_map, hget]
  refine Eq.trans ?_ hR.symm
  rw [Array.getElem_setIfInBounds (by rw [List.size_toArray, hlen]; exact hi9)]
  by_cases e : r = i
  · subst e
    rw [if_pos rfl]
    unfold byteP
    rw [dif_neg (by omega), if_pos (by omega)]
    rfl
  · rw [if_neg e]
    simp only [List.getElem_toArray, splice, List.take_zero, List.nil_append, Nat.zero_add]
    by_cases hlt : i < r
    · rw [List.getElem_append_left (by rw [hcl]; exact hlt)]
      simp only [vals, List.getElem_map, List.getElem_drop]
      unfold byteP
      rw [dif_pos (by omega)]
    · rw [List.getElem_append_right (by rw [hcl]; omega)]
      simp only [List.getElem_drop, hZg]
      unfold byteP
      rw [dif_neg (by omega), if_neg (by omega)]
      rfl

/-- What the loop of Four keeps: the block of x, that of the result, and what lay below. -/
def FourI (s : List UInt8) (g q : Nat) (w : World) (pre : List (Fin q)) (W : World) : Prop :=
  (Blk W (g + 1) 135 (cl (foldP s (pre.map (·.val)))) ∧ Blk W g 135 #[.int .u32 0, .int .u32 0, .int .u32 0, .int .u32 0]) ∧ Below g w W

theorem keepsOthers_below {W W' : World} (h : Below W.heap.size W W') : KeepsOthers W W' := ⟨h.size, fun k _ hk _ => (h.block k (Array.getElem?_eq_some_iff.1 hk).1).trans hk⟩
theorem keepsOthers_set4 (W : World) (g : Nat) (v0 v1 v2 v3 : Value) : KeepsOthers W ((((W.setCell ⟨g, 0, none⟩ v0).setCell ⟨g, 1, none⟩ v1).setCell ⟨g, 2, none⟩ v2).setCell ⟨g, 3, none⟩ v3) :=
  (((KeepsOthers.setCell _ _ _).trans (KeepsOthers.setCell _ _ _)).trans (KeepsOthers.setCell _ _ _)).trans (KeepsOthers.setCell _ _ _)
theorem cell_set4 {W : World} {g : Nat} {p : Addr} (hp : p.block ≠ g) (v0 v1 v2 v3 : Value) : ((((W.setCell ⟨g, 0, none⟩ v0).setCell ⟨g, 1, none⟩ v1).setCell ⟨g, 2, none⟩ v2).setCell ⟨g, 3, none⟩ v3).cell? p = W.cell? p := by
  have hne : ∀ i, (⟨g, i, none⟩ : Addr) ≠ p := fun i e => hp (by rw [← e])
  rw [World.cell?_setCell_other _ _ _ _ (hne 3), World.cell?_setCell_other _ _ _ _ (hne 2), World.cell?_setCell_other _ _ _ _ (hne 1), World.cell?_setCell_other _ _ _ _ (hne 0)]
theorem reachC_step {Bs Bn g : Nat} {A : Option Addr} {q cap : Nat} {W W1 : World} (hBs : Bs ≠ g) (hBn : Bn ≠ g) (hb : Below W.heap.size W W1) (v0 v1 v2 v3 : Value) (hR : ReachC Bs Bn A q cap W) :
    ReachC Bs Bn A q cap ((((W1.setCell ⟨g, 0, none⟩ v0).setCell ⟨g, 1, none⟩ v1).setCell ⟨g, 2, none⟩ v2).setCell ⟨g, 3, none⟩ v3) := by
  have h1 := World.block_lt_of_cell? W _ hR.1
  have h2 := World.block_lt_of_cell? W _ hR.2
  exact ⟨(cell_set4 (p := ⟨Bs, 0, none⟩) hBs _ _ _ _).trans ((hb.cell h1).trans hR.1), (cell_set4 (p := ⟨Bn, 0, none⟩) hBn _ _ _ _).trans ((hb.cell h2).trans hR.2)⟩
theorem blk_own {β : Type} (B : Nat) (t : TypeId) (f : β → Array Value) : Own (fun s W => Blk W B t (f s)) := fun s X Y row hs hg hrow =>
  Blk.grown hs hg (fun e' => by obtain ⟨o, ho, hc⟩ := hrow B e'.symm; rw [show X.heap[B]? = _ from hs] at ho; cases ho; cases hc)

set_option maxHeartbeats 2000000 in
theorem four_in (m : Nat) (hn : 3 ≤ m) (a : Option Addr) (len cap : Nat) (s : List UInt8) (w : World) (hA : Bsl w w.heap.size a len cap s) (hlen : len ≤ 4294967295) :
    CallsIn Fence.wide m Tryz.prog 99 #[.slice a len cap] w fun e W' => e = .returned (ag (fourW s)) ∧ Below w.heap.size w W' := by
  have hro : Fence.wide.round = none := rfl
  have hmx : Tryz.prog.follows Departure.mixedOrders = true := by kernel_rfl
  obtain ⟨q, hq⟩ : ∃ q, len / 8 = q := ⟨_, rfl⟩
  obtain ⟨r, hr⟩ : ∃ r, len % 8 = r := ⟨_, rfl⟩
  obtain ⟨L, hL⟩ : ∃ L, 8 * q = L := ⟨_, rfl⟩
  have hLl : L ≤ len := by omega
  have hlc := hA.2.1
  have hcm := hA.2.2.1
  have e1 : (len : Int) % 8 = (r : Int) := by omega
  have e2 : (len : Int) - (r : Int) = (L : Int) := by omega
  have hto := fun W => slice_to W a len cap L (by omega)
  obtain ⟨A', hfrom, hA'⟩ := slice_from a len cap L hLl hlc
  have i0 : (0 : Int) ≤ len := by omega
  have i1 : (len : Int) ≤ 4294967295 := by omega
  have i2 : (0 : Int) ≤ (r : Int) := by omega
  have i3 : (r : Int) ≤ 7 := by omega
  have HA := Lib.hid hA; clear hA
  have HA' := Lib.hid hA'; clear hA'
  have HQ := Lib.hid hq; clear hq
  have HR := Lib.hid hr; clear hr
  have HL := Lib.hid hL; clear hL
  have HFrom := Lib.hid hfrom; clear hfrom
  refine callsIn_of_wp_marks Tryz.func99 rfl trivial ?_ hro
  simp only [Tryz.ntmps99, List.size_toArray, List.length_cons, List.length_nil, Nat.reduceAdd, Nat.reduceSub, Array.replicate_succ, Array.replicate_zero, List.push_toArray, List.append_toArray, List.nil_append, List.cons_append]
  have hd : 1 ≤ m := by omega
  gi_wp2_with (refine ⟨trivial, ?_⟩; (gi_at_call 81; refine (chunk_in Fence.wide (m - 1) trivial hro _ _ _ _).mono ?_; rintro e w' ⟨rfl, rfl⟩))
  obtain ⟨g, hg⟩ : ∃ g, w.heap.size = g := ⟨_, rfl⟩
  obtain ⟨W0, hW0⟩ : ∃ W0, ((((w.alloc (Obj.cells #[Value.int IntKind.u32 0, Value.int IntKind.u32 0, Value.int IntKind.u32 0, Value.int IntKind.u32 0] 135)).alloc (Obj.cells #[Value.int IntKind.u32 1, Value.int IntKind.u32 2, Value.int IntKind.u32 3, Value.int IntKind.u32 4] 135)).alloc (Obj.cells #[Value.slice a L cap] 27)).alloc (Obj.cells #[Value.int IntKind.i64 8] 3)) = W0 := ⟨_, rfl⟩
  have hsz : W0.heap.size = g + 4 := by rw [← hW0]; simp [hg]
  have hB0 : Below g w W0 := by rw [← hW0, ← hg]; exact ((((Below.refl _ w).alloc (Nat.le_refl _) _).alloc (by simp) _).alloc (by simp; omega) _).alloc (by simp; omega) _
  have b0 : Blk W0 g 135 #[.int .u32 0, .int .u32 0, .int .u32 0, .int .u32 0] := by rw [← hW0, ← hg]; exact (((Blk.new w _ _).alloc _).alloc _).alloc _
  have b1 : Blk W0 (g + 1) 135 (cl ⟨1, 2, 3, 4⟩) := by
    have := ((Blk.new (w.alloc (Obj.cells #[Value.int IntKind.u32 0, Value.int IntKind.u32 0, Value.int IntKind.u32 0, Value.int IntKind.u32 0] 135)) 135 (cl ⟨1, 2, 3, 4⟩)).alloc (Obj.cells #[Value.slice a L cap] 27)).alloc (Obj.cells #[Value.int IntKind.i64 8] 3)
    rw [World.size_alloc, hg] at this
    rw [← hW0]
    exact this
  have b2 : Blk W0 (g + 2) 27 #[.slice a L cap] := by
    have := (Blk.new ((w.alloc (Obj.cells #[Value.int IntKind.u32 0, Value.int IntKind.u32 0, Value.int IntKind.u32 0, Value.int IntKind.u32 0] 135)).alloc (Obj.cells (cl ⟨1, 2, 3, 4⟩) 135)) 27 #[.slice a L cap]).alloc (Obj.cells #[Value.int IntKind.i64 8] 3)
    rw [World.size_alloc, World.size_alloc, hg] at this
    rw [← hW0]
    exact this
  have b3 : Blk W0 (g + 3) 3 #[.int .i64 8] := by
    have := (Blk.new (((w.alloc (Obj.cells #[Value.int IntKind.u32 0, Value.int IntKind.u32 0, Value.int IntKind.u32 0, Value.int IntKind.u32 0] 135)).alloc (Obj.cells (cl ⟨1, 2, 3, 4⟩) 135)).alloc (Obj.cells #[Value.slice a L cap] 27)) 3 #[.int .i64 8])
    rw [World.size_alloc, World.size_alloc, World.size_alloc, hg] at this
    rw [← hW0]
    exact this
  obtain ⟨b, off, hbo⟩ : ∃ b off, 0 < len → a = some ⟨b, off, none⟩ ∧ b < g ∧ ∀ i (h : i < s.length), w.cell? ⟨b, off + i, none⟩ = some (.int .u8 ((s[i]).toNat : Int)) := by
    rcases Nat.eq_zero_or_pos len with h0 | h0
    · exact ⟨0, 0, fun h => by omega⟩
    · obtain ⟨b, off, h1, h2, h3⟩ := HA.out.2.2.2.2 h0
      exact ⟨b, off, fun _ => ⟨h1, by omega, h3⟩⟩
  have hqL : 8 * q = L := HL.out
  rw [hW0, hg]
  have hR : ReachC (g + 2) (g + 3) a q cap W0 := ⟨by rw [hqL]; exact b2.cell 0, b3.cell 0⟩
  refine wpIn_rangeFunc_ownG hro hd (gf := 113) (lb := #[.pointer (some ⟨g + 1 + 1, 0, none⟩), .pointer (some ⟨g + 1 + 1 + 1, 0, none⟩)]) rfl trivial (enters_of Tryz.func113 (by kernel_rfl) rfl)
    (stopsC (m - 1) (by omega) (g + 1 + 1) (g + 1 + 1 + 1) b off q cap a (fun h => (hbo (by omega)).1) (by omega) (by unfold maxLen at hcm; omega) W0 (by omega) (by omega) hR) (fun h k r => k (h r)) (fun W l o o' _ h ho _ => reachC_putObj l o o' h ho) (Below.refl _ _) (fun _ => rfl)
    (FourI s g q w) (fun _ _ _ => False) ?hI (fun _ _ _ _ _ hs _ _ => hs) ⟨⟨b1, b0⟩, hB0⟩
    (fun x => { tmps := #[Value.slice a len cap, undef, Value.pointer (some { block := g, off := 0 }), Value.pointer (some { block := g + 1, off := 0 }), Value.int IntKind.i64 ↑L, .slice (some ⟨b, off + 8 * x.val, none⟩) 8 8, undef, Value.agg #[Value.int IntKind.u32 1, Value.int IntKind.u32 2, Value.int IntKind.u32 3, Value.int IntKind.u32 4], Value.slice a len cap, Value.int IntKind.i64 ↑len, Value.slice a len cap, Value.int IntKind.i64 ↑len, Value.int IntKind.i64 ↑r, Value.int IntKind.i64 ↑L, Value.slice a len cap, Value.int IntKind.i64 ↑L, Value.slice a L cap, Value.func (Fn.func 113) #[] #[Value.pointer (some { block := g + 1 + 1, off := 0 }), Value.pointer (some { block := g + 1 + 1 + 1, off := 0 })], .slice (some ⟨b, off + 8 * x.val, none⟩) 8 8, undef, undef, undef, undef, undef, undef, undef, undef, undef, undef, undef, undef, undef, undef, undef, undef, undef, undef, undef, undef, undef], defers := [] }) ?assign ?body ?done ?stop
  case hI => exact OwnFrom.and (OwnFrom.and ((blk_own _ _ _).from _) ((blk_own _ _ _).from _)) (ownFrom_below (by omega) (by omega))
  case assign =>
    intro l x W K hK
    gi_wp2
    exact hK
  case body =>
    rintro l pre x W ⟨⟨hx, hr0⟩, hB⟩ _
    have c0 := hx.cell 0
    have c1 := hx.cell 1
    have c2 := hx.cell 2
    have c3 := hx.cell 3
    have hbt := hbo (by have := x.isLt; omega)
    have htk := take_any (foldP s (pre.map (·.val))) b (off + 8 * x.val) 8 (octP s (8 * x.val)) rfl (by omega) (by omega) W (Nat.lt_of_lt_of_le hbt.2.1 (by rw [← hg]; exact hB.size)) (fun i hi => by
      have hi8 : i < 8 := hi
      have hxq := x.isLt
      have hls : s.length = len := HA.out.1
      rw [octP_get, Nat.add_assoc, hB.cell (p := ⟨b, off + (8 * x.val + i), none⟩) hbt.2.1, hbt.2.2 (8 * x.val + i) (by omega)]
      unfold byteP
      rw [dif_pos (by omega)])
    rw [octP_lo, octP_hi] at htk
    have HX := Lib.hid hx; clear hx
    have HR0 := Lib.hid hr0; clear hr0
    have HB := Lib.hid hB; clear hB
    have HT := Lib.hid htk; clear htk
    have HBO := Lib.hid hbo; clear hbo
    have HBT := Lib.hid hbt; clear hbt
    have hd2 : 1 ≤ m - 1 - 1 := by omega
    gi_wp2
    refine ⟨trivial, ?_⟩
    refine (CallsIn.inRound l (callsIn_wide.2 HT.out)).mono ?_
    rintro e W1 ⟨rfl, bb⟩
    have hx1 := HX.out.below bb HX.out.lt
    have hr1 := HR0.out.below bb HR0.out.lt
    have hb1 := HB.out.trans (bb.mono (by rw [← hg]; exact HB.out.size))
    have f := fun i => hx1.frozen i
    have d0 := hx1.cell 0
    have d1 := hx1.cell 1
    have d2 := hx1.cell 2
    have d3 := hx1.cell 3
    have HX1 := Lib.hid hx1; clear hx1
    have HR1 := Lib.hid hr1; clear hr1
    have HB1 := Lib.hid hb1; clear hb1
    have HBB := Lib.hid bb; clear bb
    clear c0 c1 c2 c3
    have hy : foldP s ((pre ++ [x]).map (·.val)) = stepW (foldP s (pre.map (·.val))) (BitVec.ofNat 32 (leN (quadP s (8 * x.val)))) (BitVec.ofNat 32 (leN (quadP s (8 * x.val + 4)))) := by rw [List.map_append, List.map_cons, List.map_nil, foldP_snoc]; rfl
    obtain ⟨y, hy'⟩ : ∃ y, stepW (foldP s (pre.map (·.val))) (BitVec.ofNat 32 (leN (quadP s (8 * x.val)))) (BitVec.ofNat 32 (leN (quadP s (8 * x.val + 4)))) = y := ⟨_, rfl⟩
    rw [hy'] at hy ⊢
    clear hy' HT
    have HY := Lib.hid hy; clear hy
    gi_wp2
    exact ⟨((keepsOthers_below HBB.out).trans (keepsOthers_set4 _ _ _ _ _ _)).from _, fun hr => reachC_step (by omega) (by omega) HBB.out _ _ _ _ hr,
      ⟨by rw [HY.out]; exact HX1.out.set4 _ _ _ _, (((HR1.out.far (by simp) _).far (by simp) _).far (by simp) _).far (by simp) _⟩, below_set4 HB1.out (by omega) _ _ _ _⟩
  case done =>
    rintro D ys W hD hC ⟨⟨hx, hr0⟩, hB⟩ hK
    have hC' : ys.map (·.val) = List.range q := hC
    rw [hC', foldP_range] at hx
    clear hC hC'
    have hD' : g + 4 ≤ D := by omega
    have HX := Lib.hid hx; clear hx
    have HR0 := Lib.hid hr0; clear hr0
    have HB := Lib.hid hB; clear hB
    have HK := Lib.hid hK; clear hK
    have HBO := Lib.hid hbo; clear hbo
    have hfr := HFrom.out
    have HSZ := Lib.hid hsz; clear hsz
    have HW0 := Lib.hid hW0; clear hW0
    have HG := Lib.hid hg; clear hg
    have HQL := Lib.hid hqL; clear hqL
    have HB0 := Lib.hid hB0; clear hB0 b0 b1 b2 b3 hR
    gi_wp2
    obtain ⟨t, ht⟩ : ∃ t, W.heap.size = t := ⟨_, rfl⟩
    obtain ⟨W1, hW1⟩ : ∃ W1, (W.alloc (Obj.cells #[Value.int IntKind.u8 0, Value.int IntKind.u8 0, Value.int IntKind.u8 0, Value.int IntKind.u8 0, Value.int IntKind.u8 0, Value.int IntKind.u8 0, Value.int IntKind.u8 0, Value.int IntKind.u8 0] 165)).drew = W1 := ⟨_, rfl⟩
    have hbt : Blk W1 t 165 (List.replicate 8 (Value.int .u8 0)).toArray := by rw [← hW1, ← ht]; exact (Blk.new W _ _).drew
    have hx1 : Blk W1 (g + 1) 135 (cl (behind s q)) := by rw [← hW1]; exact (HX.out.alloc _).drew
    have hr1 : Blk W1 g 135 #[.int .u32 0, .int .u32 0, .int .u32 0, .int .u32 0] := by rw [← hW1]; exact (HR0.out.alloc _).drew
    have hgW : g ≤ W.heap.size := by rw [← HG.out]; exact HB.out.size
    have hb1 : Below g w W1 := by rw [← hW1]; exact (HB.out.alloc hgW _).drew
    have hk1 : W1.heap[D]? = some (.deferred (some [])) := by
      rw [← hW1]
      exact (Below.heap_alloc W _ D (Array.getElem?_eq_some_iff.1 HK.out).1).trans HK.out
    have hst : W1.heap.size = t + 1 := by rw [← hW1, ← ht]; simp
    have hgt : g + 1 < t := by rw [← ht]; exact HX.out.lt
    have hDt : D < t := by rw [← ht]; exact (Array.getElem?_eq_some_iff.1 HK.out).1
    rw [ht]
    have HW1 := Lib.hid hW1; clear hW1
    have HT := Lib.hid ht; clear ht
    have HBT := Lib.hid hbt; clear hbt
    have HX1 := Lib.hid hx1; clear hx1
    have HR1 := Lib.hid hr1; clear hr1
    have HB1 := Lib.hid hb1; clear hb1
    have HK1 := Lib.hid hk1; clear hk1
    have HST := Lib.hid hst; clear hst
    refine region_wide_named 4 hmx (by kernel_rfl) (fun h => by obtain ⟨_, _, h, _⟩ := h; cases h) (by kernel_rfl) HW1.out ?_
    simp only [List.take_succ_cons, List.take_zero, List.drop_succ_cons, List.drop_zero]
    repeat still_step
    refine wpStill_nil ?_
    have hls : s.length = L + r := by rw [HA.out.1]; have := HQ.out; have := HR.out; have := HQL.out; omega
    have hcl : (vals (s.drop L)).length = r := by rw [vals_length, List.length_drop]; omega
    refine wpList_copy_splice rfl (.tmp 22) (.tmp 25) 27 27 rfl 5 Tryz.underlying27 (by kernel_rfl) (some ⟨t, 0, none⟩) A' 8 8 (len - L) (cap - L) rfl rfl t 0 (List.replicate 8 (.int .u8 0)) 165 HBT.out (vals (s.drop L)) ?_ ?_ ?_ ?_ t W1 (Below.refl _ _) (Nat.le_refl _) ?_
    · rw [hcl]
      have : len - L = r := by have := HA.out.1; omega
      rw [this]
      show r = min r 8
      omega
    · intro hpos
      have hlp : L < len := by have := HA.out.1; omega
      obtain ⟨ea, hbg, hc⟩ := HBO.out (by omega)
      refine ⟨rfl, ⟨b, off + L, none⟩, HA'.out hlp b off ea, fun j v hv => ?_⟩
      obtain ⟨hj, rfl⟩ := vals_get hv
      have hj' : L + j < s.length := by rw [List.length_drop] at hj; omega
      have e1 : (⟨b, off + L, none⟩ : Addr).add j = ⟨b, off + (L + j), none⟩ := by
        unfold Addr.add
        by_cases h0 : j = 0
        · subst h0; simp
        · rw [if_neg h0]; simp; omega
      rw [e1, HB1.out.cell (p := ⟨b, off + (L + j), none⟩) hbg, hc (L + j) hj']
      simp only [List.getElem_drop]
    · rw [hcl]; simp; omega
    · intro v hv
      obtain ⟨y, _, rfl⟩ := List.mem_map.1 hv
      rfl
    · intro W2 hh hb2
      rw [hcl]
      have hbt2 : Blk W2 t 165 (splice (List.replicate 8 (Value.int .u8 0)) 0 (vals (s.drop L))).toArray := hh.out
      have hsp : (splice (List.replicate 8 (Value.int .u8 0)) 0 (vals (s.drop L))).length = 8 := by rw [length_splice _ _ _ (by rw [hcl]; simp; omega)]; rfl
      have hlr : ∃ u, W2.cell? ⟨t, r, none⟩ = some u := by
        rw [hbt2.cell r]
        exact ⟨_, Array.getElem?_eq_getElem (by rw [List.size_toArray, hsp]; omega)⟩
      obtain ⟨u, hu⟩ := hlr
      have hfz := hbt2.frozen r
      have hset := octP_laid s L r (by omega) hls
      have j0 : (r : Int) < 8 := by omega
      have hx2 := HX1.out.below hb2 hgt
      have hr2 := HR1.out.below hb2 (by omega)
      have hbw2 : Below g w W2 := HB1.out.trans (hb2.mono (by omega))
      have hk2 : W2.heap[D]? = some (.deferred (some [])) := (hb2.block D hDt).trans HK1.out
      have HX2 := Lib.hid hx2; clear hx2
      have HR2 := Lib.hid hr2; clear hr2
      have HBW2 := Lib.hid hbw2; clear hbw2
      have HK2 := Lib.hid hk2; clear hk2
      have HBT2 := Lib.hid hbt2; clear hbt2
      have HSET := Lib.hid hset; clear hset
      have HLS := Lib.hid hls; clear hls
      have HCL := Lib.hid hcl; clear hcl
      have HB2 := Lib.hid hb2; clear hb2
      clear hsp hh
      go_wp2
      gi_wp2
      obtain ⟨W3, hW3⟩ : ∃ W3, (W2.setCell ⟨t, r, none⟩ (Value.int IntKind.u8 1)).drew = W3 := ⟨_, rfl⟩
      have hbt3 : Blk W3 t 165 (vals (octP s L)).toArray := by rw [← hW3, ← HSET.out]; exact (HBT2.out.set_ r _).drew
      have hx3 : Blk W3 (g + 1) 135 (cl (behind s q)) := by rw [← hW3]; exact (HX2.out.far (by simp; omega) _).drew
      have hr3 : Blk W3 g 135 #[.int .u32 0, .int .u32 0, .int .u32 0, .int .u32 0] := by rw [← hW3]; exact (HR2.out.far (by simp; omega) _).drew
      have hb3 : Below g w W3 := by rw [← hW3]; exact (HBW2.out.setCell (p := ⟨t, r, none⟩) (by simp; omega) _).drew
      have hk3 : W3.heap[D]? = some (.deferred (some [])) := by rw [← hW3]; exact (Below.heap_setCell W2 ⟨t, r, none⟩ _ D (by simp; omega)).trans HK2.out
      have htk := take_any (behind s q) t 0 8 (octP s L) rfl (by omega) (by omega) W3 hbt3.lt (fun i hi => by
        have hi8 : i < 8 := hi
        rw [Nat.zero_add, hbt3.cell i, List.getElem?_toArray]
        show (List.map _ (octP s L))[i]? = _
        rw [List.getElem?_map, List.getElem?_eq_getElem hi]
        rfl)
      rw [octP_lo, octP_hi] at htk
      have hst : stepW (behind s q) (BitVec.ofNat 32 (leN (quadP s L))) (BitVec.ofNat 32 (leN (quadP s (L + 4)))) = behind s (q + 1) := by rw [← HQL.out]; rfl
      rw [hst] at htk
      have c0 := hx3.cell 0
      have c1 := hx3.cell 1
      have c2 := hx3.cell 2
      have c3 := hx3.cell 3
      have HW3 := Lib.hid hW3; clear hW3
      have HTK := Lib.hid htk; clear htk hst
      have HX3 := Lib.hid hx3; clear hx3
      have HR3 := Lib.hid hr3; clear hr3
      have HB3 := Lib.hid hb3; clear hb3
      have HK3 := Lib.hid hk3; clear hk3
      clear hbt3 hfz hu
      refine region_wide_named 2 hmx (by kernel_rfl) (fun h => by obtain ⟨_, _, h, _⟩ := h; cases h) (by kernel_rfl) HW3.out ?_
      simp only [List.take_succ_cons, List.take_zero, List.drop_succ_cons, List.drop_zero]
      repeat still_step
      refine wpStill_nil ?_
      go_wp2_with fail
      refine HTK.out.mono ?_
      rintro e W4 ⟨rfl, b4⟩
      obtain ⟨y, hy⟩ : ∃ y, behind s (q + 1) = y := ⟨_, rfl⟩
      rw [hy]
      have hx4 := HX3.out.below b4 HX3.out.lt
      have hr4 := HR3.out.below b4 HR3.out.lt
      have hb4 : Below g w W4 := HB3.out.trans (b4.mono (by rw [← HG.out]; exact HB3.out.size))
      have hk4 : W4.heap[D]? = some (.deferred (some [])) := (b4.block D (Array.getElem?_eq_some_iff.1 HK3.out).1).trans HK3.out
      have f := fun i => hx4.frozen i
      have d0 := hx4.cell 0
      have d1 := hx4.cell 1
      have d2 := hx4.cell 2
      have d3 := hx4.cell 3
      have hxl : ∀ x : BitVec 32, bits .xor .u32 (x.toNat : Int) (len : Int) = ((xo x (BitVec.ofNat 32 len)).toNat : Int) := fun x => by
        have e : (BitVec.ofNat 32 len).toNat = len := by rw [BitVec.toNat_ofNat]; exact Nat.mod_eq_of_lt (by omega)
        have := xor32 x (BitVec.ofNat 32 len)
        rwa [e] at this
      have HY := Lib.hid hy; clear hy
      have HX4 := Lib.hid hx4; clear hx4
      have HR4 := Lib.hid hr4; clear hr4
      have HB4 := Lib.hid hb4; clear hb4
      have HK4 := Lib.hid hk4; clear hk4
      clear b4 c0 c1 c2 c3
      go_wp2
      obtain ⟨W5, hW5⟩ : ∃ W5, ((((W4.setCell ⟨g + 1, 0, none⟩ (.int .u32 (y.a.toNat : Int))).setCell ⟨g + 1, 1, none⟩ (.int .u32 (y.b.toNat : Int))).setCell ⟨g + 1, 2, none⟩ (.int .u32 (y.c.toNat : Int))).setCell ⟨g + 1, 3, none⟩ (.int .u32 (y.d.toNat : Int))) = W5 := ⟨_, rfl⟩
      have hx5 : Blk W5 (g + 1) 135 (cl y) := hW5 ▸ HX4.out.set4 _ _ _ _
      have hr5 : Blk W5 g 135 #[.int .u32 0, .int .u32 0, .int .u32 0, .int .u32 0] := hW5 ▸ (((HR4.out.far (by simp) _).far (by simp) _).far (by simp) _).far (by simp) _
      have hb5 : Below g w W5 := hW5 ▸ below_set4 HB4.out (by omega) _ _ _ _
      have hk5 : W5.heap[D]? = some (.deferred (some [])) := hW5 ▸ (keepsOthers_set4 W4 (g + 1) _ _ _ _).same D _ HK4.out rfl
      rw [hW5]
      clear hW5 f d0 d1 d2 d3 e1 e2 hto hfr HX4 HR4 HB4 HK4
      have f := fun i => hx5.frozen i
      have d0 := hx5.cell 0
      have d1 := hx5.cell 1
      have d2 := hx5.cell 2
      have d3 := hx5.cell 3
      have HX5 := Lib.hid hx5; clear hx5
      have HR5 := Lib.hid hr5; clear hr5
      have HB5 := Lib.hid hb5; clear hb5
      have HK5 := Lib.hid hk5; clear hk5
      gi_wp2_with (fail)
      refine ⟨trivial, ?_⟩
      refine (callsIn_wide.2 (turns_any ⟨y.a, xo y.b (BitVec.ofNat 32 len), y.c, y.d⟩ 8 (by omega) _)).mono ?_
      rintro e W6 ⟨rfl, b6⟩
      have hz : turnsW 8 ⟨y.a, xo y.b (BitVec.ofNat 32 len), y.c, y.d⟩ = fourW s := by
        have h1 : s.length = len := HA.out.1
        have h2 : len / 8 = q := HQ.out
        unfold fourW
        rw [h1, h2, HY.out]
      rw [hz]
      obtain ⟨z, hz'⟩ : ∃ z, fourW s = z := ⟨_, rfl⟩
      rw [hz']
      have hr6 : Blk W6 g 135 _ := (HR5.out.far (p := ⟨g + 1, 1, none⟩) (by simp) (.int .u32 ((xo y.b (BitVec.ofNat 32 len)).toNat : Int))).below b6 (by simp; exact HR5.out.lt)
      have hb6 : Below g w W6 := (HB5.out.setCell (p := ⟨g + 1, 1, none⟩) (by simp) _).trans (b6.mono (by simp; rw [← HG.out]; exact HB5.out.size))
      have hk6 : W6.heap[D]? = some (.deferred (some [])) := (b6.block D (by simp; exact (Array.getElem?_eq_some_iff.1 HK5.out).1)).trans ((Below.heap_setCell W5 ⟨g + 1, 1, none⟩ _ D (by simp; omega)).trans HK5.out)
      have HZ := Lib.hid hz'; clear hz' hz
      clear f d0 d1 d2 d3 b6
      have f := fun i => hr6.frozen i
      have d0 := hr6.cell 0
      have d1 := hr6.cell 1
      have d2 := hr6.cell 2
      have d3 := hr6.cell 3
      have HR6 := Lib.hid hr6; clear hr6
      have HB6 := Lib.hid hb6; clear hb6
      have HK6 := Lib.hid hk6; clear hk6
      gi_wp2_with (fail)
      obtain ⟨W7, hW7⟩ : ∃ W7, ((((W6.setCell ⟨g, 0, none⟩ (.int .u32 (z.a.toNat : Int))).setCell ⟨g, 1, none⟩ (.int .u32 (z.b.toNat : Int))).setCell ⟨g, 2, none⟩ (.int .u32 (z.c.toNat : Int))).setCell ⟨g, 3, none⟩ (.int .u32 (z.d.toNat : Int))) = W7 := ⟨_, rfl⟩
      have hr7 : Blk W7 g 135 (cl z) := hW7 ▸ HR6.out.set4 _ _ _ _
      have hb7 : Below g w W7 := hW7 ▸ below_set4 HB6.out (Nat.le_refl _) _ _ _ _
      have hk7 : W7.heap[D]? = some (.deferred (some [])) := hW7 ▸ (keepsOthers_set4 W6 g _ _ _ _).same D _ HK6.out rfl
      rw [hW7]
      clear hW7 f d0 d1 d2 d3
      refine ⟨by simp, .inl ⟨_, _, rfl, run_takeDeferred hk7, ?_⟩⟩
      have hr8 : Blk (W7.putObj D (.deferred none)) g 135 (cl z) := hr7.grown (grownBy_putObj' W7 D (.deferred none)) (fun e => by injection e; omega)
      have e0 := hr8.cell 0
      have e1 := hr8.cell 1
      have e2 := hr8.cell 2
      have e3 := hr8.cell 3
      trace_state
      refine ⟨ag z, by simp [results, Tryz.f99, go_sem, e0, e1, e2, e3], ?_, ?_⟩
      · rw [HZ.out]
      · rw [HG.out]
        exact hb7.trans (belowK_b (w := w) (by rw [HG.out]; exact Nat.le_refl _) W7 D _ _ (by rw [HG.out]; omega) hk7 rfl rfl)
  case stop =>
    rintro D c pre W _ _ h _
    exact h.elim
end Go.Proofs.YtbggkfomfeeikaaGreatDoor
/-
  mix.Four, mix.Sum and mix.Key, whatever bytes they are handed, answer the four words of these bytes, the first of them, and all of them as bytes; nothing that was there is written.
-/
namespace Go.Proofs.YtbggkfomfeeikaaGreatDoor
open Go.RowKit Go.Shelf
set_option maxRecDepth 100000

theorem four_any (a : Option Addr) (len cap : Nat) (s : List UInt8) (w : World) (hA : Bsl w w.heap.size a len cap s) (hlen : len ≤ 4294967295) :
    Calls Tryz.prog 99 #[.slice a len cap] w fun e W' => e = .returned (ag (fourW s)) ∧ Below w.heap.size w W' :=
  callsIn_wide.1 (four_in 3 (Nat.le_refl _) a len cap s w hA hlen)

theorem sum_any (a : Option Addr) (len cap : Nat) (s : List UInt8) (w : World) (hA : Bsl w w.heap.size a len cap s) (hlen : len ≤ 4294967295) :
    Calls Tryz.prog 68 #[.slice a len cap] w fun e W' => e = .returned (.int .u32 ((fourW s).a.toNat : Int)) ∧ Below w.heap.size w W' := by
  have hf := four_any a len cap s w hA hlen
  have HF := Lib.hid hf; clear hf hA
  obtain ⟨x, hx⟩ : ∃ x, fourW s = x := ⟨_, rfl⟩
  rw [hx] at HF ⊢
  clear hx
  have hi : ∀ W : World, (Instr.index 135 (ag x) (.int .i64 0)).run Tryz.prog W = .ok (.int .u32 (x.a.toNat : Int)) W := fun W => by kernel_rfl
  go_enter Tryz.func68, Tryz.ntmps68
  go_wp2_with fail
  refine HF.out.mono ?_
  rintro e W1 ⟨rfl, b1⟩
  have HB := Lib.hid b1; clear b1
  go_wp2_with fail
  go_ret
  exact ⟨rfl, HB.out⟩

end Go.Proofs.YtbggkfomfeeikaaGreatDoor
/-
  dev.mayBe tells whether a disk may be.
-/
namespace Go.Proofs.YtbggkfomfeeikaaGreatDoor
open Go.RowKit Go.Shelf
set_option maxRecDepth 100000

theorem dIsLong_any (a : Option Addr) (n c : Nat) (w : World) : Calls Tryz.prog 97 #[.slice a n c] w fun e w' => e = .returned (.bool (decide (n = 256))) ∧ w = w' := by
  by_cases h : n = 256
  · subst h
    go_enter Tryz.func97, Tryz.ntmps97
    go_wp2_with fail
    go_ret
    exact ⟨rfl, rfl⟩
  · have h1 : ((n : Int) == 256) = false := by simp; omega
    rw [decide_eq_false h]
    go_enter Tryz.func97, Tryz.ntmps97
    go_wp2_with fail
    go_ret
    exact ⟨rfl, rfl⟩
theorem dIsBlock_any (p : Int) (w : World) : Calls Tryz.prog 96 #[.int .i64 p] w fun e w' => e = .returned (.bool (decide (0 ≤ p ∧ p < 256))) ∧ w = w' := by
  by_cases h0 : 0 ≤ p
  · by_cases h1 : p < 256
    · rw [decide_eq_true (show 0 ≤ p ∧ p < 256 from ⟨h0, h1⟩)]
      go_enter Tryz.func96, Tryz.ntmps96
      go_wp2_with fail
      go_ret
      exact ⟨by simp; try omega, rfl⟩
    · rw [decide_eq_false (show ¬ (0 ≤ p ∧ p < 256) from fun h => h1 h.2)]
      go_enter Tryz.func96, Tryz.ntmps96
      go_wp2_with fail
      go_ret
      exact ⟨by simp; try omega, rfl⟩
  · rw [decide_eq_false (show ¬ (0 ≤ p ∧ p < 256) from fun h => h0 h.1)]
    go_enter Tryz.func96, Tryz.ntmps96
    go_wp2_with fail
    go_ret
    exact ⟨by simp; try omega, rfl⟩
theorem dMayWait_any (p : Int) (a : Option Addr) (n c : Nat) (w : World) : Calls Tryz.prog 124 #[.agg #[.int .i64 p, .slice a n c]] w fun e w' => e = .returned (.bool (decide ((0 ≤ p ∧ p < 256) ∧ n = 256))) ∧ Below w.heap.size w w' := by
  have hb := dIsBlock_any p
  have hl := dIsLong_any a n c
  have HX := Lib.hid ((Below.refl w.heap.size w).alloc (Nat.le_refl _) (.cells #[.int .i64 p, .slice a n c] 91))
  by_cases h : 0 ≤ p ∧ p < 256
  · simp only [decide_eq_true h] at hb
    have e : decide ((0 ≤ p ∧ p < 256) ∧ n = 256) = decide (n = 256) := by simp [h]
    rw [e]
    have HB := Lib.hid hb
    have HL := Lib.hid hl
    clear hb hl h e
    go_enter Tryz.func124, Tryz.ntmps124
    go_wp2_with fail
    refine (HB.out _).mono ?_
    rintro e w1 ⟨rfl, rfl⟩
    go_wp2_with fail
    refine (HL.out _).mono ?_
    rintro e w1 ⟨rfl, rfl⟩
    go_wp2_with fail
    go_ret
    exact ⟨rfl, HX.out⟩
  · simp only [decide_eq_false h] at hb
    have e : decide ((0 ≤ p ∧ p < 256) ∧ n = 256) = false := by simp; omega
    rw [e]
    have HB := Lib.hid hb
    clear hb hl h e
    go_enter Tryz.func124, Tryz.ntmps124
    go_wp2_with fail
    refine (HB.out _).mono ?_
    rintro e w1 ⟨rfl, rfl⟩
    go_wp2_with fail
    go_ret
    exact ⟨rfl, HX.out⟩
theorem dNotLong_any (a : Option Addr) (n c g : Nat) (w : World) (hg : w.cell? ⟨g, 0, none⟩ = some (.func (.func 97) #[] #[])) : Calls Tryz.prog 140 #[.slice a n c, .pointer (some ⟨g, 0, none⟩)] w fun e w' => e = .returned (.bool (!decide (n = 256))) ∧ w = w' := by
  have HL := Lib.hid (dIsLong_any a n c w)
  go_enter Tryz.func140, Tryz.ntmps140
  go_wp2_with fail
  refine HL.out.mono ?_
  rintro e w1 ⟨rfl, rfl⟩
  go_wp2_with fail
  go_ret
  exact ⟨rfl, rfl⟩
theorem dNotWait_any (p : Int) (a : Option Addr) (n c g : Nat) (r : Bool) (hr : decide ((0 ≤ p ∧ p < 256) ∧ n = 256) = r) (w : World) (hl : g < w.heap.size) (hg : w.cell? ⟨g, 0, none⟩ = some (.func (.func 124) #[] #[])) : Calls Tryz.prog 142 #[.agg #[.int .i64 p, .slice a n c], .pointer (some ⟨g, 0, none⟩)] w fun e w' => e = .returned (.bool (!r)) ∧ Below w.heap.size w w' := by
  have b1 := (Below.refl w.heap.size w).alloc (Nat.le_refl _) (.cells #[.int .i64 p, .slice a n c] 91)
  have hg1 := (b1.cell (p := ⟨g, 0, none⟩) hl).trans hg
  have HL : Hid (∀ W, Calls Tryz.prog 124 #[.agg #[.int .i64 p, .slice a n c]] W fun e w' => e = .returned (.bool r) ∧ Below W.heap.size W w') := Lib.hid fun W => by
    have := dMayWait_any p a n c W
    rw [hr] at this
    exact this
  have HB := Lib.hid b1
  clear b1 hl hr
  go_enter Tryz.func142, Tryz.ntmps142
  go_wp2_with fail
  refine (HL.out _).mono ?_
  rintro e w1 ⟨rfl, b2⟩
  have HB2 := Lib.hid (HB.out.trans (b2.mono HB.out.size))
  clear b2
  go_wp2_with fail
  go_ret
  exact ⟨rfl, HB2.out⟩
/-- slices.IndexFunc over blocks: none is odd. -/
theorem dIndexB_none (a : Option Addr) (n c : Nat) (bl : List (List UInt8)) (g : Nat) (w : World) (hB : Bls w w.heap.size a n c bl) (hg : w.cell? ⟨g, 0, none⟩ = some (.func (.func 97) #[] #[])) (hall : ∀ i, i < n → (bl.getD i []).length = 256) :
    Calls Tryz.prog 149 #[.slice a n c, .func (.func 140) #[] #[.pointer (some ⟨g, 0, none⟩)]] w fun e w' => e = .returned (.int .i64 (-1)) ∧ w = w' := by
  have n0 : (0 : Int) ≤ n := by omega
  have n1 := hB.len_le
  have HB := Lib.hid hB
  have HA := Lib.hid hall
  have HG := Lib.hid hg
  clear hB hall hg
  go_enter Tryz.func149, Tryz.ntmps149
  go_wp2_with fail
  go_loop [8] (fun i => ∃ k : Nat, k ≤ n ∧ i = .int .i64 k) (fun i => n - (intOf i).toNat)
  case atStart => exact ⟨0, Nat.zero_le _, rfl⟩
  case round =>
    obtain ⟨k, hk, rfl⟩ := hrel
    have k0 : (0 : Int) ≤ k := by omega
    by_cases hlt : k < n
    · have k1 : (k : Int) < n := by omega
      obtain ⟨b, off, A, l, c', s, rfl, _, hl, hc, hA⟩ := HB.out.at_ hlt
      have hl6 : l = 256 := by rw [← hA.1, ← hl]; exact HA.out k hlt
      subst hl6
      have hx := dNotLong_any A 256 c' g w HG.out
      have HX := Lib.hid hx
      clear hx hA hl
      go_wp2_with fail
      refine HX.out.mono ?_
      rintro e w1 ⟨rfl, rfl⟩
      go_wp2_with fail
      go_round
      case rel => exact ⟨k + 1, by omega, by go_num⟩
      case measure => simp [intOf]; omega
    · obtain rfl : k = n := by omega
      go_wp2_with fail
      go_ret
      exact ⟨rfl, rfl⟩
/-- One is. -/
theorem dIndexB_some (a : Option Addr) (n c : Nat) (bl : List (List UInt8)) (g : Nat) (w : World) (hB : Bls w w.heap.size a n c bl) (hg : w.cell? ⟨g, 0, none⟩ = some (.func (.func 97) #[] #[])) (j : Nat) (hj : j < n) (hodd : (bl.getD j []).length ≠ 256) :
    Calls Tryz.prog 149 #[.slice a n c, .func (.func 140) #[] #[.pointer (some ⟨g, 0, none⟩)]] w fun e w' => ∃ k : Nat, e = .returned (.int .i64 k) ∧ w = w' := by
  have n0 : (0 : Int) ≤ n := by omega
  have n1 := hB.len_le
  have HB := Lib.hid hB
  have HA := Lib.hid hodd
  have HG := Lib.hid hg
  clear hB hodd hg
  go_enter Tryz.func149, Tryz.ntmps149
  go_wp2_with fail
  go_loop [8] (fun i => ∃ k : Nat, k ≤ j ∧ i = .int .i64 k) (fun i => n - (intOf i).toNat)
  case atStart => exact ⟨0, Nat.zero_le _, rfl⟩
  case round =>
    obtain ⟨k, hk, rfl⟩ := hrel
    have k0 : (0 : Int) ≤ k := by omega
    have k1 : (k : Int) < n := by omega
    obtain ⟨b, off, A, l, c', s, rfl, _, hl, hc, hA⟩ := HB.out.at_ (show k < n by omega)
    have hx := dNotLong_any A l c' g w HG.out
    by_cases hl6 : l = 256
    · have hkj : k < j := by
        rcases Nat.lt_or_ge k j with h | h
        · exact h
        · obtain rfl : k = j := by omega
          exact absurd (by rw [hl, hA.1]; exact hl6) HA.out
      subst hl6
      have HX := Lib.hid hx
      clear hx hA hl
      go_wp2_with fail
      refine HX.out.mono ?_
      rintro e w1 ⟨rfl, rfl⟩
      go_wp2_with fail
      go_round
      case rel => exact ⟨k + 1, by omega, by go_num⟩
      case measure => simp [intOf]; omega
    · simp only [decide_eq_false hl6] at hx
      have HX := Lib.hid hx
      clear hx hA hl
      go_wp2_with fail
      refine HX.out.mono ?_
      rintro e w1 ⟨rfl, rfl⟩
      go_wp2_with fail
      go_ret
      exact ⟨k, rfl, rfl⟩
/-- slices.IndexFunc over writes: none is odd. -/
theorem dIndexW_none (a : Option Addr) (n c : Nat) (ws : WrL) (g : Nat) (w : World) (hB : Wts w w.heap.size a n c ws) (hlg : g < w.heap.size) (hg : w.cell? ⟨g, 0, none⟩ = some (.func (.func 124) #[] #[])) (hall : ∀ i, i < n → (0 ≤ (wr_ ws i).1 ∧ (wr_ ws i).1 < 256) ∧ (wr_ ws i).2.length = 256) :
    Calls Tryz.prog 150 #[.slice a n c, .func (.func 142) #[] #[.pointer (some ⟨g, 0, none⟩)]] w fun e w' => e = .returned (.int .i64 (-1)) ∧ Below w.heap.size w w' := by
  have n0 : (0 : Int) ≤ n := by omega
  have n1 := hB.len_le
  have HB := Lib.hid hB
  have HA := Lib.hid hall
  have HG := Lib.hid hg
  clear hB hall hg
  go_enter Tryz.func150, Tryz.ntmps150
  go_wp2_with fail
  go_loopw [8] (fun i wr => ∃ k : Nat, k ≤ n ∧ i = .int .i64 k ∧ Below w.heap.size w wr) (fun i _ => n - (intOf i).toNat)
  case atStart => exact ⟨0, Nat.zero_le _, rfl, Below.refl _ _⟩
  case round =>
    obtain ⟨k, hk, rfl, hb⟩ := hrel
    have k0 : (0 : Int) ≤ k := by omega
    by_cases hlt : k < n
    · have k1 : (k : Int) < n := by omega
      obtain ⟨b, off, p, A, l, c', s, rfl, hbl, hl, _, hc, hd, hA⟩ := HB.out.at_ hlt
      have hok := HA.out k hlt
      rw [hl] at hok
      have hl6 : l = 256 := by rw [← hA.1]; exact hok.2
      subst hl6
      have c1 := (hb.cell (p := ⟨b, off + k * 2, none⟩) hbl).trans hc
      have c2 := (hb.cell (p := ⟨b, off + k * 2 + 1, none⟩) hbl).trans hd
      have hx := dNotWait_any p A 256 c' g true (decide_eq_true ⟨hok.1, rfl⟩) wr (Nat.lt_of_lt_of_le hlg hb.size) ((hb.cell (p := ⟨g, 0, none⟩) hlg).trans HG.out)
      have HX := Lib.hid hx
      have HBr := Lib.hid hb
      clear hx hA hl hok hb hc hd
      go_wp2_with fail
      refine HX.out.mono ?_
      rintro e w1 ⟨rfl, b2⟩
      have HB2 := Lib.hid (HBr.out.trans (b2.mono HBr.out.size))
      clear b2
      go_wp2_with fail
      go_roundw
      case rel => exact ⟨k + 1, by omega, by go_num, HB2.out⟩
      case measure => simp [intOf]; omega
    · obtain rfl : k = n := by omega
      have HBr := Lib.hid hb
      clear hb
      go_wp2_with fail
      go_ret
      exact ⟨rfl, HBr.out⟩
/-- One is. -/
theorem dIndexW_some (a : Option Addr) (n c : Nat) (ws : WrL) (g : Nat) (w : World) (hB : Wts w w.heap.size a n c ws) (hlg : g < w.heap.size) (hg : w.cell? ⟨g, 0, none⟩ = some (.func (.func 124) #[] #[])) (j : Nat) (hj : j < n) (hodd : ¬ ((0 ≤ (wr_ ws j).1 ∧ (wr_ ws j).1 < 256) ∧ (wr_ ws j).2.length = 256)) :
    Calls Tryz.prog 150 #[.slice a n c, .func (.func 142) #[] #[.pointer (some ⟨g, 0, none⟩)]] w fun e w' => ∃ k : Nat, e = .returned (.int .i64 k) ∧ Below w.heap.size w w' := by
  have n0 : (0 : Int) ≤ n := by omega
  have n1 := hB.len_le
  have HB := Lib.hid hB
  have HA := Lib.hid hodd
  have HG := Lib.hid hg
  clear hB hodd hg
  go_enter Tryz.func150, Tryz.ntmps150
  go_wp2_with fail
  go_loopw [8] (fun i wr => ∃ k : Nat, k ≤ j ∧ i = .int .i64 k ∧ Below w.heap.size w wr) (fun i _ => n - (intOf i).toNat)
  case atStart => exact ⟨0, Nat.zero_le _, rfl, Below.refl _ _⟩
  case round =>
    obtain ⟨k, hk, rfl, hb⟩ := hrel
    have k0 : (0 : Int) ≤ k := by omega
    have k1 : (k : Int) < n := by omega
    obtain ⟨b, off, p, A, l, c', s, rfl, hbl, hl, _, hc, hd, hA⟩ := HB.out.at_ (show k < n by omega)
    have c1 := (hb.cell (p := ⟨b, off + k * 2, none⟩) hbl).trans hc
    have c2 := (hb.cell (p := ⟨b, off + k * 2 + 1, none⟩) hbl).trans hd
    have hx := fun r hr => dNotWait_any p A l c' g r hr wr (Nat.lt_of_lt_of_le hlg hb.size) ((hb.cell (p := ⟨g, 0, none⟩) hlg).trans HG.out)
    by_cases hl6 : (0 ≤ p ∧ p < 256) ∧ l = 256
    · have hkj : k < j := by
        rcases Nat.lt_or_ge k j with h | h
        · exact h
        · obtain rfl : k = j := by omega
          exact absurd (by rw [hl]; exact ⟨hl6.1, by rw [hA.1]; exact hl6.2⟩) HA.out
      have HX := Lib.hid (hx true (decide_eq_true hl6))
      have HBr := Lib.hid hb
      clear hx hA hl hl6 hb hc hd
      go_wp2_with fail
      refine HX.out.mono ?_
      rintro e w1 ⟨rfl, b2⟩
      have HB2 := Lib.hid (HBr.out.trans (b2.mono HBr.out.size))
      clear b2
      go_wp2_with fail
      go_roundw
      case rel => exact ⟨k + 1, by omega, by go_num, HB2.out⟩
      case measure => simp [intOf]; omega
    · have HX := Lib.hid (hx false (decide_eq_false hl6))
      have HBr := Lib.hid hb
      clear hx hA hl hl6 hb hc hd
      go_wp2_with fail
      refine HX.out.mono ?_
      rintro e w1 ⟨rfl, b2⟩
      have HB2 := Lib.hid (HBr.out.trans (b2.mono HBr.out.size))
      clear b2
      go_wp2_with fail
      go_ret
      exact ⟨k, rfl, HB2.out⟩
/-- slices.ContainsFunc: is one odd? -/
theorem dContB_any (a : Option Addr) (n c : Nat) (bl : List (List UInt8)) (g : Nat) (w : World) (hB : Bls w w.heap.size a n c bl) (hg : w.cell? ⟨g, 0, none⟩ = some (.func (.func 97) #[] #[])) (r : Bool) (hr : r = true ↔ ∀ i, i < n → (bl.getD i []).length = 256) :
    Calls Tryz.prog 139 #[.slice a n c, .func (.func 140) #[] #[.pointer (some ⟨g, 0, none⟩)]] w fun e w' => e = .returned (.bool (!r)) ∧ w = w' := by
  cases r with
  | true =>
    have HI := Lib.hid (dIndexB_none a n c bl g w hB hg (hr.1 rfl))
    clear hB hg hr
    go_enter Tryz.func139, Tryz.ntmps139
    go_wp2_with fail
    refine HI.out.mono ?_
    rintro e w1 ⟨rfl, rfl⟩
    
    go_wp2_with fail
    go_ret
    exact ⟨rfl, rfl⟩
  | false =>
    obtain ⟨j, hj, hodd⟩ : ∃ i, i < n ∧ ¬ ((bl.getD i []).length = 256) := by
      apply Classical.byContradiction
      intro hn
      have : false = true := hr.2 fun i hi => Classical.byContradiction fun h => hn ⟨i, hi, h⟩
      cases this
    have HI := Lib.hid (dIndexB_some a n c bl g w hB hg j hj hodd)
    clear hB hg hr hodd
    go_enter Tryz.func139, Tryz.ntmps139
    go_wp2_with fail
    refine HI.out.mono ?_
    rintro e w1 ⟨k, rfl, rfl⟩
    have k0 : (0 : Int) ≤ k := by omega
    
    go_wp2_with fail
    go_ret
    exact ⟨rfl, rfl⟩
/-- All are as they should be: dev.allAre. -/
theorem dAllB_any (a : Option Addr) (n c : Nat) (bl : List (List UInt8)) (w : World) (hB : Bls w w.heap.size a n c bl) (r : Bool) (hr : r = true ↔ ∀ i, i < n → (bl.getD i []).length = 256) :
    Calls Tryz.prog 122 #[.slice a n c, .func (.func 97) #[] #[]] w fun e w' => e = .returned (.bool r) ∧ Below w.heap.size w w' := by
  have b0 := (Below.refl w.heap.size w).alloc (Nat.le_refl _) (.cells #[.func (.func 97) #[] #[]] 124)
  have x0 := Blk.new w 124 #[.func (.func 97) #[] #[]]
  have HI := Lib.hid (dContB_any a n c bl w.heap.size _ (hB.step b0) (x0.cell 0) r hr)
  have HB := Lib.hid b0
  clear hB hr b0 x0
  go_enter Tryz.func122, Tryz.ntmps122
  go_wp2_with fail
  refine HI.out.mono ?_
  rintro e w1 ⟨rfl, rfl⟩
  have HB2 := HB
  go_wp2_with fail
  go_ret
  exact ⟨by simp, HB2.out⟩
/-- slices.ContainsFunc: is one odd? -/
theorem dContW_any (a : Option Addr) (n c : Nat) (ws : WrL) (g : Nat) (w : World) (hB : Wts w w.heap.size a n c ws) (hlg : g < w.heap.size) (hg : w.cell? ⟨g, 0, none⟩ = some (.func (.func 124) #[] #[])) (r : Bool) (hr : r = true ↔ ∀ i, i < n → (0 ≤ (wr_ ws i).1 ∧ (wr_ ws i).1 < 256) ∧ (wr_ ws i).2.length = 256) :
    Calls Tryz.prog 141 #[.slice a n c, .func (.func 142) #[] #[.pointer (some ⟨g, 0, none⟩)]] w fun e w' => e = .returned (.bool (!r)) ∧ Below w.heap.size w w' := by
  cases r with
  | true =>
    have HI := Lib.hid (dIndexW_none a n c ws g w hB hlg hg (hr.1 rfl))
    clear hB hg hr
    go_enter Tryz.func141, Tryz.ntmps141
    go_wp2_with fail
    refine HI.out.mono ?_
    rintro e w1 ⟨rfl, b2⟩
    have HB2 := Lib.hid b2; clear b2
    go_wp2_with fail
    go_ret
    exact ⟨rfl, HB2.out⟩
  | false =>
    obtain ⟨j, hj, hodd⟩ : ∃ i, i < n ∧ ¬ ((0 ≤ (wr_ ws i).1 ∧ (wr_ ws i).1 < 256) ∧ (wr_ ws i).2.length = 256) := by
      apply Classical.byContradiction
      intro hn
      have : false = true := hr.2 fun i hi => Classical.byContradiction fun h => hn ⟨i, hi, h⟩
      cases this
    have HI := Lib.hid (dIndexW_some a n c ws g w hB hlg hg j hj hodd)
    clear hB hg hr hodd
    go_enter Tryz.func141, Tryz.ntmps141
    go_wp2_with fail
    refine HI.out.mono ?_
    rintro e w1 ⟨k, rfl, b2⟩
    have k0 : (0 : Int) ≤ k := by omega
    have HB2 := Lib.hid b2; clear b2
    go_wp2_with fail
    go_ret
    exact ⟨rfl, HB2.out⟩
/-- All are as they should be: dev.allAre. -/
theorem dAllW_any (a : Option Addr) (n c : Nat) (ws : WrL) (w : World) (hB : Wts w w.heap.size a n c ws) (r : Bool) (hr : r = true ↔ ∀ i, i < n → (0 ≤ (wr_ ws i).1 ∧ (wr_ ws i).1 < 256) ∧ (wr_ ws i).2.length = 256) :
    Calls Tryz.prog 123 #[.slice a n c, .func (.func 124) #[] #[]] w fun e w' => e = .returned (.bool r) ∧ Below w.heap.size w w' := by
  have b0 := (Below.refl w.heap.size w).alloc (Nat.le_refl _) (.cells #[.func (.func 124) #[] #[]] 159)
  have x0 := Blk.new w 159 #[.func (.func 124) #[] #[]]
  have HI := Lib.hid (dContW_any a n c ws w.heap.size _ (hB.step b0) (by rw [World.size_alloc]; omega) (x0.cell 0) r hr)
  have HB := Lib.hid b0
  clear hB hr b0 x0
  go_enter Tryz.func123, Tryz.ntmps123
  go_wp2_with fail
  refine HI.out.mono ?_
  rintro e w1 ⟨rfl, b2⟩
  have HB2 := Lib.hid (HB.out.trans (b2.mono HB.out.size)); clear b2
  go_wp2_with fail
  go_ret
  exact ⟨by simp, HB2.out⟩
/-- dev.mayBe. -/
theorem dMay_yes (x : DAt) (D : DkL) (w : World) (h : Dsk w w.heap.size x D) (hm : MayD D) : Calls Tryz.prog 92 #[dval x D] w fun e w' => e = .returned (.bool true) ∧ Below w.heap.size w w' := by
  obtain ⟨ba, bc, wa, wc⟩ := x
  obtain ⟨bl, ws⟩ := D
  obtain ⟨hB, hW⟩ := h
  obtain ⟨⟨m1, m2⟩, m3, m4⟩ := hm
  simp only [dval] at hB hW m1 m2 m3 m4 ⊢
  obtain ⟨m, hm⟩ : ∃ m, ws.length = m := ⟨_, rfl⟩
  rw [hm] at hW m3 m4 ⊢
  rw [m1] at hB ⊢
  have i0 : (m : Int) ≤ 4096 := by omega
  have b0 := (Below.refl w.heap.size w).alloc (Nat.le_refl _) (.cells #[.slice ba 256 bc, .slice wa m wc] 26)
  have x0 := Blk.new w 26 #[.slice ba 256 bc, .slice wa m wc]
  have HI := Lib.hid (dAllB_any ba 256 bc bl _ (hB.step b0) true ⟨fun _ => m2, fun _ => rfl⟩)
  have HX := Lib.hid x0
  have HB := Lib.hid b0
  have HW := Lib.hid (hW.step b0)
  have HP := Lib.hid m4
  clear hB hW b0 x0 m1 m2 m4 hm
  go_enter Tryz.func92, Tryz.ntmps92
  go_wp2_with fail
  refine HI.out.mono ?_
  rintro e w1 ⟨rfl, b1⟩
  have c0 := (HX.out.below b1 HX.out.lt).cell 0
  have c1 := (HX.out.below b1 HX.out.lt).cell 1
  have HI2 := Lib.hid (dAllW_any wa m wc ws w1 (HW.out.step b1) true ⟨fun _ => HP.out, fun _ => rfl⟩)
  have HB2 := Lib.hid (HB.out.trans (b1.mono HB.out.size))
  clear b1
  go_wp2_with fail
  refine HI2.out.mono ?_
  rintro e w2 ⟨rfl, b2⟩
  have HB3 := Lib.hid (HB2.out.trans (b2.mono HB2.out.size))
  clear b2 c0 c1
  go_wp2_with fail
  go_ret
  exact ⟨rfl, HB3.out⟩
theorem dMay_no (x : DAt) (D : DkL) (w : World) (h : Dsk w w.heap.size x D) (hm : ¬ MayD D) : Calls Tryz.prog 92 #[dval x D] w fun e w' => e = .returned (.bool false) ∧ Below w.heap.size w w' := by
  obtain ⟨ba, bc, wa, wc⟩ := x
  obtain ⟨bl, ws⟩ := D
  obtain ⟨hB, hW⟩ := h
  unfold MayD at hm
  simp only [dval] at hB hW hm ⊢
  have l1 := hB.len_le
  have l2 := hW.len_le
  obtain ⟨n, hn⟩ : ∃ n, bl.length = n := ⟨_, rfl⟩
  obtain ⟨m, hm'⟩ : ∃ m, ws.length = m := ⟨_, rfl⟩
  rw [hm'] at hW hm l2 ⊢
  rw [hn] at hB hm l1 ⊢
  have n0 : (0 : Int) ≤ n := by omega
  have m0 : (0 : Int) ≤ m := by omega
  have b0 := (Below.refl w.heap.size w).alloc (Nat.le_refl _) (.cells #[.slice ba n bc, .slice wa m wc] 26)
  have x0 := Blk.new w 26 #[.slice ba n bc, .slice wa m wc]
  have HX := Lib.hid x0
  have HB := Lib.hid b0
  have HW := Lib.hid (hW.step b0)
  have HBl := Lib.hid (hB.step b0)
  clear hB hW b0 x0 hn hm'
  by_cases h1 : n = 256
  · subst h1
    by_cases h2 : (m : Int) ≤ 4096
    · have hm2 : ¬ ((∀ i, i < 256 → (bl.getD i []).length = 256) ∧ ∀ i, i < m → (0 ≤ (wr_ ws i).1 ∧ (wr_ ws i).1 < 256) ∧ (wr_ ws i).2.length = 256) := fun hh => hm ⟨⟨rfl, hh.1⟩, by omega, hh.2⟩
      by_cases h3 : ∀ i, i < 256 → (bl.getD i []).length = 256
      · have HI := Lib.hid (dAllB_any ba 256 bc bl _ HBl.out true ⟨fun _ => h3, fun _ => rfl⟩)
        have HP := Lib.hid (show ¬ ∀ i, i < m → (0 ≤ (wr_ ws i).1 ∧ (wr_ ws i).1 < 256) ∧ (wr_ ws i).2.length = 256 from fun hh => hm2 ⟨h3, hh⟩)
        clear hm hm2 h3
        go_enter Tryz.func92, Tryz.ntmps92
        go_wp2_with fail
        refine HI.out.mono ?_
        rintro e w1 ⟨rfl, b1⟩
        have c0 := (HX.out.below b1 HX.out.lt).cell 0
        have c1 := (HX.out.below b1 HX.out.lt).cell 1
        have HI2 := Lib.hid (dAllW_any wa m wc ws w1 (HW.out.step b1) false ⟨fun h => (by cases h), fun h => absurd h HP.out⟩)
        have HB2 := Lib.hid (HB.out.trans (b1.mono HB.out.size))
        clear b1
        go_wp2_with fail
        refine HI2.out.mono ?_
        rintro e w2 ⟨rfl, b2⟩
        have HB3 := Lib.hid (HB2.out.trans (b2.mono HB2.out.size))
        clear b2 c0 c1
        go_wp2_with fail
        go_ret
        exact ⟨rfl, HB3.out⟩
      · have HI := Lib.hid (dAllB_any ba 256 bc bl _ HBl.out false ⟨fun h => (by cases h), fun h => absurd h h3⟩)
        clear hm hm2 h3
        go_enter Tryz.func92, Tryz.ntmps92
        go_wp2_with fail
        refine HI.out.mono ?_
        rintro e w1 ⟨rfl, b1⟩
        have HB2 := Lib.hid (HB.out.trans (b1.mono HB.out.size))
        clear b1
        go_wp2_with fail
        go_ret
        exact ⟨rfl, HB2.out⟩
    · clear hm
      go_enter Tryz.func92, Tryz.ntmps92
      go_wp2_with fail
      go_ret
      exact ⟨rfl, HB.out⟩
  · have h2 : ((n : Int) == 256) = false := by simp; omega
    clear hm
    go_enter Tryz.func92, Tryz.ntmps92
    go_wp2_with fail
    go_ret
    exact ⟨rfl, HB.out⟩
end Go.Proofs.YtbggkfomfeeikaaGreatDoor
/-
  Words for a map[int]int that the call made: what it holds, as a function; a lookup, a store.
-/
namespace Go.Proofs.YtbggkfomfeeikaaGreatDoor
open Go.RowKit Go.Shelf Go.Maps Go.WideShapes
set_option maxRecDepth 100000

theorem lawInt : Keyed Tryz.prog 3 := int_keyed Tryz.underlying3
theorem zeroInt (w : World) : (zeroValue 3).run Tryz.prog w = .ok (.int .i64 0) w := by kernel_rfl
/-- Block g is a map of at most n entries that holds just what f tells. -/
def MapI (w : World) (g n : Nat) (f : Int → Option Nat) : Prop :=
  ∃ D : DataW Unit, w.ownsMap Tryz.prog 3 (plainElem Tryz.prog 3) g n D ∧ IsMap D ∧ ∀ p : Int, (Lit.int .i64 p).wf = true → has D (.int .i64 p) = (f p).isSome ∧ ∀ i, f p = some i → D.atKey (.int .i64 p) (.lit (.int .i64 0)) = .lit (.int .i64 (i : Nat))
section
variable {w w' : World} {g n : Nat} {f : Int → Option Nat}
theorem MapI.lt (h : MapI w g n f) : g < w.heap.size := by obtain ⟨D, h1, _⟩ := h; exact h1.lt
theorem MapI.kept {row : Option Nat} (h : MapI w g n f) (hg : w.grownBy w' row) (hne : some g ≠ row) : MapI w' g n f := by
  obtain ⟨D, h1, h2⟩ := h
  exact ⟨D, h1.kept hg hne, h2⟩
theorem MapI.below {B : Nat} (h : MapI w g n f) (hb : Below B w w') (hg : g < B) : MapI w' g n f := by
  obtain ⟨D, ⟨es, clock, h1, h3⟩, h2⟩ := h
  exact ⟨D, ⟨es, clock, (hb.block g hg).trans h1, h3⟩, h2⟩
theorem mapI_made (w : World) : MapI (w.alloc (.map #[] 0)) w.heap.size 0 (fun _ => none) :=
  ⟨.map [], World.ownsMap_made _ _ _ _, isMap_empty, fun p _ => ⟨rfl, fun i h => by cases h⟩⟩
theorem MapI.congr {f' : Int → Option Nat} (h : MapI w g n f) (e : ∀ p, f p = f' p) : MapI w g n f' := by
  obtain rfl : f = f' := funext e
  exact h
end
section
variable {w : World} {ops : Array Oper} {rest : List Oper} {o : Oper} {a : Act} {Q : Exit → Act → World → Prop}
/-- m[p] = i. -/
theorem wpList_mapI_put (hg : o.guard = none) (m x v : Operand) (hop : o.op = Op.mapUpdate 149 m x v) (g n : Nat) (f : Int → Option Nat) (hm : a.eval m = .map (some g)) (hown : MapI w g n f) (hn : n < maxLen)
    (p : Int) (i : Nat) (hp : (Lit.int .i64 p).wf = true) (hi : (i : Int) ≤ 9223372036854775807) (hx : a.eval x = .int .i64 p) (hv : a.eval v = .int .i64 (i : Nat))
    (hK : ∀ w', MapI w' g (n + 1) (fun q => if q = p then some i else f q) → w.grownBy w' (some g) → wpList Tryz.prog ops Q rest (a.put o.dst undef) w') : wpList Tryz.prog ops Q (o :: rest) a w := by
  obtain ⟨D, h1, h2, h3⟩ := hown
  have hwi : (Lit.int .i64 (i : Nat)).wf = true := by simp [Lit.wf, IntKind.min, IntKind.max, IntKind.signed, IntKind.bits]; omega
  refine wpList_mapUpdate_own w hg m x v 149 hop 3 3 lawInt Tryz.underlying149 _ g n D hm h1 hn (.int .i64 p) (.int .i64 (i : Nat)) (.int .i64 p) hx hv (keyOf_int_mk Tryz.underlying3 hp) (.lit (.int .i64 (i : Nat))) [] (plainElem_int Tryz.underlying3 hwi) ?_
  intro w' hw' hgr
  refine hK w' ⟨_, hw', h2.put _ _, fun q hq => ?_⟩ hgr
  by_cases e : q = p
  · subst e
    have ef : (fun r => if r = q then some i else f r) q = some i := if_pos rfl
    have hk : WideAt.IsKeyLit (.int .i64 q) := by unfold WideAt.IsKeyLit; exact trivial
    rw [ef]
    refine ⟨has_put_same h2 hk _, fun j hj => ?_⟩
    cases hj
    exact atKey_put_same h2 hk _ _
  · have hne : (Lit.int .i64 q) ≠ (Lit.int .i64 p) := fun h => e (by injection h)
    have ef : (fun r => if r = p then some i else f r) q = f q := if_neg e
    obtain ⟨h4, h5⟩ := h3 q hq
    rw [ef]
    refine ⟨by rw [has_put_other hne, h4], fun j hj => ?_⟩
    rw [atKey_put_other hne]
    exact h5 j hj
/-- i, ok := m[p]. -/
theorem wpList_mapI_get (hg : o.guard = none) (m x : Operand) (hop : o.op = Op.lookup 149 m x true) (g n : Nat) (f : Int → Option Nat) (hm : a.eval m = .map (some g)) (hown : MapI w g n f)
    (p : Int) (hp : (Lit.int .i64 p).wf = true) (hx : a.eval x = .int .i64 p)
    (hK : ∀ c : Int, (∀ i, f p = some i → c = (i : Nat)) → wpList Tryz.prog ops Q rest (a.put o.dst (.tuple #[.int .i64 c, .bool (f p).isSome])) w) : wpList Tryz.prog ops Q (o :: rest) a w := by
  obtain ⟨D, h1, h2, h3⟩ := hown
  refine wpList_lookup_own_ok_int w hg m x 149 hop 3 3 .i64 lawInt Tryz.underlying149 Tryz.underlying3 (zeroInt w) g n D hm h1 (.int .i64 p) (.int .i64 p) hx (keyOf_int_mk Tryz.underlying3 hp) ?_
  intro c hat hwc
  obtain ⟨h4, h5⟩ := h3 p hp
  rw [h4]
  refine hK c fun i hi => ?_
  rw [h5 i hi] at hat
  injection hat with hat
  injection hat with _ hat
  exact hat.symm
theorem wpList_mapI_some (hg : o.guard = none) (m x : Operand) (hop : o.op = Op.lookup 149 m x true) (g n : Nat) (f : Int → Option Nat) (hm : a.eval m = .map (some g)) (hown : MapI w g n f)
    (p : Int) (hp : (Lit.int .i64 p).wf = true) (hx : a.eval x = .int .i64 p) (i : Nat) (hf : f p = some i)
    (hK : wpList Tryz.prog ops Q rest (a.put o.dst (.tuple #[.int .i64 (i : Nat), .bool true])) w) : wpList Tryz.prog ops Q (o :: rest) a w :=
  wpList_mapI_get hg m x hop g n f hm hown p hp hx fun c hc => by
    rw [hf, hc i hf]
    exact hK
theorem wpList_mapI_none (hg : o.guard = none) (m x : Operand) (hop : o.op = Op.lookup 149 m x true) (g n : Nat) (f : Int → Option Nat) (hm : a.eval m = .map (some g)) (hown : MapI w g n f)
    (p : Int) (hp : (Lit.int .i64 p).wf = true) (hx : a.eval x = .int .i64 p) (hf : f p = none)
    (hK : ∀ c : Int, wpList Tryz.prog ops Q rest (a.put o.dst (.tuple #[.int .i64 c, .bool false])) w) : wpList Tryz.prog ops Q (o :: rest) a w :=
  wpList_mapI_get hg m x hop g n f hm hown p hp hx fun c _ => by
    rw [hf]
    exact hK c
end
end Go.Proofs.YtbggkfomfeeikaaGreatDoor
/-
  dev.lastOnes tells for each block which is the last one of the writes whose mark is true.
-/
namespace Go.Proofs.YtbggkfomfeeikaaGreatDoor
open Go.RowKit Go.Shelf
set_option maxRecDepth 100000

/-- A new map that tells of each block its last one among the first m. -/
def LastPost (ws : WrL) (mk : Nat → Bool) (m : Nat) (w : World) (e : Ending) (w' : World) : Prop :=
  ∃ g, e = .returned (.map (some g)) ∧ w.heap.size ≤ g ∧ MapI w' g m (fun p => lastTo ws mk p m) ∧ Below w.heap.size w w'
theorem lastTo_put {ws : WrL} {mk : Nat → Bool} {k : Nat} {p : Int} {s : List UInt8} (h : wr_ ws k = (p, s)) (hm : mk k = true) (q : Int) : (if q = p then some k else lastTo ws mk q k) = lastTo ws mk q (k + 1) := by
  rw [lastTo, h]
  by_cases e : q = p
  · rw [if_pos e, if_pos ⟨hm, e.symm⟩]
  · rw [if_neg e, if_neg (fun h => e h.2.symm)]
theorem lastTo_skip {ws : WrL} {mk : Nat → Bool} {k : Nat} (hm : mk k = false) (q : Int) : lastTo ws mk q k = lastTo ws mk q (k + 1) := by
  rw [lastTo, if_neg (fun h => by rw [hm] at h; cases h.1)]
set_option maxHeartbeats 1000000 in
theorem dLast2_any (a : Option Addr) (m c : Nat) (ws : WrL) (mk : Nat → Bool) (pa pb : Addr) (w : World) (hW : Wts w w.heap.size a m c ws)
    (hF : ∀ W, Below w.heap.size w W → ∀ i, i < m → Calls Tryz.prog 110 #[.int .i64 (i : Nat), .pointer (some pa), .pointer (some pb)] W fun e w' => e = .returned (.bool (mk i)) ∧ Below W.heap.size W w') :
    Calls Tryz.prog 109 #[.slice a m c, .func (.func 110) #[] #[.pointer (some pa), .pointer (some pb)]] w (LastPost ws mk m w) := by
  have hmm := @run_makeMap Tryz.prog
  have m0 : (0 : Int) ≤ m := by omega
  have m1 := hW.len_le
  obtain ⟨g, hg⟩ : ∃ g, w.heap.size = g := ⟨_, rfl⟩
  obtain ⟨w0, hw0⟩ : ∃ w0, w.alloc (.map #[] 0) = w0 := ⟨_, rfl⟩
  have hM := mapI_made w
  have hb0 : Below w.heap.size w w0 := by rw [← hw0]; exact (Below.refl _ w).alloc (Nat.le_refl _) _
  rw [hw0, hg] at hM
  rw [hg] at hb0
  have hM0 : MapI w0 g 0 (fun p => lastTo ws mk p 0) := hM
  have HW := Lib.hid hW
  have HF := Lib.hid hF
  have HG := Lib.hid hg
  have HM0 := Lib.hid hM0
  have HB0 := Lib.hid hb0
  clear hW hF hM hM0 hb0
  go_enter Tryz.func109, Tryz.ntmps109
  go_wp2_with fail
  clear hg hw0
  go_loopw [11] (fun i wr => ∃ k : Nat, k ≤ m ∧ i = .int .i64 k ∧ Hid (MapI wr g k (fun p => lastTo ws mk p k)) ∧ Hid (Below g w wr)) (fun i _ => m - (intOf i).toNat)
  case atStart => exact ⟨0, Nat.zero_le _, rfl, HM0, HB0⟩
  case round =>
    obtain ⟨k, hk, rfl, HM, HB⟩ := hrel
    have k0 : (0 : Int) ≤ k := by omega
    by_cases hlt : k < m
    · have k1 : (k : Int) < m := by omega
      obtain ⟨b, off, p, A, l, c', s, rfl, hlb, hl, hwf, hc, hd, hA⟩ := HW.out.at_ hlt
      rw [HG.out] at hlb
      have c1 := (HB.out.cell (p := ⟨b, off + k * 2, none⟩) hlb).trans hc
      have c2 := (HB.out.cell (p := ⟨b, off + k * 2 + 1, none⟩) hlb).trans hd
      have hx := Blk.new wr 91 #[.int .i64 p, .slice A l c']
      have ba := (Below.refl wr.heap.size wr).alloc (Nat.le_refl _) (.cells #[.int .i64 p, .slice A l c'] 91)
      have hgr : g < wr.heap.size := HM.out.lt
      have ha := HM.out.below ba hgr
      have hb := HB.out.trans (ba.mono (Nat.le_of_lt hgr))
      have hcl := HF.out _ (by rw [HG.out]; exact hb) k hlt
      obtain ⟨wa, hwa⟩ : ∃ wa, wr.alloc (.cells #[.int .i64 p, .slice A l c'] 91) = wa := ⟨_, rfl⟩
      obtain ⟨gt, hgt⟩ : ∃ gt, wr.heap.size = gt := ⟨_, rfl⟩
      rw [hwa, hgt] at hx
      rw [hwa] at ha hb hcl
      rw [hgt] at hgr
      have HX := Lib.hid hx
      have HA := Lib.hid ha
      have HBa := Lib.hid hb
      have HC := Lib.hid hcl
      have HL := Lib.hid hl
      have HWF := Lib.hid hwf
      clear hc hd hA ba hx ha hb hcl HM HB hl hwf
      go_wp2_with fail
      refine HC.out.mono ?_
      rintro e w1 ⟨rfl, b1⟩
      have hgw := HA.out.lt
      have HB1 := Lib.hid (HBa.out.trans (b1.mono (by omega)))
      have HM1 := Lib.hid (HA.out.below b1 hgw)
      have d0 := (HX.out.below b1 HX.out.lt).cell 0
      clear b1 hgt hwa c1 c2 HC HA HBa HX hgw hgr
      by_cases hm : mk k = true
      · have HMK := Lib.hid hm
        go_wp2_with (at_mapUpdate; refine wpList_mapI_put rfl (.tmp 19) (.tmp 21) (.tmp 22) rfl g k _ rfl HM1.out (by unfold maxLen; omega) p k HWF.out (by omega) rfl rfl ?_
                     intro w2 hm2 hg2
                     have HM2 := Lib.hid (hm2.congr (lastTo_put HL.out HMK.out))
                     have HB2 := Lib.hid (HB1.out.grown hg2 (by have := HM1.out.lt; omega) (fun j e => by cases e; exact Nat.le_refl _))
                     clear hm2 hg2)
        go_roundw
        case rel => exact ⟨k + 1, by omega, by go_num, HM2, HB2⟩
        case measure => simp [intOf]; omega
      · have hm' : mk k = false := by simpa using hm
        have HM2 := Lib.hid ((HM1.out.congr (lastTo_skip hm')))
        clear hm
        go_wp2_with fail
        go_roundw
        case rel =>
          obtain ⟨D, h1, h2⟩ := HM2.out
          exact ⟨k + 1, by omega, by go_num, Lib.hid ⟨D, h1.mono (Nat.le_succ _), h2⟩, HB1⟩
        case measure => simp [intOf]; omega
    · obtain rfl : k = m := by omega
      go_wp2_with fail
      go_ret
      exact ⟨g, rfl, by rw [HG.out]; exact Nat.le_refl _, HM.out, by rw [HG.out]; exact HB.out⟩
end Go.Proofs.YtbggkfomfeeikaaGreatDoor
