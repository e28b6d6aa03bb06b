/-
  Words for rows of the call's own and for lists of bytes, of any program: what goes on being read beside what is written; parts of a list; exclusive or of two bytes.
-/
import Derived.Test.YtadffkfalclpjaaMem
import Derived.Laws.BitsAllLaws
import Derived.Deep.MidRow
namespace Go.Proofs.Ytadffkfalclpjaa
open Go.RowKit Go.Shelf
set_option maxRecDepth 100000

theorem own_below {base : Nat} {e : TypeId} {size : Nat} {v : Value} {n : Nat} {xs : List Value} {w w' : World} (h : w.ownsRow base e size v n xs) (hb : Below w.heap.size w w') : w'.ownsRow base e size v n xs :=
  h.kept (row := none) ⟨hb.os, hb.tape, hb.output, hb.size, fun i hi _ => hb.block i hi⟩ (by cases hv : v.ownBlock <;> simp)
theorem bsl_of_holds {w : World} {g n cap : Nat} {s : List UInt8} (hs : s.length = n) (h1 : n ≤ cap) (h2 : cap ≤ maxLen) (hg : g < w.heap.size) (h : Holds w g s) : Bsl w w.heap.size (some ⟨g, 0, none⟩) n cap s :=
  ⟨hs, h1, h2, fun e => (by cases e), fun _ => ⟨g, 0, rfl, hg, fun i hi => by rw [Nat.zero_add]; exact h i hi⟩⟩
/-- A new list that holds s. -/
def NewL (n : Nat) (s : List UInt8) (w : World) (e : Ending) (w' : World) : Prop :=
  ∃ g cap, e = .returned (.slice (some ⟨g, 0, none⟩) n cap) ∧ w.heap.size ≤ g ∧ Bsl w' w'.heap.size (some ⟨g, 0, none⟩) n cap s ∧ Below w.heap.size w w'
/-- An append to a slice of the call's own writes nothing below the call. -/
theorem app_below {base n : Nat} {e : TypeId} {size : Nat} {v : Value} {xs : List Value} {w W W' : World} (hb : Below base w W) (ho : W.ownsRow base e size v n xs) (hg : W.grownBy W' v.ownBlock) (hs : base ≤ W.heap.size) : Below base w W' :=
  hb.grown hg hs (fun _ h => (ho.lt _ h).1)
theorem own_nil (w : World) (B : Nat) : w.ownsRow B 5 1 (.slice none 0 0) 0 (vals []) := World.ownsRow_nil _ _ _ _
theorem own_empty (w : World) : (w.alloc (.cells #[] 5)).ownsRow w.heap.size 5 1 (.slice (some ⟨w.heap.size, 0, none⟩) 0 0) 0 (vals []) :=
  ⟨rfl, .inr ⟨w.heap.size, 0, #[], rfl, Nat.le_refl _, heap_alloc_new w _, Nat.le_refl _, by unfold maxLen; omega, rfl, rfl⟩⟩
theorem Bsl.step {w w' : World} {a : Option Addr} {len cap : Nat} {s : List UInt8} (h : Bsl w w.heap.size a len cap s) (hb : Below w.heap.size w w') : Bsl w' w'.heap.size a len cap s := (h.below hb).more hb.size
theorem Bsl.beside {w w' : World} {b off len cap g : Nat} {s : List UInt8} (h : Bsl w w.heap.size (some ⟨b, off, none⟩) len cap s) (hg : w.grownBy w' (some g)) (hne : b ≠ g) : Bsl w' w'.heap.size (some ⟨b, off, none⟩) len cap s := by
  obtain ⟨h1, h2, h3, h4, h5⟩ := h
  refine ⟨h1, h2, h3, h4, fun hl => ?_⟩
  obtain ⟨b', off', e, hlt, hc⟩ := h5 hl
  cases e
  refine ⟨b, off, rfl, Nat.lt_of_lt_of_le hlt hg.size, fun i hi => ?_⟩
  rw [← hc i hi]
  exact World.cell?_of_block (a := ⟨b, off + i, none⟩) (hg.block b hlt (fun e => hne (Option.some.inj e)))
theorem bsl_one (w : World) (g : Nat) (x : UInt8) (h : Blk w g 5 #[.int .u8 (x.toNat : Int)]) (hg : g < w.heap.size) : Bsl w w.heap.size (some ⟨g, 0, none⟩) 1 1 [x] :=
  ⟨rfl, Nat.le_refl _, by unfold maxLen; omega, fun e => (by cases e), fun _ => ⟨g, 0, rfl, hg, fun i hi => by
    have : i = 0 := by simpa using hi
    subst this
    exact h.cell 0⟩⟩
/-- Behind a new byte: the byte's own slice. -/
theorem one_bsl (w : World) (x : UInt8) : Bsl (w.alloc (.cells #[.int .u8 (x.toNat : Int)] 5)) (w.alloc (.cells #[.int .u8 (x.toNat : Int)] 5)).heap.size (some ⟨w.heap.size, 0, none⟩) 1 1 [x] :=
  bsl_one _ _ x (Blk.new w _ _) (by simp)
/-- The cells of an array of bytes. -/
def ar (s : List UInt8) : Array Value := (vals s).toArray
theorem ar_size (s : List UInt8) : (ar s).size = s.length := by simp [ar, vals]
theorem ar_get (s : List UInt8) (i : Nat) (h : i < s.length) : (ar s)[i]? = some (.int .u8 ((s[i]).toNat : Int)) := by simp [ar, vals, h]
/-- The first bytes of a list; a part of it. -/
theorem Bsl.pre {w : World} {B len cap : Nat} {a : Option Addr} {s : List UInt8} (h : Bsl w B a len cap s) (k : Nat) (hk : k ≤ len) : Bsl w B a k cap (s.take k) := by
  obtain ⟨h1, h2, h3, h4, h5⟩ := h
  refine ⟨by simp; omega, by omega, h3, h4, fun h0 => ?_⟩
  obtain ⟨b, off, e, hb, hc⟩ := h5 (by omega)
  refine ⟨b, off, e, hb, fun i hi => ?_⟩
  have hi' : i < s.length := by simp at hi; omega
  rw [hc i hi', List.getElem_take]
theorem Bsl.win {w : World} {B b off len cap : Nat} {s : List UInt8} (h : Bsl w B (some ⟨b, off, none⟩) len cap s) (l k : Nat) (hk : l + k ≤ len) : Bsl w B (some ⟨b, off + l, none⟩) k (cap - l) ((s.drop l).take k) := by
  obtain ⟨h1, h2, h3, h4, h5⟩ := h
  refine ⟨by simp; omega, by omega, by omega, fun e => (by cases e), fun h0 => ?_⟩
  obtain ⟨b', off', e, hb, hc⟩ := h5 (by omega)
  cases e
  refine ⟨b, off + l, rfl, hb, fun i hi => ?_⟩
  have hi' : l + i < s.length := by simp at hi; omega
  rw [Nat.add_assoc, hc (l + i) hi', List.getElem_take, List.getElem_drop]
/-- The first n bytes of k turned by m. -/
def xorTo (k m : List UInt8) : Nat → List UInt8
  | 0 => k
  | n + 1 => (xorTo k m n).set n (k.getD n 0 ^^^ m.getD n 0)
theorem xorTo_length (k m : List UInt8) : ∀ n, (xorTo k m n).length = k.length
  | 0 => rfl
  | n + 1 => by rw [xorTo, List.length_set, xorTo_length k m n]
theorem xorTo_get (k m : List UInt8) : ∀ (n i : Nat), i < k.length → (xorTo k m n).getD i 0 = if i < n then k.getD i 0 ^^^ m.getD i 0 else k.getD i 0
  | 0, i, _ => by simp [xorTo]
  | n + 1, i, hi => by
    have ih := xorTo_get k m n i hi
    have hl : i < (xorTo k m n).length := by rw [xorTo_length]; exact hi
    rw [xorTo, List.getD_eq_getElem?_getD, List.getElem?_set]
    by_cases e : n = i
    · subst e
      rw [if_pos rfl, if_pos hl, if_pos (show n < n + 1 by omega)]
      rfl
    · rw [if_neg e, ← List.getD_eq_getElem?_getD, ih]
      by_cases h : i < n
      · rw [if_pos h, if_pos (by omega)]
      · rw [if_neg h, if_neg (by omega)]
theorem xor8 (x y : UInt8) : bits .xor .u8 (x.toNat : Int) (y.toNat : Int) = ((x ^^^ y).toNat : Int) := by
  rw [u8_xor_nat _ _ x.toNat_lt y.toNat_lt, UInt8.toNat_xor]
theorem Bsl.cellD {w : World} {B g off len cap : Nat} {s : List UInt8} (h : Bsl w B (some ⟨g, off, none⟩) len cap s) (i : Nat) (hi : i < len) : w.cell? ⟨g, off + i, none⟩ = some (.int .u8 ((s.getD i 0).toNat : Int)) := by
  obtain ⟨b, o, e, _, hc⟩ := h.2.2.2.2 (by omega)
  cases e
  have hl : i < s.length := by rw [h.1]; exact hi
  rw [hc i hl, List.getD_eq_getElem?_getD, List.getElem?_eq_getElem hl]
  rfl
theorem bsl_noughts (n : Nat) (hn : n ≤ 1000) (w : World) : Bsl (w.alloc (.cells (Array.replicate n (.int .u8 0)) 5)) (w.alloc (.cells (Array.replicate n (.int .u8 0)) 5)).heap.size (some ⟨w.heap.size, 0, none⟩) n n (List.replicate n 0) := by
  refine bsl_of_holds (by simp) (Nat.le_refl _) (by unfold maxLen; omega) (Blk.new w 5 _).lt fun i hi => ?_
  have hi' : i < n := by simpa using hi
  rw [(Blk.new w 5 (Array.replicate n (.int .u8 0))).cell i]
  simp [hi']
theorem Blk.bsl {w : World} {g t n : Nat} {s : List UInt8} (h : Blk w g t (ar s)) (hs : s.length = n) (hn : n ≤ 1000) : Bsl w w.heap.size (some ⟨g, 0, none⟩) n n s :=
  bsl_of_holds hs (Nat.le_refl _) (by unfold maxLen; omega) h.lt fun i hi => by rw [h.cell i, ar_get s i hi]
theorem Bsl.range {w : World} {B g off len cap : Nat} {s : List UInt8} (h : Bsl w B (some ⟨g, off, none⟩) len cap s) (h0 : 0 < len) : w.rangeAt g off (vals s) := fun j v hv => by
  obtain ⟨hj, rfl⟩ := vals_get hv
  obtain ⟨b, o, e, _, hc⟩ := h.2.2.2.2 h0
  cases e
  exact hc j hj
theorem Blk.setRow {w : World} {g t : Nat} {old cs : Array Value} (h : Blk w g t old) : Blk (w.setRow g cs) g t cs := setRow_heap w g old cs t (0, 0) h
theorem own_slice {w : World} {B n : Nat} {v : Value} {xs : List Value} (h : w.ownsRow B 5 1 v n xs) : ∃ a cap, v = .slice a n cap := by
  rcases h.2 with ⟨rfl, h0⟩ | ⟨g, cap, cur, rfl, _⟩
  · exact ⟨none, 0, by rw [h0]⟩
  · exact ⟨_, _, rfl⟩
theorem own_bsl {w : World} {B n cap : Nat} {a : Option Addr} {s : List UInt8} (h : w.ownsRow B 5 1 (.slice a n cap) n (vals s)) : Bsl w w.heap.size a n cap s := by
  have hl : s.length = n := by have := h.1; simpa [vals] using this
  obtain ⟨h1, ⟨h2, h3⟩ | ⟨g, cap', cur, h2, hb, hh, hnc, hcm, hsz, ht⟩⟩ := h
  · cases h2
    exact ⟨hl, Nat.le_refl _, Nat.zero_le _, fun _ => rfl, fun h => absurd h (by omega)⟩
  · cases h2
    refine ⟨hl, hnc, hcm, fun e => (by cases e), fun _ => ⟨g, 0, rfl, (Array.getElem?_eq_some_iff.1 hh).1, fun i hi => ?_⟩⟩
    rw [Nat.zero_add, cell_of_row w g i cur 5 (0, 0) hh]
    have : (vals s)[i]? = some (.int .u8 ((s[i]).toNat : Int)) := by simp [vals, hi]
    rw [← ht, List.getElem?_take_of_lt (by omega)] at this
    rw [← this, Array.getElem?_toList]
/-- A list of the call's own. -/
def OwnV (n : Nat) (s : List UInt8) (w : World) (e : Ending) (w' : World) : Prop := ∃ v, e = .returned v ∧ w'.ownsRow w.heap.size 5 1 v n (vals s) ∧ Below w.heap.size w w'
theorem own_to {w : World} {B n : Nat} {v : Value} {s : List UInt8} (h : w.ownsRow B 5 1 v n (vals s)) : ∃ a cap, v = .slice a n cap ∧ Bsl w w.heap.size a n cap s := by
  obtain ⟨a, cap, rfl⟩ := own_slice h
  exact ⟨a, cap, rfl, own_bsl h⟩
theorem own_mono {w : World} {B B' : Nat} {e : TypeId} {size : Nat} {v : Value} {n : Nat} {xs : List Value} (h : w.ownsRow B e size v n xs) (hB : B' ≤ B) : w.ownsRow B' e size v n xs :=
  ⟨h.1, h.2.imp id fun ⟨g, cap, cur, h1, h2, h3⟩ => ⟨g, cap, cur, h1, Nat.le_trans hB h2, h3⟩⟩
theorem own_other {w w' : World} {B g : Nat} {e : TypeId} {size : Nat} {v : Value} {n : Nat} {xs : List Value} (h : w.ownsRow B e size v n xs) (hg : w.grownBy w' (some g)) (hne : ∀ k, v.ownBlock = some k → k ≠ g) : w'.ownsRow B e size v n xs :=
  h.kept hg (by
    cases hv : v.ownBlock with
    | none => exact .inl rfl
    | some k => exact .inr fun e => hne k hv (Option.some.inj e))
/-- A cell of a row of one's own. -/
theorem own_cell {w : World} {B g n cap : Nat} {e : TypeId} {xs : List Value} (h : w.ownsRow B e 1 (.slice (some ⟨g, 0, none⟩) n cap) n xs) (i : Nat) (hi : i < n) : w.cell? ⟨g, i, none⟩ = some (xs.getD i undef) := by
  obtain ⟨h1, ⟨h2, h3⟩ | ⟨g', cap', cur, h2, hb, hh, hnc, hcm, hsz, ht⟩⟩ := h
  · cases h2
  · cases h2
    have hl : i < xs.length := by rw [h1]; omega
    rw [cell_of_row w g i cur e (0, 0) hh, List.getD_eq_getElem?_getD, List.getElem?_eq_getElem hl, ← Array.getElem?_toList]
    have : cur.toList[i]? = xs[i]? := by rw [← ht, List.getElem?_take_of_lt (by omega)]
    rw [this, List.getElem?_eq_getElem hl]
    rfl
theorem own_lt {w : World} {B g n cap : Nat} {e : TypeId} {xs : List Value} (h : w.ownsRow B e 1 (.slice (some ⟨g, 0, none⟩) n cap) n xs) : B ≤ g ∧ g < w.heap.size := h.lt g rfl
theorem own_room {w : World} {B g n cap : Nat} {e : TypeId} {xs : List Value} (h : w.ownsRow B e 1 (.slice (some ⟨g, 0, none⟩) n cap) n xs) : n ≤ cap ∧ cap ≤ maxLen := by
  obtain ⟨h1, ⟨h2, h3⟩ | ⟨g', cap', cur, h2, hb, hh, hnc, hcm, hsz, ht⟩⟩ := h
  · cases h2
  · cases h2
    exact ⟨hnc, hcm⟩
theorem blk_kept {w w' : World} {b : Nat} {t : TypeId} {cs : Array Value} {row : Option Nat} (h : Blk w b t cs) (hg : w.grownBy w' row) (hk : ∀ r, row = some r → ∃ o : Obj, w.heap[r]? = some o ∧ o.isCells = false) : Blk w' b t cs :=
  h.grown hg (fun e' => by obtain ⟨o, ho, hc⟩ := hk b e'.symm; rw [show w.heap[b]? = _ from h] at ho; cases ho; cases hc)
theorem own_kept {w w' : World} {B g n cap : Nat} {e : TypeId} {xs : List Value} {row : Option Nat} (h : w.ownsRow B e 1 (.slice (some ⟨g, 0, none⟩) n cap) n xs) (hg : w.grownBy w' row) (hk : ∀ r, row = some r → ∃ o : Obj, w.heap[r]? = some o ∧ o.isCells = false) : w'.ownsRow B e 1 (.slice (some ⟨g, 0, none⟩) n cap) n xs := by
  refine h.kept hg (.inr fun er => ?_)
  obtain ⟨o, ho, hc⟩ := hk g (by simpa [Value.ownBlock] using er.symm)
  obtain ⟨h1, ⟨h2, h3⟩ | ⟨g', cap', cur, h2, hb, hh, _⟩⟩ := h
  · cases h2
  · cases h2
    rw [hh] at ho; cases ho; cases hc
theorem own_blk {w : World} {B g n cap : Nat} {e : TypeId} {xs : List Value} (h : w.ownsRow B e 1 (.slice (some ⟨g, 0, none⟩) n cap) n xs) : ∃ cs, Blk w g e cs := by
  obtain ⟨h1, ⟨h2, h3⟩ | ⟨g', cap', cur, h2, hb, hh, _⟩⟩ := h
  · cases h2
  · cases h2
    exact ⟨_, hh⟩
theorem keepsOthers_grown {W W' : World} {g : Nat} {t : TypeId} {cs : Array Value} (h : W.grownBy W' (some g)) (hb : Blk W g t cs) : KeepsOthers W W' :=
  ⟨h.size, fun k o hk ho => (h.block k (Array.getElem?_eq_some_iff.1 hk).1 (fun e => by
    obtain rfl : k = g := Option.some.inj e
    rw [show W.heap[k]? = _ from hb] at hk
    cases hk
    cases ho)).trans hk⟩
theorem only_two (w : World) (g : Nat) (u v : Value) : w.grownBy ((w.setCell ⟨g, 0, none⟩ u).setCell ⟨g, 1, none⟩ v) (some g) :=
  only_setCell (p := ⟨g, 1, none⟩) (only_setCell (p := ⟨g, 0, none⟩) (World.grownBy.refl w (some g)) (.inl rfl) u) (.inl rfl) v
theorem below_alloc3' (w : World) (o1 o2 o3 : Obj) : Below w.heap.size w (((w.alloc o1).alloc o2).alloc o3) := (((Below.refl _ w).alloc (Nat.le_refl _) _).alloc (by simp) _).alloc (by simp; omega) _
end Go.Proofs.Ytadffkfalclpjaa
