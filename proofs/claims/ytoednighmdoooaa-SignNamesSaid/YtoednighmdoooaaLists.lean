/-
  Words for lists of bytes: the contract's shape for a new list; a list that goes on being read; two lists laid one behind the other; parts of a list; exclusive or of two bytes.
-/
import Derived.Test.YtoednighmdoooaaConcat
import Derived.Test.YtoednighmdoooaaKey
import Derived.Test.YtoednighmdoooaaIn
import Derived.Laws.BitsAllLaws
namespace Go.Proofs.Ytoednighmdoooaa
open Go.RowKit Go.Shelf
set_option maxRecDepth 100000

/-- A new list that holds s. -/
def NewL (n : Nat) (s : List UInt8) (w : World) (e : Ending) (w' : World) : Prop :=
  ∃ g cap, e = .returned (.slice (some ⟨g, 0, none⟩) n cap) ∧ w.heap.size ≤ g ∧ Bsl w' w'.heap.size (some ⟨g, 0, none⟩) n cap s ∧ Below w.heap.size w w'
theorem bsl_of_holds {w : World} {g n cap : Nat} {s : List UInt8} (hs : s.length = n) (h1 : n ≤ cap) (h2 : cap ≤ maxLen) (hg : g < w.heap.size) (h : Holds w g s) : Bsl w w.heap.size (some ⟨g, 0, none⟩) n cap s :=
  ⟨hs, h1, h2, fun e => (by cases e), fun _ => ⟨g, 0, rfl, hg, fun i hi => by rw [Nat.zero_add]; exact h i hi⟩⟩
theorem KeyPost.newL {x : W4} {w w' : World} {e : Ending} (h : KeyPost x w e w') : NewL 16 (bytesW x 4) w e w' := by
  obtain ⟨g, cap, he, h1, h2, h3, h4, h5, h6⟩ := h
  exact ⟨g, cap, he, h1, bsl_of_holds (bytesW_length _ _) h3 h4 h2 h5, h6⟩
theorem NewPost.newL {s : List UInt8} {n : Nat} {w w' : World} {e : Ending} (h : NewPost s w e w') (hn : s.length = n) : NewL n s w e w' := by
  subst hn
  obtain ⟨g, cap, he, h1, h2, h3, h4, h5, h6⟩ := h
  exact ⟨g, cap, he, h1, bsl_of_holds rfl h3 h4 h2 h5, h6⟩
/-- An append to a slice of the call's own writes nothing below the call. -/
theorem app_below {base n : Nat} {e : TypeId} {size : Nat} {v : Value} {xs : List Value} {w W W' : World} (hb : Below base w W) (ho : W.ownsRow base e size v n xs) (hg : W.grownBy W' v.ownBlock) (hs : base ≤ W.heap.size) : Below base w W' :=
  hb.grown hg hs (fun _ h => (ho.lt _ h).1)
theorem own_nil (w : World) (B : Nat) : w.ownsRow B 5 1 (.slice none 0 0) 0 (vals []) := World.ownsRow_nil _ _ _ _
theorem own_empty (w : World) : (w.alloc (.cells #[] 5)).ownsRow w.heap.size 5 1 (.slice (some ⟨w.heap.size, 0, none⟩) 0 0) 0 (vals []) :=
  ⟨rfl, .inr ⟨w.heap.size, 0, #[], rfl, Nat.le_refl _, heap_alloc_new w _, Nat.le_refl _, by unfold maxLen; omega, rfl, rfl⟩⟩
theorem Bsl.step {w w' : World} {a : Option Addr} {len cap : Nat} {s : List UInt8} (h : Bsl w w.heap.size a len cap s) (hb : Below w.heap.size w w') : Bsl w' w'.heap.size a len cap s := (h.below hb).more hb.size
theorem bsl_one (w : World) (g : Nat) (x : UInt8) (h : Blk w g 5 #[.int .u8 (x.toNat : Int)]) (hg : g < w.heap.size) : Bsl w w.heap.size (some ⟨g, 0, none⟩) 1 1 [x] :=
  ⟨rfl, Nat.le_refl _, by unfold maxLen; omega, fun e => (by cases e), fun _ => ⟨g, 0, rfl, hg, fun i hi => by
    have : i = 0 := by simpa using hi
    subst this
    exact h.cell 0⟩⟩
/-- Behind a new byte: the byte's own slice. -/
theorem one_bsl (w : World) (x : UInt8) : Bsl (w.alloc (.cells #[.int .u8 (x.toNat : Int)] 5)) (w.alloc (.cells #[.int .u8 (x.toNat : Int)] 5)).heap.size (some ⟨w.heap.size, 0, none⟩) 1 1 [x] :=
  bsl_one _ _ x (Blk.new w _ _) (by simp)
/-- The cells of an array of bytes. -/
def ar (s : List UInt8) : Array Value := (vals s).toArray
theorem ar_size (s : List UInt8) : (ar s).size = s.length := by simp [ar, vals]
theorem ar_get (s : List UInt8) (i : Nat) (h : i < s.length) : (ar s)[i]? = some (.int .u8 ((s[i]).toNat : Int)) := by simp [ar, vals, h]
theorem flat2 (p q : Part) : flat [p, q] = p.s ++ q.s := by simp [flat]
/-- Two lists in a row that has just been made. -/
theorem concat2 (w : World) (a : Option Addr) (la ca : Nat) (s : List UInt8) (b : Option Addr) (lb cb : Nat) (t : List UInt8) (hA : Bsl w w.heap.size a la ca s) (hB : Bsl w w.heap.size b lb cb t) (h0 : 0 < la + lb) (hm : la + lb ≤ 100000) :
    Calls Try.prog 30 #[.slice (some ⟨w.heap.size, 0, none⟩) 2 2] (w.alloc (.cells #[.slice a la ca, .slice b lb cb] 22)) (NewL (la + lb) (s ++ t) w) := by
  have hx := Blk.new w 22 #[.slice a la ca, .slice b lb cb]
  have hb1 : Below w.heap.size w (w.alloc (.cells #[.slice a la ca, .slice b lb cb] 22)) := (Below.refl _ w).alloc (Nat.le_refl _) _
  obtain ⟨w1, hw1⟩ : ∃ w1, w.alloc (.cells #[.slice a la ca, .slice b lb cb] 22) = w1 := ⟨_, rfl⟩
  rw [hw1] at hx hb1 ⊢
  have e1 := hA.1; have e2 := hB.1
  have hk := concat_any w.heap.size 2 [⟨a, la, ca, s⟩, ⟨b, lb, cb, t⟩] w1 hx.lt (by simp) (by simp)
    (fun i h => by
      have : i = 0 ∨ i = 1 := by simp at h; omega
      rcases this with rfl | rfl
      · exact hx.cell 0
      · exact hx.cell 1)
    (fun i h => by
      have : i = 0 ∨ i = 1 := by simp at h; omega
      rcases this with rfl | rfl
      · exact hA.step hb1
      · exact hB.step hb1)
    (by rw [flat2]; simp; omega) (by rw [flat2]; simp; omega)
  rw [flat2] at hk
  refine Calls.mono hk fun e w2 h => ?_
  obtain ⟨g, cap, he, h1, h2, h3⟩ := NewPost.newL h (n := la + lb) (by simp; omega)
  exact ⟨g, cap, he, Nat.le_trans hb1.size h1, h2, hb1.trans (h3.mono hb1.size)⟩
theorem flat3 (p q r : Part) : flat [p, q, r] = p.s ++ (q.s ++ r.s) := by simp [flat]
theorem concat3 (w : World) (a : Option Addr) (la ca : Nat) (s : List UInt8) (b : Option Addr) (lb cb : Nat) (t : List UInt8) (c : Option Addr) (lc cc : Nat) (u : List UInt8) (hA : Bsl w w.heap.size a la ca s) (hB : Bsl w w.heap.size b lb cb t) (hC : Bsl w w.heap.size c lc cc u) (h0 : 0 < la + lb + lc) (hm : la + lb + lc ≤ 100000) :
    Calls Try.prog 30 #[.slice (some ⟨w.heap.size, 0, none⟩) 3 3] (w.alloc (.cells #[.slice a la ca, .slice b lb cb, .slice c lc cc] 22)) (NewL (la + lb + lc) (s ++ (t ++ u)) w) := by
  have hx := Blk.new w 22 #[.slice a la ca, .slice b lb cb, .slice c lc cc]
  have hb1 : Below w.heap.size w (w.alloc (.cells #[.slice a la ca, .slice b lb cb, .slice c lc cc] 22)) := (Below.refl _ w).alloc (Nat.le_refl _) _
  obtain ⟨w1, hw1⟩ : ∃ w1, w.alloc (.cells #[.slice a la ca, .slice b lb cb, .slice c lc cc] 22) = w1 := ⟨_, rfl⟩
  rw [hw1] at hx hb1 ⊢
  have e1 := hA.1; have e2 := hB.1; have e3 := hC.1
  have hk := concat_any w.heap.size 3 [⟨a, la, ca, s⟩, ⟨b, lb, cb, t⟩, ⟨c, lc, cc, u⟩] w1 hx.lt (by simp) (by simp)
    (fun i h => by
      have : i = 0 ∨ i = 1 ∨ i = 2 := by simp at h; omega
      rcases this with rfl | rfl | rfl
      · exact hx.cell 0
      · exact hx.cell 1
      · exact hx.cell 2)
    (fun i h => by
      have : i = 0 ∨ i = 1 ∨ i = 2 := by simp at h; omega
      rcases this with rfl | rfl | rfl
      · exact hA.step hb1
      · exact hB.step hb1
      · exact hC.step hb1)
    (by rw [flat3]; simp; omega) (by rw [flat3]; simp; omega)
  rw [flat3] at hk
  refine Calls.mono hk fun e w2 h => ?_
  obtain ⟨g, cap, he, h1, h2, h3⟩ := NewPost.newL h (n := la + lb + lc) (by simp; omega)
  exact ⟨g, cap, he, Nat.le_trans hb1.size h1, h2, hb1.trans (h3.mono hb1.size)⟩
/-- The first bytes of a list; a part of it. -/
theorem Bsl.pre {w : World} {B len cap : Nat} {a : Option Addr} {s : List UInt8} (h : Bsl w B a len cap s) (k : Nat) (hk : k ≤ len) : Bsl w B a k cap (s.take k) := by
  obtain ⟨h1, h2, h3, h4, h5⟩ := h
  refine ⟨by simp; omega, by omega, h3, h4, fun h0 => ?_⟩
  obtain ⟨b, off, e, hb, hc⟩ := h5 (by omega)
  refine ⟨b, off, e, hb, fun i hi => ?_⟩
  have hi' : i < s.length := by simp at hi; omega
  rw [hc i hi', List.getElem_take]
theorem Bsl.win {w : World} {B b off len cap : Nat} {s : List UInt8} (h : Bsl w B (some ⟨b, off, none⟩) len cap s) (l k : Nat) (hk : l + k ≤ len) : Bsl w B (some ⟨b, off + l, none⟩) k (cap - l) ((s.drop l).take k) := by
  obtain ⟨h1, h2, h3, h4, h5⟩ := h
  refine ⟨by simp; omega, by omega, by omega, fun e => (by cases e), fun h0 => ?_⟩
  obtain ⟨b', off', e, hb, hc⟩ := h5 (by omega)
  cases e
  refine ⟨b, off + l, rfl, hb, fun i hi => ?_⟩
  have hi' : l + i < s.length := by simp at hi; omega
  rw [Nat.add_assoc, hc (l + i) hi', List.getElem_take, List.getElem_drop]
/-- The first n bytes of k turned by m. -/
def xorTo (k m : List UInt8) : Nat → List UInt8
  | 0 => k
  | n + 1 => (xorTo k m n).set n (k.getD n 0 ^^^ m.getD n 0)
theorem xorTo_length (k m : List UInt8) : ∀ n, (xorTo k m n).length = k.length
  | 0 => rfl
  | n + 1 => by rw [xorTo, List.length_set, xorTo_length k m n]
theorem xorTo_get (k m : List UInt8) : ∀ (n i : Nat), i < k.length → (xorTo k m n).getD i 0 = if i < n then k.getD i 0 ^^^ m.getD i 0 else k.getD i 0
  | 0, i, _ => by simp [xorTo]
  | n + 1, i, hi => by
    have ih := xorTo_get k m n i hi
    have hl : i < (xorTo k m n).length := by rw [xorTo_length]; exact hi
    rw [xorTo, List.getD_eq_getElem?_getD, List.getElem?_set]
    by_cases e : n = i
    · subst e
      rw [if_pos rfl, if_pos hl, if_pos (show n < n + 1 by omega)]
      rfl
    · rw [if_neg e, ← List.getD_eq_getElem?_getD, ih]
      by_cases h : i < n
      · rw [if_pos h, if_pos (by omega)]
      · rw [if_neg h, if_neg (by omega)]
theorem xor8 (x y : UInt8) : bits .xor .u8 (x.toNat : Int) (y.toNat : Int) = ((x ^^^ y).toNat : Int) := by
  rw [u8_xor_nat _ _ x.toNat_lt y.toNat_lt, UInt8.toNat_xor]
theorem Bsl.cellD {w : World} {B g off len cap : Nat} {s : List UInt8} (h : Bsl w B (some ⟨g, off, none⟩) len cap s) (i : Nat) (hi : i < len) : w.cell? ⟨g, off + i, none⟩ = some (.int .u8 ((s.getD i 0).toNat : Int)) := by
  obtain ⟨b, o, e, _, hc⟩ := h.2.2.2.2 (by omega)
  cases e
  have hl : i < s.length := by rw [h.1]; exact hi
  rw [hc i hl, List.getD_eq_getElem?_getD, List.getElem?_eq_getElem hl]
  rfl
theorem bsl_noughts (n : Nat) (hn : n ≤ 1000) (w : World) : Bsl (w.alloc (.cells (Array.replicate n (.int .u8 0)) 5)) (w.alloc (.cells (Array.replicate n (.int .u8 0)) 5)).heap.size (some ⟨w.heap.size, 0, none⟩) n n (List.replicate n 0) := by
  refine bsl_of_holds (by simp) (Nat.le_refl _) (by unfold maxLen; omega) (Blk.new w 5 _).lt fun i hi => ?_
  have hi' : i < n := by simpa using hi
  rw [(Blk.new w 5 (Array.replicate n (.int .u8 0))).cell i]
  simp [hi']
end Go.Proofs.Ytoednighmdoooaa
