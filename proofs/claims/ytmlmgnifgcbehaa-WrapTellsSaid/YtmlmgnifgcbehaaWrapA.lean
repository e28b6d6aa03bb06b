/-
  Words for package wrap: a string made bytes, arrays of sixteen bytes in memory and by value, two and three lists laid one behind the other; isPass, put.
-/
import Derived.Test.YtmlmgnifgcbehaaMacRow
import Derived.Test.YtmlmgnifgcbehaaIn
import Derived.Deep.MidRow
import Derived.Lib.ConvBytes
namespace Go.Proofs.Ytmlmgnifgcbehaa
open Go.RowKit Go.Shelf
set_option maxRecDepth 100000

/-- The bytes of a string. -/
def strB (p : ByteArray) : List UInt8 := p.data.toList
theorem strB_length (p : ByteArray) : (strB p).length = p.size := by simp [strB]

/-- A new list that holds s. -/
def NewL (n : Nat) (s : List UInt8) (w : World) (e : Ending) (w' : World) : Prop :=
  ∃ g cap, e = .returned (.slice (some ⟨g, 0, none⟩) n cap) ∧ w.heap.size ≤ g ∧ Bsl w' w'.heap.size (some ⟨g, 0, none⟩) n cap s ∧ Below w.heap.size w w'
theorem bsl_of_holds {w : World} {g n cap : Nat} {s : List UInt8} (hs : s.length = n) (h1 : n ≤ cap) (h2 : cap ≤ maxLen) (hg : g < w.heap.size) (h : Holds w g s) : Bsl w w.heap.size (some ⟨g, 0, none⟩) n cap s :=
  ⟨hs, h1, h2, fun e => (by cases e), fun _ => ⟨g, 0, rfl, hg, fun i hi => by rw [Nat.zero_add]; exact h i hi⟩⟩
theorem KeyPost.newL {x : W4} {w w' : World} {e : Ending} (h : KeyPost x w e w') : NewL 16 (bytesW x 4) w e w' := by
  obtain ⟨g, cap, he, h1, h2, h3, h4, h5, h6⟩ := h
  exact ⟨g, cap, he, h1, bsl_of_holds (bytesW_length _ _) h3 h4 h2 h5, h6⟩
theorem NewPost.newL {s : List UInt8} {n : Nat} {w w' : World} {e : Ending} (h : NewPost s w e w') (hn : s.length = n) : NewL n s w e w' := by
  subst hn
  obtain ⟨g, cap, he, h1, h2, h3, h4, h5, h6⟩ := h
  exact ⟨g, cap, he, h1, bsl_of_holds rfl h3 h4 h2 h5, h6⟩

/-- A string made bytes: new memory that holds them. -/
theorem str_bytes (w : World) (p : ByteArray) (hp : p.size ≤ 100000) : ∃ g G w1, (convert 9 22 (.string p)).run Try.prog w = .ok (.slice (some ⟨g, 0, none⟩) p.size G) w1 ∧ Bsl w1 w1.heap.size (some ⟨g, 0, none⟩) p.size G (strB p) ∧ Below w.heap.size w w1 := by
  refine ⟨w.heap.size, grownCap w p.size 0 5, Lib.bytesWorld w 5 p, Lib.run_convert_string_bytes w 9 22 5 p Try.underlying9 Try.underlying22 Try.underlying5, ?_, ?_⟩
  · refine ⟨strB_length p, grownCap_ge w _ _ _, grownCap_le_maxLen w _ _ _ (by unfold maxLen; omega), fun e => (by cases e), fun _ => ⟨_, 0, rfl, by rw [Lib.bytesWorld_size]; omega, fun i hi => ?_⟩⟩
    have hi' : i < p.size := by rw [strB_length] at hi; exact hi
    rw [Nat.zero_add, Lib.bytesWorld_cell w 5 p i hi']
    simp [strB, List.getD, hi']
  · exact ⟨rfl, rfl, rfl, by rw [Lib.bytesWorld_size]; omega, fun k hk => Lib.bytesWorld_at_old w _ p k hk⟩

/-- The cells of an array of bytes. -/
def ar (s : List UInt8) : Array Value := (vals s).toArray
theorem ar_size (s : List UInt8) : (ar s).size = s.length := by simp [ar, vals]
theorem ar_one (s : List UInt8) : (ar s).all (·.oneCell') = true := by
  refine Array.all_eq_true_iff_forall_mem.2 fun v hv => ?_
  simp only [ar, vals, List.mem_toArray, List.mem_map] at hv
  obtain ⟨x, _, rfl⟩ := hv
  rfl
theorem ar_get (s : List UInt8) (i : Nat) (h : i < s.length) : (ar s)[i]? = some (.int .u8 ((s[i]).toNat : Int)) := by simp [ar, vals, h]
theorem ar_set (s : List UInt8) (i : Nat) (x : UInt8) : (ar s).setIfInBounds i (.int .u8 (x.toNat : Int)) = ar (s.set i x) := by
  unfold ar vals
  rw [List.setIfInBounds_toArray, List.map_set]
theorem Blk.bsl {w : World} {g t n : Nat} {s : List UInt8} (h : Blk w g t (ar s)) (hs : s.length = n) (hn : n ≤ 1000) : Bsl w w.heap.size (some ⟨g, 0, none⟩) n n s :=
  bsl_of_holds hs (Nat.le_refl _) (by unfold maxLen; omega) h.lt fun i hi => by rw [h.cell i, ar_get s i hi]
theorem Bsl.range {w : World} {B g off len cap : Nat} {s : List UInt8} (h : Bsl w B (some ⟨g, off, none⟩) len cap s) (h0 : 0 < len) : w.rangeAt g off (vals s) := fun j v hv => by
  obtain ⟨hj, rfl⟩ := vals_get hv
  obtain ⟨b, o, e, _, hc⟩ := h.2.2.2.2 h0
  cases e
  exact hc j hj
theorem Blk.setRow {w : World} {g t : Nat} {old cs : Array Value} (h : Blk w g t old) : Blk (w.setRow g cs) g t cs := setRow_heap w g old cs t (0, 0) h
theorem Blk.farRow {w : World} {g k t : Nat} {old cs : Array Value} (h : Blk w k t old) (hk : k ≠ g) : Blk (w.setRow g cs) k t old := (setRow_other w g k cs hk).trans h
theorem _root_.Go.RowKit.Below.setRow {B : Nat} {a w : World} (h : Below B a w) {g : Nat} (hg : B ≤ g) (cs : Array Value) : Below B a (w.setRow g cs) :=
  h.trans ⟨rfl, rfl, rfl, by simp, fun k hk => setRow_other w g k cs (by omega)⟩

theorem flat2 (p q : Part) : flat [p, q] = p.s ++ q.s := by simp [flat]
/-- Two lists in a row that has just been made. -/
theorem concat2 (w : World) (a : Option Addr) (la ca : Nat) (s : List UInt8) (b : Option Addr) (lb cb : Nat) (t : List UInt8) (hA : Bsl w w.heap.size a la ca s) (hB : Bsl w w.heap.size b lb cb t) (h0 : 0 < la + lb) (hm : la + lb ≤ 100000) :
    Calls Try.prog 19 #[.slice (some ⟨w.heap.size, 0, none⟩) 2 2] (w.alloc (.cells #[.slice a la ca, .slice b lb cb] 22)) (NewL (la + lb) (s ++ t) w) := by
  have hx := Blk.new w 22 #[.slice a la ca, .slice b lb cb]
  have hb1 : Below w.heap.size w (w.alloc (.cells #[.slice a la ca, .slice b lb cb] 22)) := (Below.refl _ w).alloc (Nat.le_refl _) _
  obtain ⟨w1, hw1⟩ : ∃ w1, w.alloc (.cells #[.slice a la ca, .slice b lb cb] 22) = w1 := ⟨_, rfl⟩
  rw [hw1] at hx hb1 ⊢
  have e1 := hA.1; have e2 := hB.1
  have hk := concat_any w.heap.size 2 [⟨a, la, ca, s⟩, ⟨b, lb, cb, t⟩] w1 hx.lt (by simp) (by simp)
    (fun i h => by
      have : i = 0 ∨ i = 1 := by simp at h; omega
      rcases this with rfl | rfl
      · exact hx.cell 0
      · exact hx.cell 1)
    (fun i h => by
      have : i = 0 ∨ i = 1 := by simp at h; omega
      rcases this with rfl | rfl
      · exact hA.step hb1
      · exact hB.step hb1)
    (by rw [flat2]; simp; omega) (by rw [flat2]; simp; omega)
  rw [flat2] at hk
  refine Calls.mono hk fun e w2 h => ?_
  obtain ⟨g, cap, he, h1, h2, h3⟩ := NewPost.newL h (n := la + lb) (by simp; omega)
  exact ⟨g, cap, he, Nat.le_trans hb1.size h1, h2, hb1.trans (h3.mono hb1.size)⟩
theorem concat3 (w : World) (a : Option Addr) (la ca : Nat) (s : List UInt8) (b : Option Addr) (lb cb : Nat) (t : List UInt8) (c : Option Addr) (lc cc : Nat) (u : List UInt8) (hA : Bsl w w.heap.size a la ca s) (hB : Bsl w w.heap.size b lb cb t) (hC : Bsl w w.heap.size c lc cc u) (h0 : 0 < la + lb + lc) (hm : la + lb + lc ≤ 100000) :
    Calls Try.prog 19 #[.slice (some ⟨w.heap.size, 0, none⟩) 3 3] (w.alloc (.cells #[.slice a la ca, .slice b lb cb, .slice c lc cc] 22)) (NewL (la + lb + lc) (s ++ (t ++ u)) w) := by
  have hx := Blk.new w 22 #[.slice a la ca, .slice b lb cb, .slice c lc cc]
  have hb1 : Below w.heap.size w (w.alloc (.cells #[.slice a la ca, .slice b lb cb, .slice c lc cc] 22)) := (Below.refl _ w).alloc (Nat.le_refl _) _
  obtain ⟨w1, hw1⟩ : ∃ w1, w.alloc (.cells #[.slice a la ca, .slice b lb cb, .slice c lc cc] 22) = w1 := ⟨_, rfl⟩
  rw [hw1] at hx hb1 ⊢
  have e1 := hA.1; have e2 := hB.1; have e3 := hC.1
  have hk := concat_any w.heap.size 3 [⟨a, la, ca, s⟩, ⟨b, lb, cb, t⟩, ⟨c, lc, cc, u⟩] w1 hx.lt (by simp) (by simp)
    (fun i h => by
      have : i = 0 ∨ i = 1 ∨ i = 2 := by simp at h; omega
      rcases this with rfl | rfl | rfl
      · exact hx.cell 0
      · exact hx.cell 1
      · exact hx.cell 2)
    (fun i h => by
      have : i = 0 ∨ i = 1 ∨ i = 2 := by simp at h; omega
      rcases this with rfl | rfl | rfl
      · exact hA.step hb1
      · exact hB.step hb1
      · exact hC.step hb1)
    (by rw [flat3]; simp; omega) (by rw [flat3]; simp; omega)
  rw [flat3] at hk
  refine Calls.mono hk fun e w2 h => ?_
  obtain ⟨g, cap, he, h1, h2, h3⟩ := NewPost.newL h (n := la + lb + lc) (by simp; omega)
  exact ⟨g, cap, he, Nat.le_trans hb1.size h1, h2, hb1.trans (h3.mono hb1.size)⟩

theorem isPass_yes (p : ByteArray) (hp : (p.size : Int) ≤ 64) (w : World) : Calls Try.prog 15 #[.string p] w fun e w' => e = .returned (.bool true) ∧ w = w' := by
  have h0 : (0 : Int) ≤ p.size := by omega
  go_enter Try.func15, Try.ntmps15
  go_wp2_with fail
  go_ret
  exact ⟨rfl, rfl⟩
theorem isPass_no (p : ByteArray) (hp : (64 : Int) < p.size) (hm : (p.size : Int) ≤ 9223372036854775807) (w : World) : Calls Try.prog 15 #[.string p] w fun e w' => e = .returned (.bool false) ∧ w = w' := by
  have h0 : (0 : Int) ≤ p.size := by omega
  go_enter Try.func15, Try.ntmps15
  go_wp2_with fail
  go_ret
  exact ⟨by simp; omega, rfl⟩
theorem wput_any (n : Nat) (hn : n < 4294967296) (w : World) : Calls Try.prog 16 #[.int .u32 n] w (NewL 4 (leB 4 n) w) := by
  have h0 : (0 : Int) ≤ n := by omega
  have h1 : (n : Int) ≤ 4294967295 := by omega
  go_enter Try.func16, Try.ntmps16
  go_wp2_with fail
  refine (put_at n 4 4 rfl (by omega) (by omega) hn _).mono ?_
  rintro e w1 ⟨rfl, h2, b2, s2⟩
  have H2 := Lib.hid (bsl_of_holds (cap := 4) (leB_length 4 n) (Nat.le_refl _) (by unfold maxLen; omega) s2 h2)
  have HB := Lib.hid b2
  clear h2 b2
  go_wp2_with fail
  go_ret
  exact ⟨_, _, rfl, Nat.le_succ _, H2.out, HB.out⟩
end Go.Proofs.Ytmlmgnifgcbehaa
