/-
  What code.Put and code.Get answer, in one word each, for every number, size, place and slice of bytes; slices of bytes, windows of them, and strings made of them.
-/
import Derived.Test.YtoednighmdoooaaPut
import Derived.Test.YtoednighmdoooaaGet
import Derived.WalkSpells
import Derived.Deep.QuietTactic
import Derived.BigQuiet
import Derived.Laws.Rows
import Derived.Laws.AppendOwnNone
namespace Go.Proofs.Ytoednighmdoooaa
open Go.RowKit Go.Shelf
set_option maxRecDepth 100000

theorem put_size (n s : Int) (h : s < 1 ∨ 4 < s) (w : World) : Calls Try.prog 59 #[.int .i64 n, .int .i64 s] w fun e w' => e = .returned (.tuple #[.slice none 0 0, .int .i64 2]) ∧ Below w.heap.size w w' := by
  go_enter Try.func59, Try.ntmps59
  go_wp2_with (go_at_call 66; refine (isSize_no _ h _).mono ?_; rintro e w' ⟨rfl, rfl⟩)
  go_ret2
  exact ⟨rfl, (Below.refl _ _).alloc (Nat.le_refl _) _⟩
theorem put_neg (n s : Int) (h1 : 1 ≤ s) (h2 : s ≤ 4) (hn : n < 0) (w : World) : Calls Try.prog 59 #[.int .i64 n, .int .i64 s] w fun e w' => e = .returned (.tuple #[.slice none 0 0, .int .i64 2]) ∧ Below w.heap.size w w' := by
  go_enter Try.func59, Try.ntmps59
  go_wp2_with (first | (go_at_call 66; refine (isSize_yes _ h1 h2 _).mono ?_; rintro e w' ⟨rfl, rfl⟩) | (go_at_call 67; refine (fits_neg _ _ hn _).mono ?_; rintro e w' ⟨rfl, rfl⟩))
  go_ret2
  exact ⟨rfl, (Below.refl _ _).alloc (Nat.le_refl _) _⟩
theorem put_big (n k : Nat) (h1 : 1 ≤ k) (h2 : k ≤ 4) (hn : 256 ^ k ≤ n) (hm : n ≤ 9223372036854775807) (w : World) : Calls Try.prog 59 #[.int .i64 n, .int .i64 k] w fun e w' => e = .returned (.tuple #[.slice none 0 0, .int .i64 2]) ∧ Below w.heap.size w w' := by
  have hs1 : (1 : Int) ≤ k := by omega
  have hs2 : (k : Int) ≤ 4 := by omega
  have HN := Lib.hid hn; clear hn
  go_enter Try.func59, Try.ntmps59
  go_wp2_with (first | (go_at_call 66; refine (isSize_yes _ hs1 hs2 _).mono ?_; rintro e w' ⟨rfl, rfl⟩) | (go_at_call 67; refine (fits_no n k HN.out hm h1 h2 _).mono ?_; rintro e w' ⟨rfl, rfl⟩))
  go_ret2
  exact ⟨rfl, (Below.refl _ _).alloc (Nat.le_refl _) _⟩

/-- The cells of the block g hold the bytes s. -/
def Holds (W : World) (g : Nat) (s : List UInt8) : Prop := ∀ i (h : i < s.length), W.cell? ⟨g, i, none⟩ = some (.int .u8 ((s[i]).toNat : Int))
/-- The bytes of n, so many as k says, the lowest first. -/
def leB (k n : Nat) : List UInt8 := (List.range k).map (byteAt n)
theorem leB_length (k n : Nat) : (leB k n).length = k := by simp [leB]

theorem put_ok (n k : Nat) (h1 : 1 ≤ k) (h2 : k ≤ 4) (hm : n < 256 ^ k) (w : World) :
    Calls Try.prog 59 #[.int .i64 n, .int .i64 k] w fun e W' => e = .returned (.tuple #[.slice (some ⟨w.heap.size + 1, 0, none⟩) k k, .int .i64 0]) ∧ Holds W' (w.heap.size + 1) (leB k n) ∧ Below w.heap.size w W' ∧ w.heap.size + 1 < W'.heap.size :=
  (callsIn_wide.1 (put_in 3 (Nat.le_refl _) n k h1 h2 hm w)).mono fun e W' ⟨he, hc, hb, hs⟩ => ⟨he, fun i hi => by
    have hi' : i < k := by simpa [leB] using hi
    rw [hc i hi']; simp [leB], hb, hs⟩

theorem get_ok (b off len cap i k : Nat) (s : List UInt8) (hs : s.length = len) (hlc : len ≤ cap) (hcm : cap ≤ 9223372036854775807) (h1 : 1 ≤ k) (h2 : k ≤ 4) (hk : i + k ≤ len) (w : World) (hb : b < w.heap.size)
    (hc : ∀ i (h : i < s.length), w.cell? ⟨b, off + i, none⟩ = some (.int .u8 ((s[i]).toNat : Int))) :
    Calls Try.prog 78 #[.slice (some ⟨b, off, none⟩) len cap, .int .i64 i, .int .i64 k] w fun e W' => e = .returned (.tuple #[.int .i64 (leN ((s.drop i).take k) : Nat), .int .i64 0]) ∧ Below w.heap.size w W' :=
  callsIn_wide.1 (get_in 3 (Nat.le_refl _) b off len cap i k s hs hlc hcm h1 h2 hk w hb hc)

/-- string(b) of a slice whose cells hold s. -/
def strOf (s : List UInt8) : ByteArray := ⟨s.toArray⟩
theorem strOf_toList (s : List UInt8) : (strOf s).toList = s := by
  rw [ByteArray.toList_eq]; rfl
theorem conv_at (W : World) (g off len cap : Nat) (s : List UInt8) (hs : s.length = len) (hc : ∀ i (h : i < s.length), W.cell? ⟨g, off + i, none⟩ = some (.int .u8 ((s[i]).toNat : Int))) :
    (convert 22 9 (.slice (some ⟨g, off, none⟩) len cap)).run Try.prog W = .ok (.string (strOf s)) W := by
  rw [run_convert_bytes_arg (P := Try.prog) W 22 5 Try.underlying22 Try.underlying5 g off len cap (s.map fun x => (x.toNat : Int)) (by simpa using hs) (fun i hi => ?_) 9 Try.underlying9]
  · congr 2
    unfold strOfNums strOf
    have e : ((fun n : Int => UInt8.ofNat n.toNat) ∘ fun x : UInt8 => (x.toNat : Int)) = id := by funext x; simp
    rw [List.map_map, e, List.map_id]
  · rw [hc i (by omega)]
    simp [List.getD, hs, hi]

theorem Holds.below {B g : Nat} {W W' : World} {s : List UInt8} (h : Holds W g s) (hb : Below B W W') (hg : g < B) : Holds W' g s := fun i hi => (hb.cell (p := ⟨g, i, none⟩) hg).trans (h i hi)
theorem Holds.conv {W : World} {g cap : Nat} {s : List UInt8} (h : Holds W g s) {len : Nat} (hs : s.length = len) : (convert 22 9 (.slice (some ⟨g, 0, none⟩) len cap)).run Try.prog W = .ok (.string (strOf s)) W :=
  conv_at W g 0 len cap s hs fun i hi => by rw [Nat.zero_add]; exact h i hi

/-- The numbers that Put refuses. -/
def PutBad (n s : Int) : Prop := (s < 1 ∨ 4 < s) ∨ (1 ≤ s ∧ s ≤ 4 ∧ n < 0) ∨ ∃ N k : Nat, n = N ∧ s = k ∧ 1 ≤ k ∧ k ≤ 4 ∧ 256 ^ k ≤ N
theorem putCase (n s : Int) : (∃ N k : Nat, n = N ∧ s = k ∧ 1 ≤ k ∧ k ≤ 4 ∧ N < 256 ^ k) ∨ PutBad n s := by
  by_cases hs : s < 1 ∨ 4 < s
  · exact .inr (.inl hs)
  · by_cases hn : n < 0
    · exact .inr (.inr (.inl ⟨by omega, by omega, hn⟩))
    · obtain ⟨N, rfl⟩ := Int.eq_ofNat_of_zero_le (show 0 ≤ n by omega)
      obtain ⟨k, rfl⟩ := Int.eq_ofNat_of_zero_le (show 0 ≤ s by omega)
      by_cases hb : N < 256 ^ k
      · exact .inl ⟨N, k, rfl, rfl, by omega, by omega, hb⟩
      · exact .inr (.inr (.inr ⟨N, k, rfl, rfl, by omega, by omega, by omega⟩))
theorem put_bad (n s : Int) (h : PutBad n s) (hm : n ≤ 9223372036854775807) (w : World) : Calls Try.prog 59 #[.int .i64 n, .int .i64 s] w fun e w' => e = .returned (.tuple #[.slice none 0 0, .int .i64 2]) ∧ Below w.heap.size w w' := by
  rcases h with h | ⟨h1, h2, h3⟩ | ⟨N, k, rfl, rfl, h1, h2, h3⟩
  · exact put_size _ _ h w
  · exact put_neg _ _ h1 h2 h3 w
  · exact put_big _ _ h1 h2 h3 (by omega) w
theorem put_at (n k : Nat) (s : Int) (hs : s = k) (h1 : 1 ≤ k) (h2 : k ≤ 4) (hm : n < 256 ^ k) (w : World) :
    Calls Try.prog 59 #[.int .i64 n, .int .i64 s] w fun e W' => e = .returned (.tuple #[.slice (some ⟨w.heap.size + 1, 0, none⟩) k k, .int .i64 0]) ∧ Holds W' (w.heap.size + 1) (leB k n) ∧ Below w.heap.size w W' ∧ w.heap.size + 1 < W'.heap.size := by
  subst hs; exact put_ok n k h1 h2 hm w
theorem wf_le {n : Int} (h : (Lit.int .i64 n).wf = true) : -9223372036854775808 ≤ n ∧ n ≤ 9223372036854775807 := by simpa [Lit.wf, IntKind.min, IntKind.max, IntKind.signed, IntKind.bits] using h
theorem leB_take (k N : Nat) : leB (k + 1) N = leB k N ++ [byteAt N k] := by simp [leB, List.range_succ]
theorem byteAt_over {N k : Nat} (h : N < 256 ^ k) : byteAt N k = 0 := by unfold byteAt; rw [Nat.div_eq_of_lt h]; rfl
theorem Holds.left {W : World} {g : Nat} {s t : List UInt8} (h : Holds W g (s ++ t)) : Holds W g s := fun i hi => by
  have := h i (by simp; omega)
  rwa [List.getElem_append_left hi] at this
theorem Holds.drewN {W : World} {g : Nat} {s : List UInt8} (h : Holds W g s) (q : Nat) : Holds (W.drewN q) g s := fun i hi => by simpa using h i hi
theorem Holds.last {W : World} {g : Nat} {s : List UInt8} {x : UInt8} (h : Holds W g (s ++ [x])) : W.cell? ⟨g, s.length, none⟩ = some (.int .u8 (x.toNat : Int)) := by
  have := h s.length (by simp)
  simpa using this

theorem below_drewN {B : Nat} {a w : World} (h : Below B a w) (q : Nat) : Below B a (w.drewN q) := ⟨h.os, h.tape, h.output, h.size, h.block⟩

/-- b[:h]. -/
theorem slice_h (W : World) (g off len cap h : Nat) (hh : 0 < h) (hc : h ≤ cap) : (Instr.slice 22 (.slice (some ⟨g, off, none⟩) len cap) none (some (.int .i64 (h : Int))) none).run Try.prog W = .ok (.slice (some ⟨g, off, none⟩) h cap) W := by
  rw [run_slice_h W 22 _ _ _ (by kernel_rfl) .i64 _ (by omega) (by omega)]
  have hz : (Go.sizeOf (Try.prog.elem 22)).run Try.prog W = .ok 1 W := by kernel_rfl
  rw [hz]
  simp [Result.andThen, sliced, Addr.add] <;> omega


theorem byteAt_succ (n i : Nat) : byteAt n (i + 1) = byteAt (n / 256) i := by
  unfold byteAt; rw [Nat.pow_succ, Nat.mul_comm, ← Nat.div_div_eq_div_mul]
theorem leB_succ (k n : Nat) : leB (k + 1) n = byteAt n 0 :: leB k (n / 256) := by
  unfold leB
  rw [List.range_succ_eq_map, List.map_cons, List.map_map]
  congr 1
  apply List.map_congr_left
  intro i _
  exact byteAt_succ n i
theorem leN_leB : ∀ (k n : Nat), n < 256 ^ k → leN (leB k n) = n
  | 0, n, h => by simp at h; simp [leB, leN, h]
  | k + 1, n, h => by
    have h' : n / 256 < 256 ^ k := by rw [Nat.pow_succ] at h; omega
    rw [leB_succ, leN, leN_leB k _ h', byteAt_toNat]
    simp <;> omega
theorem leB_leN : ∀ l : List UInt8, leB l.length (leN l) = l
  | [] => rfl
  | x :: r => by
    have h2 := x.toNat_lt
    rw [List.length_cons, leB_succ, leN, show (x.toNat + 256 * leN r) / 256 = leN r by omega, leB_leN r]
    congr 1
    apply UInt8.toNat_inj.1
    rw [byteAt_toNat]
    simp <;> omega

/-- The values of bytes. -/
def vals (s : List UInt8) : List Value := s.map fun x => .int .u8 (x.toNat : Int)
theorem vals_append (s t : List UInt8) : vals s ++ vals t = vals (s ++ t) := by simp [vals]
theorem vals_get {s : List UInt8} {j : Nat} {u : Value} (h : (vals s)[j]? = some u) : ∃ hj : j < s.length, u = .int .u8 ((s[j]).toNat : Int) := by
  rw [vals, List.getElem?_map] at h
  rcases Nat.lt_or_ge j s.length with hj | hj
  · rw [List.getElem?_eq_getElem hj] at h
    exact ⟨hj, (Option.some.inj h).symm⟩
  · rw [List.getElem?_eq_none hj] at h; cases h

/-- A slice of bytes that lies below block B reads as s. -/
def Bsl (w : World) (B : Nat) (a : Option Addr) (len cap : Nat) (s : List UInt8) : Prop :=
  s.length = len ∧ len ≤ cap ∧ cap ≤ maxLen ∧ (a = none → cap = 0) ∧
    (0 < len → ∃ b off, a = some ⟨b, off, none⟩ ∧ b < B ∧ ∀ i (h : i < s.length), w.cell? ⟨b, off + i, none⟩ = some (.int .u8 ((s[i]).toNat : Int)))
theorem Bsl.below {w w' : World} {B : Nat} {a : Option Addr} {len cap : Nat} {s : List UInt8} (h : Bsl w B a len cap s) (hb : Below B w w') : Bsl w' B a len cap s := by
  obtain ⟨h1, h2, h3, h4, h5⟩ := h
  refine ⟨h1, h2, h3, h4, fun hl => ?_⟩
  obtain ⟨b, off, e, hlt, hc⟩ := h5 hl
  exact ⟨b, off, e, hlt, fun i hi => (hb.cell (p := ⟨b, off + i, none⟩) hlt).trans (hc i hi)⟩

theorem infoU8 : (Try.prog.info? 5).map (fun i => (i.zero, i.size, i.bytes)) = some (some (.int .u8 0), 1, 1) := by kernel_rfl

theorem wpList_append_bsl {w : World} {ops : Array Oper} {rest : List Oper} {o : Oper} {a : Act} {Q : Exit → Act → World → Prop} (hgd : o.guard = none) (s x : Operand)
    (ho : o.op = .call { callee := .builtin .append, args := #[s, x], argTypes := #[22, 22] })
    (base : Nat) (v : Value) (n : Nat) (xs : List UInt8) (hs : a.eval s = v) (hown : w.ownsRow base 5 1 v n (vals xs))
    (B : Nat) (A : Option Addr) (m c : Nat) (news : List UInt8) (hx : a.eval x = .slice A m c) (hr : Bsl w B A m c news)
    (hnm : n + m ≤ 100000) (hbase : base ≤ w.heap.size)
    (h : ∀ v' w', w'.ownsRow base 5 1 v' (n + m) (vals (xs ++ news)) → w.grownBy w' v.ownBlock → wpList Try.prog ops Q rest (a.put o.dst v') w') : wpList Try.prog ops Q (o :: rest) a w := by
  obtain ⟨i0, hi, hz0, hz1, hz2⟩ := info_parts infoU8
  obtain ⟨h1, h2, h3, h4, h5⟩ := hr
  have e0 : m = 0 → news = [] := fun e => List.eq_nil_of_length_eq_zero (by omega)
  cases A with
  | none =>
    have hc := h4 rfl
    have hm : m = 0 := by omega
    subst hm; subst hc
    obtain rfl := e0 rfl
    refine wpList_append_own_none hgd s x 22 ho base 5 i0 1 Try.underlying22 hi v n (vals xs) hs hown hx ?_
    exact h v w (by simpa using hown) (World.grownBy.refl w _)
  | some ad =>
    refine wpList_append_own w hgd s x 22 ho base 5 i0 (.int .u8 0) 1 1 Try.underlying22 hi hz0 hz1 hz2 rfl (by decide) v n (vals xs) hs hown ad m c (vals news) hx (by simp [vals, h1]) (fun j u hu => ?_) (fun u hu => ?_) (by unfold maxLen; omega) (by omega) hbase ?_
    · obtain ⟨hj, rfl⟩ := vals_get hu
      obtain ⟨b, off, e, _, hc⟩ := h5 (by omega)
      cases e
      rw [← hc j hj]
      congr 1
      unfold Addr.add
      split <;> simp_all
    · obtain ⟨y, _, rfl⟩ := List.mem_map.1 hu
      rfl
    · intro v' w' h2 h3 _
      exact h v' w' (by rw [← vals_append]; exact h2) h3

theorem bsl_of_own {w : World} {base n : Nat} {v : Value} {s : List UInt8} (h : w.ownsRow base 5 1 v n (vals s)) (hn : 0 < n) :
    ∃ g cap, v = .slice (some ⟨g, 0, none⟩) n cap ∧ base ≤ g ∧ g < w.heap.size ∧ n ≤ cap ∧ cap ≤ maxLen ∧ s.length = n ∧ Holds w g s := by
  have hl : s.length = n := by have := h.1; simpa [vals] using this
  obtain ⟨h1, h2 | ⟨g, cap, cur, rfl, hb, hh, hnc, hcm, hsz, ht⟩⟩ := h
  · omega
  · refine ⟨g, cap, rfl, hb, (Array.getElem?_eq_some_iff.1 hh).1, hnc, hcm, hl, fun i hi => ?_⟩
    rw [cell_of_row w g i cur 5 (0, 0) hh]
    have : (vals s)[i]? = some (.int .u8 ((s[i]).toNat : Int)) := by simp [vals, hi]
    rw [← ht, List.getElem?_take_of_lt (by omega)] at this
    rw [← this, Array.getElem?_toList]

/-- What Get refuses, and what it lacks. -/
theorem getCase (len : Nat) (i s : Int) : (∃ j k : Nat, i = j ∧ s = k ∧ 1 ≤ k ∧ k ≤ 4 ∧ j + k ≤ len) ∨ ((s < 1 ∨ 4 < s) ∨ (1 ≤ s ∧ s ≤ 4 ∧ (i < 0 ∨ len < i))) ∨ (1 ≤ s ∧ s ≤ 4 ∧ 0 ≤ i ∧ i ≤ len ∧ len - i < s) := by
  by_cases hs : s < 1 ∨ 4 < s
  · exact .inr (.inl (.inl hs))
  · by_cases hi : i < 0 ∨ (len : Int) < i
    · exact .inr (.inl (.inr ⟨by omega, by omega, hi⟩))
    · by_cases hl : (len : Int) - i < s
      · exact .inr (.inr ⟨by omega, by omega, by omega, by omega, hl⟩)
      · obtain ⟨j, rfl⟩ := Int.eq_ofNat_of_zero_le (show 0 ≤ i by omega)
        obtain ⟨k, rfl⟩ := Int.eq_ofNat_of_zero_le (show 0 ≤ s by omega)
        exact .inl ⟨j, k, rfl, rfl, by omega, by omega, by omega⟩
theorem get_arg (a : Option Addr) (len cap : Nat) (i s : Int) (h : (s < 1 ∨ 4 < s) ∨ (1 ≤ s ∧ s ≤ 4 ∧ (i < 0 ∨ len < i))) (w : World) : Calls Try.prog 78 #[.slice a len cap, .int .i64 i, .int .i64 s] w fun e w' => e = .returned (.tuple #[.int .i64 0, .int .i64 2]) ∧ w = w' := by
  rcases h with h | ⟨h1, h2, h3 | h3⟩
  · exact get_size a len cap i s h w
  · exact get_neg a len cap i s h1 h2 h3 w
  · exact get_far a len cap i s h1 h2 h3 w
theorem get_bsl {w : World} {a : Option Addr} {len cap : Nat} {s : List UInt8} (h : Bsl w w.heap.size a len cap s) (i k : Nat) (h1 : 1 ≤ k) (h2 : k ≤ 4) (hk : i + k ≤ len) :
    Calls Try.prog 78 #[.slice a len cap, .int .i64 i, .int .i64 k] w fun e W' => e = .returned (.tuple #[.int .i64 (leN ((s.drop i).take k) : Nat), .int .i64 0]) ∧ Below w.heap.size w W' := by
  obtain ⟨e1, e2, e3, _, e5⟩ := h
  obtain ⟨b, off, rfl, hb, hc⟩ := e5 (by omega)
  exact get_ok b off len cap i k s e1 e2 (by unfold maxLen at e3; omega) h1 h2 hk w hb hc
theorem Bsl.more {w : World} {B B' : Nat} {a : Option Addr} {len cap : Nat} {s : List UInt8} (h : Bsl w B a len cap s) (hB : B ≤ B') : Bsl w B' a len cap s := by
  obtain ⟨h1, h2, h3, h4, h5⟩ := h
  refine ⟨h1, h2, h3, h4, fun hl => ?_⟩
  obtain ⟨b, off, e, hlt, hc⟩ := h5 hl
  exact ⟨b, off, e, by omega, hc⟩
/-- b[l:h], where it is not empty. -/
theorem slice_lh (W : World) (b off len cap l k : Nat) (hk : 0 < k) (hc : l + k ≤ cap) : (Instr.slice 22 (.slice (some ⟨b, off, none⟩) len cap) (some (.int .i64 (l : Int))) (some (.int .i64 ((l : Int) + k))) none).run Try.prog W = .ok (.slice (some ⟨b, off + l, none⟩) k (cap - l)) W := by
  have := Lib.run_slice_window (P := Try.prog) W 22 5 Try.underlying22 (fun _ => by kernel_rfl) b off len cap l (l + k) (by omega) hc
  rw [show ((l + k : Nat) : Int) = (l : Int) + k by omega, show l + k - l = k by omega] at this
  exact this
theorem win_length {s : List UInt8} {i k : Nat} (h : i + k ≤ s.length) : ((s.drop i).take k).length = k := by simp; omega
theorem conv_window {W : World} {b off cap i k : Nat} {s : List UInt8} (hc : ∀ i (h : i < s.length), W.cell? ⟨b, off + i, none⟩ = some (.int .u8 ((s[i]).toNat : Int))) (h : i + k ≤ s.length) :
    (convert 22 9 (.slice (some ⟨b, off + i, none⟩) k cap)).run Try.prog W = .ok (.string (strOf ((s.drop i).take k))) W :=
  conv_at W b (off + i) k cap _ (win_length h) fun j hj => by
    have hj' : j < k := by rw [win_length h] at hj; exact hj
    rw [Nat.add_assoc, hc (i + j) (by omega)]
    simp
end Go.Proofs.Ytoednighmdoooaa
