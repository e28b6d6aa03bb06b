/-
  What the document's own Room, Number and Bytes answer: powers of 256, the number of at most four bytes, the bytes of a number.
-/
import Derived.Test.YtomobnecdkachaaMem
namespace Go.Proofs.Ytomobnecdkachaa
open Go.RowKit Go.Shelf
set_option maxRecDepth 100000

theorem room_any : ∀ (k : Nat), k ≤ 4 → ∀ w : World, Calls Try.prog 34 #[.int .i64 k] w fun e w' => e = .returned (.int .i64 (256 ^ k : Nat)) ∧ w = w'
  | 0, _, w => by
    go_enter Try.func34, Try.ntmps34
    go_wp2_with fail
    go_ret
    exact ⟨rfl, rfl⟩
  | k + 1, hk, w => by
    have ih := room_any k (by omega)
    have h1 : ((k + 1 : Nat) : Int) - 1 = (k : Int) := by omega
    have h2 : (((k + 1 : Nat) : Int) == 0) = false := by simp; omega
    have h3 : ((256 ^ k : Nat) : Int) ≤ 16777216 := by
      have : 256 ^ k ≤ 256 ^ 3 := Nat.pow_le_pow_right (by omega) (by omega)
      omega
    have h4 : (0 : Int) ≤ ((256 ^ k : Nat) : Int) := Int.natCast_nonneg _
    obtain ⟨r, hr⟩ : ∃ r : Nat, 256 ^ k = r := ⟨_, rfl⟩
    have e5 : 256 ^ (k + 1) = 256 * r := by rw [Nat.pow_succ, hr, Nat.mul_comm]
    rw [hr] at h3 h4 ih
    obtain ⟨m, hm⟩ : ∃ m : Int, ((k + 1 : Nat) : Int) = m := ⟨_, rfl⟩
    rw [hm] at h1 h2 ⊢
    have hm1 : 1 ≤ m := by omega
    have hm5 : m ≤ 5 := by omega
    have HE := Lib.hid e5; clear e5
    have hmk : m - 1 = (k : Int) := h1
    have HM := Lib.hid hm; clear hm
    have HK := Lib.hid hmk; clear hmk h1 hr
    have ih' : ∀ w : World, Calls Try.prog 34 #[.int .i64 (m - 1)] w fun e w' => e = .returned (.int .i64 r) ∧ w = w' := by rw [HK.out]; exact ih
    go_enter Try.func34, Try.ntmps34
    go_wp2_with (go_at_call 34; refine (ih' _).mono ?_; rintro e w' ⟨rfl, rfl⟩)
    go_ret
    refine ⟨?_, rfl⟩
    rw [HE.out]
    show Ending.returned (.int .i64 (256 * (r : Int))) = _
    congr 2

theorem leN_snoc : ∀ (l : List UInt8) (x : UInt8), leN (l ++ [x]) = leN l + x.toNat * 256 ^ l.length
  | [], x => by simp [leN]
  | y :: r, x => by
    simp only [List.cons_append, leN, leN_snoc r x, List.length_cons, Nat.pow_succ, Nat.mul_add]
    rw [Nat.mul_comm (256 ^ r.length) 256, Nat.mul_left_comm]
    omega
/-- What the loop of Bytes keeps: the row g, its first j bytes written. -/
def BytesI (g n k j : Nat) (w wr : World) : Prop :=
  (∀ t, t < k → wr.cell? ⟨g, t, none⟩ = some (.int .u8 ((if t < j then byteAt n t else 0 : UInt8).toNat : Int)) ∧ wr.frozen? ⟨g, t, none⟩ = false) ∧ Below g w wr ∧ g < wr.heap.size ∧ ∃ cur, Blk wr g 5 cur ∧ cur.size = k
theorem bytesI_step {g n k j : Nat} {w wr : World} {x : Int} (h : BytesI g n k j w wr) (hj : j < k) (hx : x = ((byteAt n j).toNat : Nat)) : BytesI g n k (j + 1) w (wr.setCell ⟨g, j, none⟩ (.int .u8 x)) := by
  obtain ⟨hc, hb, hs, cur, hcur, hsz⟩ := h
  subst hx
  refine ⟨fun t ht => ⟨?_, (World.frozen?_setCell _ _ _ _).trans (hc t ht).2⟩, hb.setCell (p := ⟨g, j, none⟩) (Nat.le_refl _) _, by simpa using hs, _, hcur.set_ j _, by simpa using hsz⟩
  by_cases e : t = j
  · subst e
    rw [if_pos (by omega)]
    exact World.cell?_setCell_same' wr _ _ (by rw [(hc t ht).1]; rfl)
  · have e1 : (t < j + 1) ↔ t < j := by omega
    simp only [e1]
    exact (World.cell?_setCell_other wr _ _ _ (by simp; first | done | exact fun h => e h.symm)).trans (hc t ht).1

set_option maxHeartbeats 1000000 in
theorem bytes_own (n k : Nat) (h1 : 1 ≤ k) (h2 : k ≤ 4) (hn : n ≤ 9223372036854775807) (w : World) :
    Calls Try.prog 23 #[.int .i64 n, .int .i64 k] w fun e W' => e = .returned (.slice (some ⟨w.heap.size, 0, none⟩) k k) ∧ Holds W' w.heap.size (leB k n) ∧ Below w.heap.size w W' ∧ w.heap.size < W'.heap.size ∧ W'.ownsRow w.heap.size 5 1 (.slice (some ⟨w.heap.size, 0, none⟩) k k) k (vals (leB k n)) := by
  have hk1 : (1:Int) ≤ k := by omega
  have hk2 : (k:Int) ≤ 4 := by omega
  have hn0 : (0:Int) ≤ n := by omega
  have hn1 : (n:Int) ≤ 9223372036854775807 := by omega
  have hmk := make_any k h1 h2
  obtain ⟨g, hg⟩ : ∃ g, w.heap.size = g := ⟨_, rfl⟩
  have c1 : BytesI g n k 0 w (w.alloc (.cells (Array.replicate k (.int .u8 0)) 5)) := by
    refine ⟨fun t ht => ?_, hg ▸ (Below.refl _ w).alloc (Nat.le_refl _) _, by simp [hg], _, hg ▸ Blk.new w _ _, by simp⟩
    have hh : (w.alloc (.cells (Array.replicate k (Value.int .u8 0)) 5)).heap[g]? = some (.cells (Array.replicate k (.int .u8 0)) 5 (0, 0)) := by rw [← hg]; exact World.alloc_heap_new _ _
    exact ⟨by rw [cell_of_row _ _ _ _ _ _ hh]; simp [ht], by simp only [World.frozen?, hh]; simp⟩
  have HC := Lib.hid c1; clear c1
  have HG := Lib.hid hg; clear hg
  go_enter Try.func23, Try.ntmps23
  go_wp2_with fail
  rw [HG.out]
  go_loopw [6] (fun i wr => ∃ j : Nat, j ≤ k ∧ i = .int .i64 j ∧ Hid (BytesI g n k j w wr)) (fun i _ => k - (intOf i).toNat)
  case atStart => exact ⟨0, Nat.zero_le _, rfl, HC⟩
  case round =>
    obtain ⟨j, hj, rfl, HI⟩ := hrel
    by_cases hlt : j < k
    · obtain ⟨hc, hf⟩ := HI.out.1 j hlt
      obtain ⟨r, hr⟩ : ∃ r : Nat, 256 ^ j = r := ⟨_, rfl⟩
      have hr1 : 1 ≤ r := by rw [← hr]; exact Nat.one_le_pow _ _ (by omega)
      have i1 : (1 : Int) ≤ r := by omega
      have i2 : (0 : Int) ≤ j := by omega
      have i3 : (j : Int) < k := by omega
      have hroom := fun w => room_any j (by omega) w
      rw [hr] at hroom
      have hx : (n : Int) / r % 256 = ((byteAt n j).toNat : Nat) := by rw [byteAt_toNat, hr]; simp
      have q1 : (0 : Int) ≤ n / r := Int.ediv_nonneg hn0 (by omega)
      have q2 : (n : Int) / r ≤ 9223372036854775807 := Int.le_trans (Int.ediv_le_self _ hn0) hn1
      have HX := Lib.hid hx; clear hx hr
      go_wp2_with (go_at_call 34; refine (hroom _).mono ?_; rintro e w' ⟨rfl, rfl⟩)
      go_roundw
      case rel => exact ⟨j + 1, by omega, by go_num, Lib.hid (bytesI_step HI.out hlt HX.out)⟩
      case measure => simp [intOf]; omega
    · have ej : j = k := by omega
      have hge : ¬ (j : Int) < k := by omega
      subst ej
      clear hge
      go_wp2
      go_ret
      have hh : Holds wr g (leB j n) := fun t ht => by
        have ht' : t < j := by rw [leB_length] at ht; exact ht
        have := (HI.out.1 t ht').1
        rw [if_pos ht'] at this
        rw [this]
        simp [leB]
      obtain ⟨_, hb, hs, cur, hcur, hsz⟩ := HI.out
      rw [HG.out]
      refine ⟨rfl, hh, hb, hs, by simp [vals, leB_length], .inr ⟨g, j, cur, rfl, Nat.le_refl _, hcur, Nat.le_refl _, by unfold maxLen; omega, by omega, ?_⟩⟩
      rw [Nat.mul_one, List.take_of_length_le (by simp; omega)]
      apply List.ext_getElem?
      intro i
      rw [Array.getElem?_toList, ← hcur.cell i]
      by_cases hi : i < j
      · rw [hh i (by rw [leB_length]; exact hi)]
        simp [vals, leB_length, hi]
      · have h1 : (vals (leB j n))[i]? = none := List.getElem?_eq_none (by simp [vals, leB_length]; omega)
        rw [h1, hcur.cell i, Array.getElem?_eq_none (by omega)]
theorem bytes_any (n k : Nat) (h1 : 1 ≤ k) (h2 : k ≤ 4) (hn : n ≤ 9223372036854775807) (w : World) :
    Calls Try.prog 23 #[.int .i64 n, .int .i64 k] w fun e W' => e = .returned (.slice (some ⟨w.heap.size, 0, none⟩) k k) ∧ Holds W' w.heap.size (leB k n) ∧ Below w.heap.size w W' ∧ w.heap.size < W'.heap.size :=
  (bytes_own n k h1 h2 hn w).mono fun _ _ h => ⟨h.1, h.2.1, h.2.2.1, h.2.2.2.1⟩
end Go.Proofs.Ytomobnecdkachaa
