/-
  What the document's own Room, Number and Bytes answer: powers of 256, the number of at most four bytes, the bytes of a number.
-/
import Derived.Test.YtmlmgnifgcbehaaMem
namespace Go.Proofs.Ytmlmgnifgcbehaa
open Go.RowKit Go.Shelf
set_option maxRecDepth 100000

theorem room_any : ∀ (k : Nat), k ≤ 4 → ∀ w : World, Calls Try.prog 33 #[.int .i64 k] w fun e w' => e = .returned (.int .i64 (256 ^ k : Nat)) ∧ w = w'
  | 0, _, w => by
    go_enter Try.func33, Try.ntmps33
    go_wp2_with fail
    go_ret
    exact ⟨rfl, rfl⟩
  | k + 1, hk, w => by
    have ih := room_any k (by omega)
    have h1 : ((k + 1 : Nat) : Int) - 1 = (k : Int) := by omega
    have h2 : (((k + 1 : Nat) : Int) == 0) = false := by simp; omega
    have h3 : ((256 ^ k : Nat) : Int) ≤ 16777216 := by
      have : 256 ^ k ≤ 256 ^ 3 := Nat.pow_le_pow_right (by omega) (by omega)
      omega
    have h4 : (0 : Int) ≤ ((256 ^ k : Nat) : Int) := Int.natCast_nonneg _
    obtain ⟨r, hr⟩ : ∃ r : Nat, 256 ^ k = r := ⟨_, rfl⟩
    have e5 : 256 ^ (k + 1) = 256 * r := by rw [Nat.pow_succ, hr, Nat.mul_comm]
    rw [hr] at h3 h4 ih
    obtain ⟨m, hm⟩ : ∃ m : Int, ((k + 1 : Nat) : Int) = m := ⟨_, rfl⟩
    rw [hm] at h1 h2 ⊢
    have hm1 : 1 ≤ m := by omega
    have hm5 : m ≤ 5 := by omega
    have HE := Lib.hid e5; clear e5
    have hmk : m - 1 = (k : Int) := h1
    have HM := Lib.hid hm; clear hm
    have HK := Lib.hid hmk; clear hmk h1 hr
    have ih' : ∀ w : World, Calls Try.prog 33 #[.int .i64 (m - 1)] w fun e w' => e = .returned (.int .i64 r) ∧ w = w' := by rw [HK.out]; exact ih
    go_enter Try.func33, Try.ntmps33
    go_wp2_with (go_at_call 33; refine (ih' _).mono ?_; rintro e w' ⟨rfl, rfl⟩)
    go_ret
    refine ⟨?_, rfl⟩
    rw [HE.out]
    show Ending.returned (.int .i64 (256 * (r : Int))) = _
    congr 2

theorem leN_snoc : ∀ (l : List UInt8) (x : UInt8), leN (l ++ [x]) = leN l + x.toNat * 256 ^ l.length
  | [], x => by simp [leN]
  | y :: r, x => by
    simp only [List.cons_append, leN, leN_snoc r x, List.length_cons, Nat.pow_succ, Nat.mul_add]
    rw [Nat.mul_comm (256 ^ r.length) 256, Nat.mul_left_comm]
    omega
set_option maxHeartbeats 1000000 in
/-- Number: of at most four bytes. -/
theorem number_any (b off len cap : Nat) (s : List UInt8) (hs : s.length = len) (h4 : len ≤ 4) (w : World)
    (hc : ∀ i (h : i < s.length), w.cell? ⟨b, off + i, none⟩ = some (.int .u8 ((s[i]).toNat : Int))) :
    Calls Try.prog 24 #[.slice (some ⟨b, off, none⟩) len cap] w fun e w' => e = .returned (.int .i64 (leN s : Nat)) ∧ ∃ q, w' = w.drewN q := by
  have hmx : Try.prog.follows Departure.mixedOrders = true := by kernel_rfl
  have HS := Lib.hid hs; clear hs
  have HC := Lib.hid hc; clear hc
  have hl4 : (len : Int) ≤ 4 := by omega
  go_enter Try.func24, Try.ntmps24
  go_wp2_with fail
  go_loopw [3, 4] (fun n i wr => ∃ j : Nat, j ≤ len ∧ i = .int .i64 j ∧ n = .int .i64 (leN (s.take j) : Nat) ∧ ∃ q, wr = w.drewN q) (fun _ i _ => len - (intOf i).toNat)
  case atStart => exact ⟨0, Nat.zero_le _, rfl, rfl, 0, rfl⟩
  case round =>
    obtain ⟨j, hj, rfl, rfl, q, rfl⟩ := hrel
    by_cases hlt : j < len
    · have hjs : j < s.length := by rw [HS.out]; exact hlt
      have hcell := HC.out j hjs
      obtain ⟨x, hx⟩ : ∃ x : Nat, (s[j]).toNat = x := ⟨_, rfl⟩
      obtain ⟨r, hr⟩ : ∃ r : Nat, 256 ^ j = r := ⟨_, rfl⟩
      obtain ⟨n, hn⟩ : ∃ n : Nat, leN (s.take j) = n := ⟨_, rfl⟩
      rw [hx] at hcell
      rw [hn]
      have hxl : x ≤ 255 := by have := (s[j]).toNat_lt; omega
      have hrl : r ≤ 16777216 := by rw [← hr]; exact Nat.le_trans (Nat.pow_le_pow_right (by omega) (show j ≤ 3 by omega)) (by omega)
      have hnl : n ≤ 16777216 := by
        rw [← hn]
        have h1 := leN_lt (s.take j)
        have h2 : (s.take j).length ≤ 3 := by simp; omega
        have h3 : 256 ^ (s.take j).length ≤ 256 ^ 3 := Nat.pow_le_pow_right (by omega) h2
        omega
      have hroom := fun w => room_any j (by omega) w
      rw [hr] at hroom
      have i1 : (0 : Int) ≤ x := by omega
      have i2 : (x : Int) ≤ 255 := by omega
      have i3 : (0 : Int) ≤ r := by omega
      have i4 : (r : Int) ≤ 16777216 := by omega
      have i5 : (0 : Int) ≤ n := by omega
      have i6 : (n : Int) ≤ 16777216 := by omega
      have m1 : x * r ≤ 255 * 16777216 := Nat.mul_le_mul hxl hrl
      have m2 : (x : Int) * r = ((x * r : Nat) : Int) := by simp
      have m3 : (0 : Int) ≤ (x : Int) * r := by omega
      have m4 : (x : Int) * r ≤ 4278190080 := by omega
      have c0 : IntKind.i64.wrap (x : Int) = x := IntWalk.i64_in _ (by omega)
      have c1 : IntKind.i64.wrap ((x : Int) * r) = x * r := IntWalk.i64_in _ (by omega)
      have c2 : IntKind.i64.wrap ((n : Int) + x * r) = n + x * r := IntWalk.i64_in _ (by omega)
      have i7 : (0 : Int) ≤ j := by omega
      have i8 : (j : Int) < len := by omega
      have HM := Lib.hid m2; clear m2 m1
      have HX := Lib.hid hx; clear hx
      have HR := Lib.hid hr; clear hr
      have HN := Lib.hid hn; clear hn
      have hcell' : (w.drewN q).cell? ⟨b, off + j, none⟩ = some (.int .u8 (x : Int)) := by simpa using hcell
      obtain ⟨wr, hwr⟩ : ∃ wr, w.drewN q = wr := ⟨_, rfl⟩
      rw [hwr] at hcell' ⊢
      have HW := Lib.hid hwr; clear hwr hcell
      go_wp2
      go_quiet ((go_at_call 33; exact Calls.quiet_of_same ((hroom _).mono fun e w' h => ⟨h.1, h.2.symm⟩)))
      go_wp2
      go_roundw
      case rel =>
        refine ⟨j + 1, by omega, by go_num, ?_, q + nq, by rw [← HW.out, World.drewN_drewN]⟩
        have e1 : leN (s.take (j + 1)) = n + x * r := by
          rw [List.take_succ_eq_append_getElem hjs, leN_snoc, HN.out, HX.out, List.length_take, Nat.min_eq_left (by omega), HR.out]
        rw [e1]
        show Value.int .i64 ((n : Int) + (x : Int) * r) = _
        congr 1
      case measure => simp [intOf]; omega
    · have ej : j = len := by omega
      have et : s.take j = s := List.take_of_length_le (by rw [HS.out]; omega)
      rw [et]
      have i8 : ¬ (j : Int) < len := by omega
      have HJ := Lib.hid ej; clear ej et
      go_wp2
      go_ret
      exact ⟨rfl, _, rfl⟩

/-- What the loop of Bytes keeps: the row g, its first j bytes written. -/
def BytesI (g n k j : Nat) (w wr : World) : Prop :=
  (∀ t, t < k → wr.cell? ⟨g, t, none⟩ = some (.int .u8 ((if t < j then byteAt n t else 0 : UInt8).toNat : Int)) ∧ wr.frozen? ⟨g, t, none⟩ = false) ∧ Below g w wr ∧ g < wr.heap.size ∧ ∃ cur, Blk wr g 5 cur ∧ cur.size = k
theorem bytesI_step {g n k j : Nat} {w wr : World} {x : Int} (h : BytesI g n k j w wr) (hj : j < k) (hx : x = ((byteAt n j).toNat : Nat)) : BytesI g n k (j + 1) w (wr.setCell ⟨g, j, none⟩ (.int .u8 x)) := by
  obtain ⟨hc, hb, hs, cur, hcur, hsz⟩ := h
  subst hx
  refine ⟨fun t ht => ⟨?_, (World.frozen?_setCell _ _ _ _).trans (hc t ht).2⟩, hb.setCell (p := ⟨g, j, none⟩) (Nat.le_refl _) _, by simpa using hs, _, hcur.set_ j _, by simpa using hsz⟩
  by_cases e : t = j
  · subst e
    rw [if_pos (by omega)]
    exact World.cell?_setCell_same' wr _ _ (by rw [(hc t ht).1]; rfl)
  · have e1 : (t < j + 1) ↔ t < j := by omega
    simp only [e1]
    exact (World.cell?_setCell_other wr _ _ _ (by simp; first | done | exact fun h => e h.symm)).trans (hc t ht).1

set_option maxHeartbeats 1000000 in
theorem bytes_own (n k : Nat) (h1 : 1 ≤ k) (h2 : k ≤ 4) (hn : n ≤ 9223372036854775807) (w : World) :
    Calls Try.prog 30 #[.int .i64 n, .int .i64 k] w fun e W' => e = .returned (.slice (some ⟨w.heap.size, 0, none⟩) k k) ∧ Holds W' w.heap.size (leB k n) ∧ Below w.heap.size w W' ∧ w.heap.size < W'.heap.size ∧ W'.ownsRow w.heap.size 5 1 (.slice (some ⟨w.heap.size, 0, none⟩) k k) k (vals (leB k n)) := by
  have hk1 : (1:Int) ≤ k := by omega
  have hk2 : (k:Int) ≤ 4 := by omega
  have hn0 : (0:Int) ≤ n := by omega
  have hn1 : (n:Int) ≤ 9223372036854775807 := by omega
  have hmk := make_any k h1 h2
  obtain ⟨g, hg⟩ : ∃ g, w.heap.size = g := ⟨_, rfl⟩
  have c1 : BytesI g n k 0 w (w.alloc (.cells (Array.replicate k (.int .u8 0)) 5)) := by
    refine ⟨fun t ht => ?_, hg ▸ (Below.refl _ w).alloc (Nat.le_refl _) _, by simp [hg], _, hg ▸ Blk.new w _ _, by simp⟩
    have hh : (w.alloc (.cells (Array.replicate k (Value.int .u8 0)) 5)).heap[g]? = some (.cells (Array.replicate k (.int .u8 0)) 5 (0, 0)) := by rw [← hg]; exact World.alloc_heap_new _ _
    exact ⟨by rw [cell_of_row _ _ _ _ _ _ hh]; simp [ht], by simp only [World.frozen?, hh]; simp⟩
  have HC := Lib.hid c1; clear c1
  have HG := Lib.hid hg; clear hg
  go_enter Try.func30, Try.ntmps30
  go_wp2_with fail
  rw [HG.out]
  go_loopw [6] (fun i wr => ∃ j : Nat, j ≤ k ∧ i = .int .i64 j ∧ Hid (BytesI g n k j w wr)) (fun i _ => k - (intOf i).toNat)
  case atStart => exact ⟨0, Nat.zero_le _, rfl, HC⟩
  case round =>
    obtain ⟨j, hj, rfl, HI⟩ := hrel
    by_cases hlt : j < k
    · obtain ⟨hc, hf⟩ := HI.out.1 j hlt
      obtain ⟨r, hr⟩ : ∃ r : Nat, 256 ^ j = r := ⟨_, rfl⟩
      have hr1 : 1 ≤ r := by rw [← hr]; exact Nat.one_le_pow _ _ (by omega)
      have i1 : (1 : Int) ≤ r := by omega
      have i2 : (0 : Int) ≤ j := by omega
      have i3 : (j : Int) < k := by omega
      have hroom := fun w => room_any j (by omega) w
      rw [hr] at hroom
      have hx : (n : Int) / r % 256 = ((byteAt n j).toNat : Nat) := by rw [byteAt_toNat, hr]; simp
      have q1 : (0 : Int) ≤ n / r := Int.ediv_nonneg hn0 (by omega)
      have q2 : (n : Int) / r ≤ 9223372036854775807 := Int.le_trans (Int.ediv_le_self _ hn0) hn1
      have HX := Lib.hid hx; clear hx hr
      go_wp2_with (go_at_call 33; refine (hroom _).mono ?_; rintro e w' ⟨rfl, rfl⟩)
      go_roundw
      case rel => exact ⟨j + 1, by omega, by go_num, Lib.hid (bytesI_step HI.out hlt HX.out)⟩
      case measure => simp [intOf]; omega
    · have ej : j = k := by omega
      have hge : ¬ (j : Int) < k := by omega
      subst ej
      clear hge
      go_wp2
      go_ret
      have hh : Holds wr g (leB j n) := fun t ht => by
        have ht' : t < j := by rw [leB_length] at ht; exact ht
        have := (HI.out.1 t ht').1
        rw [if_pos ht'] at this
        rw [this]
        simp [leB]
      obtain ⟨_, hb, hs, cur, hcur, hsz⟩ := HI.out
      rw [HG.out]
      refine ⟨rfl, hh, hb, hs, by simp [vals, leB_length], .inr ⟨g, j, cur, rfl, Nat.le_refl _, hcur, Nat.le_refl _, by unfold maxLen; omega, by omega, ?_⟩⟩
      rw [Nat.mul_one, List.take_of_length_le (by simp; omega)]
      apply List.ext_getElem?
      intro i
      rw [Array.getElem?_toList, ← hcur.cell i]
      by_cases hi : i < j
      · rw [hh i (by rw [leB_length]; exact hi)]
        simp [vals, leB_length, hi]
      · have h1 : (vals (leB j n))[i]? = none := List.getElem?_eq_none (by simp [vals, leB_length]; omega)
        rw [h1, hcur.cell i, Array.getElem?_eq_none (by omega)]
theorem bytes_any (n k : Nat) (h1 : 1 ≤ k) (h2 : k ≤ 4) (hn : n ≤ 9223372036854775807) (w : World) :
    Calls Try.prog 30 #[.int .i64 n, .int .i64 k] w fun e W' => e = .returned (.slice (some ⟨w.heap.size, 0, none⟩) k k) ∧ Holds W' w.heap.size (leB k n) ∧ Below w.heap.size w W' ∧ w.heap.size < W'.heap.size :=
  (bytes_own n k h1 h2 hn w).mono fun _ _ h => ⟨h.1, h.2.1, h.2.2.1, h.2.2.2.1⟩
end Go.Proofs.Ytmlmgnifgcbehaa
