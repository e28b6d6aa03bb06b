/-
  Texts of one seat, one behind the other.
-/
import Derived.Test.YtdpmdlibgabjaaaGreatPkSZ4
/-
  In a region that draws its order: an append to a slice of one's own, at its own place in the order.
-/
namespace Go.Proofs.YtdpmdlibgabjaaaGreat
open Go.RowKit Go.Shelf
set_option maxRecDepth 100000

theorem add_mid (b off j : Nat) : (⟨b, off, none⟩ : Addr).add j = ⟨b, off + j, none⟩ := by unfold Addr.add; split <;> simp_all
section
variable {ops : List Oper} {Q : Exit → Act → World → Prop} {md : Region.Mode} {i : Nat} {σ : List Nat} {o : Oper} {listed : Array Bool} {a : Act} {w : World}
/-- An append to a slice of one's own, at its own place in the order. -/
theorem wpS_append (hi : nthOp ops i = some o) (hr : Region.ready md ops.toArray listed = [i]) (hl : lastB md ops.toArray i = true) (hgd : o.guard = none) (x y : Operand)
    (ho : o.op = .call { callee := .builtin .append, args := #[x, y], argTypes := #[26, 26] })
    (base : Nat) (v : Value) (n : Nat) (xs : List UInt8) (hx : a.eval x = v) (hown : w.ownsRow base 5 1 v n (vals xs)) (B : Nat) (A : Option Addr) (m c : Nat) (news : List UInt8) (hy : a.eval y = .slice A m c) (hb : Bsl w B A m c news) (hm : 0 < m)
    (hnm : n + m ≤ 100000) (hbase : base ≤ w.heap.size)
    (h : ∀ v' w', w'.ownsRow base 5 1 v' (n + m) (vals (xs ++ news)) → w.grownBy w' v.ownBlock → wpS Tryz.prog md ops Q σ (listed.setIfInBounds i true) (a.put o.dst v') w') : wpS Tryz.prog md ops Q (i :: σ) listed a w :=
  wpS_last hi hr hl fun K hK => by
    rw [if_pos (by simp [Region.wanted, hgd])]
    obtain ⟨i0, hi0, hz0, hz1, hz2⟩ := info_parts infoU8
    obtain ⟨h1, h2, h3, h4, h5⟩ := hb
    obtain ⟨b, off, rfl, _, hc⟩ := h5 hm
    refine wp_append_own w x y 26 ho base 5 i0 (.int .u8 0) 1 1 Tryz.underlying26 hi0 hz0 hz1 hz2 rfl (by decide) v n (vals xs) hx hown ⟨b, off, none⟩ m c (vals news) hy (by simp [vals, h1]) (fun j u hu => ?_) (fun u hu => ?_) (by unfold maxLen; omega) (by omega) hbase fun v' w' h6 h7 _ => hK _ _ (h v' w' (by rw [← vals_append]; exact h6) h7)
    · obtain ⟨hj, rfl⟩ := vals_get hu
      rw [add_mid]
      exact hc j hj
    · obtain ⟨y, _, rfl⟩ := List.mem_map.1 hu
      rfl
end
end Go.Proofs.YtdpmdlibgabjaaaGreat
/-
  What the document's own Room, Number and Bytes answer: powers of 256, the number of at most four bytes, the bytes of a number.
-/
namespace Go.Proofs.YtdpmdlibgabjaaaGreat
open Go.RowKit Go.Shelf
set_option maxRecDepth 100000

theorem room_any : ∀ (k : Nat), k ≤ 4 → ∀ w : World, Calls Tryz.prog 151 #[.int .i64 k] w fun e w' => e = .returned (.int .i64 (256 ^ k : Nat)) ∧ w = w'
  | 0, _, w => by
    go_enter Tryz.func151, Tryz.ntmps151
    go_wp2_with fail
    go_ret
    exact ⟨rfl, rfl⟩
  | k + 1, hk, w => by
    have ih := room_any k (by omega)
    have h1 : ((k + 1 : Nat) : Int) - 1 = (k : Int) := by omega
    have h2 : (((k + 1 : Nat) : Int) == 0) = false := by simp; omega
    have h3 : ((256 ^ k : Nat) : Int) ≤ 16777216 := by
      have : 256 ^ k ≤ 256 ^ 3 := Nat.pow_le_pow_right (by omega) (by omega)
      omega
    have h4 : (0 : Int) ≤ ((256 ^ k : Nat) : Int) := Int.natCast_nonneg _
    obtain ⟨r, hr⟩ : ∃ r : Nat, 256 ^ k = r := ⟨_, rfl⟩
    have e5 : 256 ^ (k + 1) = 256 * r := by rw [Nat.pow_succ, hr, Nat.mul_comm]
    rw [hr] at h3 h4 ih
    obtain ⟨m, hm⟩ : ∃ m : Int, ((k + 1 : Nat) : Int) = m := ⟨_, rfl⟩
    rw [hm] at h1 h2 ⊢
    have hm1 : 1 ≤ m := by omega
    have hm5 : m ≤ 5 := by omega
    have HE := Lib.hid e5; clear e5
    have hmk : m - 1 = (k : Int) := h1
    have HM := Lib.hid hm; clear hm
    have HK := Lib.hid hmk; clear hmk h1 hr
    have ih' : ∀ w : World, Calls Tryz.prog 151 #[.int .i64 (m - 1)] w fun e w' => e = .returned (.int .i64 r) ∧ w = w' := by rw [HK.out]; exact ih
    go_enter Tryz.func151, Tryz.ntmps151
    go_wp2_with (go_at_call 151; refine (ih' _).mono ?_; rintro e w' ⟨rfl, rfl⟩)
    go_ret
    refine ⟨?_, rfl⟩
    rw [HE.out]
    show Ending.returned (.int .i64 (256 * (r : Int))) = _
    congr 2

theorem leN_snoc : ∀ (l : List UInt8) (x : UInt8), leN (l ++ [x]) = leN l + x.toNat * 256 ^ l.length
  | [], x => by simp [leN]
  | y :: r, x => by
    simp only [List.cons_append, leN, leN_snoc r x, List.length_cons, Nat.pow_succ, Nat.mul_add]
    rw [Nat.mul_comm (256 ^ r.length) 256, Nat.mul_left_comm]
    omega
/-- What the loop of Bytes keeps: the row g, its first j bytes written. -/
def BytesI (g n k j : Nat) (w wr : World) : Prop :=
  (∀ t, t < k → wr.cell? ⟨g, t, none⟩ = some (.int .u8 ((if t < j then byteAt n t else 0 : UInt8).toNat : Int)) ∧ wr.frozen? ⟨g, t, none⟩ = false) ∧ Below g w wr ∧ g < wr.heap.size ∧ ∃ cur, Blk wr g 5 cur ∧ cur.size = k
theorem bytesI_step {g n k j : Nat} {w wr : World} {x : Int} (h : BytesI g n k j w wr) (hj : j < k) (hx : x = ((byteAt n j).toNat : Nat)) : BytesI g n k (j + 1) w (wr.setCell ⟨g, j, none⟩ (.int .u8 x)) := by
  obtain ⟨hc, hb, hs, cur, hcur, hsz⟩ := h
  subst hx
  refine ⟨fun t ht => ⟨?_, (World.frozen?_setCell _ _ _ _).trans (hc t ht).2⟩, hb.setCell (p := ⟨g, j, none⟩) (Nat.le_refl _) _, by simpa using hs, _, hcur.set_ j _, by simpa using hsz⟩
  by_cases e : t = j
  · subst e
    rw [if_pos (by omega)]
    exact World.cell?_setCell_same' wr _ _ (by rw [(hc t ht).1]; rfl)
  · have e1 : (t < j + 1) ↔ t < j := by omega
    simp only [e1]
    exact (World.cell?_setCell_other wr _ _ _ (by simp; first | done | exact fun h => e h.symm)).trans (hc t ht).1

set_option maxHeartbeats 1000000 in
theorem bytes_own (n k : Nat) (h1 : 1 ≤ k) (h2 : k ≤ 4) (hn : n ≤ 9223372036854775807) (w : World) :
    Calls Tryz.prog 129 #[.int .i64 n, .int .i64 k] w fun e W' => e = .returned (.slice (some ⟨w.heap.size, 0, none⟩) k k) ∧ Holds W' w.heap.size (leB k n) ∧ Below w.heap.size w W' ∧ w.heap.size < W'.heap.size ∧ W'.ownsRow w.heap.size 5 1 (.slice (some ⟨w.heap.size, 0, none⟩) k k) k (vals (leB k n)) := by
  have hk1 : (1:Int) ≤ k := by omega
  have hk2 : (k:Int) ≤ 4 := by omega
  have hn0 : (0:Int) ≤ n := by omega
  have hn1 : (n:Int) ≤ 9223372036854775807 := by omega
  have hmk := make_any k h1 h2
  obtain ⟨g, hg⟩ : ∃ g, w.heap.size = g := ⟨_, rfl⟩
  have c1 : BytesI g n k 0 w (w.alloc (.cells (Array.replicate k (.int .u8 0)) 5)) := by
    refine ⟨fun t ht => ?_, hg ▸ (Below.refl _ w).alloc (Nat.le_refl _) _, by simp [hg], _, hg ▸ Blk.new w _ _, by simp⟩
    have hh : (w.alloc (.cells (Array.replicate k (Value.int .u8 0)) 5)).heap[g]? = some (.cells (Array.replicate k (.int .u8 0)) 5 (0, 0)) := by rw [← hg]; exact World.alloc_heap_new _ _
    exact ⟨by rw [cell_of_row _ _ _ _ _ _ hh]; simp [ht], by simp only [World.frozen?, hh]; simp⟩
  have HC := Lib.hid c1; clear c1
  have HG := Lib.hid hg; clear hg
  go_enter Tryz.func129, Tryz.ntmps129
  go_wp2_with fail
  rw [HG.out]
  go_loopw [6] (fun i wr => ∃ j : Nat, j ≤ k ∧ i = .int .i64 j ∧ Hid (BytesI g n k j w wr)) (fun i _ => k - (intOf i).toNat)
  case atStart => exact ⟨0, Nat.zero_le _, rfl, HC⟩
  case round =>
    obtain ⟨j, hj, rfl, HI⟩ := hrel
    by_cases hlt : j < k
    · obtain ⟨hc, hf⟩ := HI.out.1 j hlt
      obtain ⟨r, hr⟩ : ∃ r : Nat, 256 ^ j = r := ⟨_, rfl⟩
      have hr1 : 1 ≤ r := by rw [← hr]; exact Nat.one_le_pow _ _ (by omega)
      have i1 : (1 : Int) ≤ r := by omega
      have i2 : (0 : Int) ≤ j := by omega
      have i3 : (j : Int) < k := by omega
      have hroom := fun w => room_any j (by omega) w
      rw [hr] at hroom
      have hx : (n : Int) / r % 256 = ((byteAt n j).toNat : Nat) := by rw [byteAt_toNat, hr]; simp
      have q1 : (0 : Int) ≤ n / r := Int.ediv_nonneg hn0 (by omega)
      have q2 : (n : Int) / r ≤ 9223372036854775807 := Int.le_trans (Int.ediv_le_self _ hn0) hn1
      have HX := Lib.hid hx; clear hx hr
      go_wp2_with (go_at_call 151; refine (hroom _).mono ?_; rintro e w' ⟨rfl, rfl⟩)
      go_roundw
      case rel => exact ⟨j + 1, by omega, by go_num, Lib.hid (bytesI_step HI.out hlt HX.out)⟩
      case measure => simp [intOf]; omega
    · have ej : j = k := by omega
      have hge : ¬ (j : Int) < k := by omega
      subst ej
      clear hge
      go_wp2
      go_ret
      have hh : Holds wr g (leB j n) := fun t ht => by
        have ht' : t < j := by rw [leB_length] at ht; exact ht
        have := (HI.out.1 t ht').1
        rw [if_pos ht'] at this
        rw [this]
        simp [leB]
      obtain ⟨_, hb, hs, cur, hcur, hsz⟩ := HI.out
      rw [HG.out]
      refine ⟨rfl, hh, hb, hs, by simp [vals, leB_length], .inr ⟨g, j, cur, rfl, Nat.le_refl _, hcur, Nat.le_refl _, by unfold maxLen; omega, by omega, ?_⟩⟩
      rw [Nat.mul_one, List.take_of_length_le (by simp; omega)]
      apply List.ext_getElem?
      intro i
      rw [Array.getElem?_toList, ← hcur.cell i]
      by_cases hi : i < j
      · rw [hh i (by rw [leB_length]; exact hi)]
        simp [vals, leB_length, hi]
      · have h1 : (vals (leB j n))[i]? = none := List.getElem?_eq_none (by simp [vals, leB_length]; omega)
        rw [h1, hcur.cell i, Array.getElem?_eq_none (by omega)]
theorem bytes_any (n k : Nat) (h1 : 1 ≤ k) (h2 : k ≤ 4) (hn : n ≤ 9223372036854775807) (w : World) :
    Calls Tryz.prog 129 #[.int .i64 n, .int .i64 k] w fun e W' => e = .returned (.slice (some ⟨w.heap.size, 0, none⟩) k k) ∧ Holds W' w.heap.size (leB k n) ∧ Below w.heap.size w W' ∧ w.heap.size < W'.heap.size :=
  (bytes_own n k h1 h2 hn w).mono fun _ _ h => ⟨h.1, h.2.1, h.2.2.1, h.2.2.2.1⟩
end Go.Proofs.YtdpmdlibgabjaaaGreat
/-
  What the document's own Bytes, Stream, Turned and Turn of layer 5 answer: the stream, the bytes turned by it, the errors.
-/
namespace Go.Proofs.YtdpmdlibgabjaaaGreat
open Go.RowKit Go.Shelf
set_option maxRecDepth 100000

/-- A list that reads as s. -/
def Lst (n : Nat) (s : List UInt8) (w : World) (e : Ending) (w' : World) : Prop :=
  ∃ a cap, e = .returned (.slice a n cap) ∧ Bsl w' w'.heap.size a n cap s ∧ Below w.heap.size w w'

set_option maxHeartbeats 2000000 in
theorem rstream_any (A : Option Addr) (cap : Nat) (k : List UInt8) (iv n : Nat) (hiv : iv < 4294967296) (hn : n ≤ 4096) (w : World) (hA : Bsl w w.heap.size A 16 cap k) :
    Calls Tryz.prog 128 #[.slice A 16 cap, .int .u32 iv, .int .i64 n] w (Lst n (stW k iv n) w) := by
  have n0 : (0 : Int) ≤ n := by omega
  have n1 : (n : Int) ≤ 4096 := by omega
  have v0 : (0 : Int) ≤ iv := by omega
  have v1 : (iv : Int) ≤ 4294967295 := by omega
  have HA := Lib.hid hA; clear hA
  have ON := Lib.hid (own_nil w w.heap.size)
  have HB := Lib.hid (Below.refl w.heap.size w)
  go_enter Tryz.func128, Tryz.ntmps128
  go_wp2_with fail
  go_loopw [7, 8] (fun v i wr => ∃ m : Nat, 16 * m < n + 16 ∧ i = .int .i64 m ∧ Hid (wr.ownsRow w.heap.size 5 1 v (16 * m) (vals (piecesW k iv m))) ∧ Hid (Below w.heap.size w wr)) (fun _ i _ => n - (intOf i).toNat)
  case atStart => exact ⟨0, by omega, rfl, ON, HB⟩
  case round =>
    obtain ⟨m, hm, rfl, HOr, HBr⟩ := hrel
    have m0 : (0 : Int) ≤ m := by omega
    have m1 : (m : Int) ≤ 5000 := by omega
    by_cases hlt : 16 * m < n
    · have m2 : (16 : Int) * m < n := by omega
      have HAr := Lib.hid ((HA.out.below HBr.out).more HBr.out.size)
      have HO0 := Lib.hid (own_nil wr wr.heap.size)
      go_wp2_with (at_builtin; refine wpList_append_bsl rfl (.tmp 16) (.tmp 17) rfl wr.heap.size (.slice none 0 0) 0 [] rfl HO0.out wr.heap.size A 16 cap k rfl HAr.out (by omega) (Nat.le_refl _) ?_; intro va W1 ho1 hg1)
      have b1 := app_below (Below.refl wr.heap.size wr) HO0.out hg1 (Nat.le_refl _)
      have HO1 := Lib.hid (show W1.ownsRow wr.heap.size 5 1 va 16 (vals k) from ho1)
      have HB1 := Lib.hid b1; clear ho1 hg1 b1 HO0
      refine (bytes_any iv 4 (by omega) (by omega) (by omega) W1).mono ?_
      rintro e W2 ⟨rfl, h2, b2, z2⟩
      have HO2 := Lib.hid (own_below HO1.out b2)
      have HB2 := Lib.hid (HB1.out.trans (b2.mono HB1.out.size))
      have HS2 := Lib.hid (bsl_of_holds (cap := 4) (leB_length 4 iv) (Nat.le_refl _) (by unfold maxLen; omega) z2 h2)
      clear h2 b2 z2 HO1
      go_wp2_with (at_builtin; refine wpList_append_bsl rfl (.tmp 19) (.tmp 22) rfl wr.heap.size va 16 k rfl HO2.out W2.heap.size _ 4 4 (leB 4 iv) rfl HS2.out (by omega) HB2.out.size ?_; intro vb W3 ho3 hg3)
      have HB3 := Lib.hid (app_below HB2.out HO2.out hg3 HB2.out.size)
      have HO3 := Lib.hid (show W3.ownsRow wr.heap.size 5 1 vb 20 (vals (k ++ leB 4 iv)) from ho3)
      clear ho3 hg3 HO2 HS2
      refine (bytes_any m 4 (by omega) (by omega) (by omega) W3).mono ?_
      rintro e W4 ⟨rfl, h4, b4, z4⟩
      have HO4 := Lib.hid (own_below HO3.out b4)
      have HB4 := Lib.hid (HB3.out.trans (b4.mono HB3.out.size))
      have HS4 := Lib.hid (bsl_of_holds (cap := 4) (leB_length 4 m) (Nat.le_refl _) (by unfold maxLen; omega) z4 h4)
      clear h4 b4 z4 HO3
      go_wp2_with (at_builtin; refine wpList_append_bsl rfl (.tmp 24) (.tmp 26) rfl wr.heap.size vb 20 _ rfl HO4.out W4.heap.size _ 4 4 (leB 4 m) rfl HS4.out (by omega) HB4.out.size ?_; intro vc W5 ho5 hg5; obtain ⟨gc, cc, rfl, hc1, hc2, hc3, hc4, hc5, hc6⟩ := bsl_of_own ho5 (by omega))
      have HB5 := Lib.hid (app_below HB4.out HO4.out hg5 HB4.out.size)
      have hs5 : Bsl W5 W5.heap.size (some ⟨gc, 0, none⟩) 24 cc (k ++ leB 4 iv ++ leB 4 m) := bsl_of_holds hc5 hc3 hc4 hc2 hc6
      have kk := rkey_any _ 24 cc _ W5 hs5 (by omega)
      have HK := Lib.hid kk; clear kk hs5 hc1 hc2 hc3 hc4 hc5 hc6 ho5 hg5 HO4 HS4
      refine HK.out.mono ?_
      rintro e W6 h6
      obtain ⟨g6, c6, rfl, _, h6, b6⟩ := KeyPost.newL h6
      have b06 := HB5.out.trans (b6.mono HB5.out.size)
      have HO6 := Lib.hid (own_below HOr.out b06)
      have HB6 := Lib.hid (HBr.out.trans (b06.mono HBr.out.size))
      have HS6 := Lib.hid (show Bsl W6 W6.heap.size (some ⟨g6, 0, none⟩) 16 c6 (pieceW k iv m) from h6)
      clear b6 b06 h6 HK HB5
      go_wp2_with (at_builtin; refine wpList_append_bsl rfl (.tmp 28) (.tmp 30) rfl w.heap.size u7 (16 * m) _ rfl HO6.out W6.heap.size _ 16 c6 _ rfl HS6.out (by omega) HB6.out.size ?_; intro vd W7 ho7 hg7)
      have HB7 := Lib.hid (app_below HB6.out HO6.out hg7 HB6.out.size)
      have HO7 := Lib.hid (show W7.ownsRow w.heap.size 5 1 vd (16 * (m + 1)) (vals (piecesW k iv (m + 1))) from ho7)
      clear ho7 hg7
      go_roundw
      case rel => exact ⟨m + 1, by omega, by go_num, HO7, HB7⟩
      case measure => simp [intOf]; omega
    · have m2 : ¬ (16 : Int) * m < n := by omega
      have hcase : ∃ a c, u7 = .slice a (16 * m) c := by
        obtain ⟨_, ⟨h, h'⟩ | ⟨g, c, _, h, _⟩⟩ := HOr.out
        · exact ⟨none, 0, by rw [h', h]⟩
        · exact ⟨_, _, h⟩
      obtain ⟨a, c, rfl⟩ := hcase
      have hb := own_bsl HOr.out
      have hto := fun W => slice_to W a (16 * m) c n (by have := hb.2.1; omega)
      have hs := hb.pre n (by omega)
      rw [stW_of k iv m n (by omega)] at hs
      have HS := Lib.hid hs; clear hs hb
      go_wp2_with fail
      go_ret
      exact ⟨_, _, rfl, HS.out, HBr.out⟩

set_option maxHeartbeats 2000000 in
set_option linter.unusedSimpArgs false in
theorem rturned_any (A : Option Addr) (cap : Nat) (k : List UInt8) (iv : Nat) (hiv : iv < 4294967296) (b : Option Addr) (len capb : Nat) (s : List UInt8) (hn : len ≤ 4096) (w : World) (hA : Bsl w w.heap.size A 16 cap k) (hS : Bsl w w.heap.size b len capb s) :
    Calls Tryz.prog 102 #[.slice A 16 cap, .int .u32 iv, .slice b len capb] w (Lst len (turnW' k iv s) w) := by
  have hmx : Tryz.prog.follows Departure.mixedOrders = true := by kernel_rfl
  have h0 : (0 : Int) ≤ len := by omega
  have h1 : (len : Int) ≤ 4096 := by omega
  have hl := hS.1
  have HR := Lib.hid (rstream_any A cap k iv len hiv hn w hA)
  have HBS := Lib.hid hS; clear hS hA
  have HL := Lib.hid hl; clear hl
  go_enter Tryz.func102, Tryz.ntmps102
  go_wp2_with fail
  refine HR.out.mono ?_
  rintro e w1 ⟨a1, c1, rfl, h1', b1⟩
  have HS1 := Lib.hid h1'
  have HB1 := Lib.hid b1
  have ON := Lib.hid (own_nil w1 w1.heap.size)
  clear h1' b1 HR
  go_wp2_with fail
  go_loopw [8, 9] (fun v i wr => ∃ j : Nat, j ≤ len ∧ i = .int .i64 j ∧ Hid (wr.ownsRow w1.heap.size 5 1 v j (vals ((turnW' k iv s).take j))) ∧ Hid (Below w1.heap.size w1 wr)) (fun _ i _ => len - (intOf i).toNat)
  case atStart => exact ⟨0, Nat.zero_le _, rfl, ON, Lib.hid (Below.refl _ _)⟩
  case round =>
    obtain ⟨j, hj, rfl, HOr, HBr⟩ := hrel
    by_cases hlt : j < len
    · have j0 : (0 : Int) ≤ j := by omega
      have j1 : (j : Int) < len := by omega
      obtain ⟨bb, bo, rfl, _, _⟩ := HBS.out.2.2.2.2 (by omega)
      obtain ⟨sb, so, rfl, _, _⟩ := HS1.out.2.2.2.2 (by omega)
      have cb := (HBS.out.below (HB1.out.trans (HBr.out.mono HB1.out.size))).cellD j hlt
      have cs := (HS1.out.below HBr.out).cellD j hlt
      have xr := xor8 (s.getD j 0) ((stW k iv len).getD j 0)
      have hjs : j < s.length := by rw [HL.out]; exact hlt
      have e1 : s.getD j 0 ^^^ (stW k iv len).getD j 0 = (turnW' k iv s)[j]'(by rw [turnW'_length]; exact hjs) := by
        have hst : j < (stW k iv len).length := by rw [stW_length]; exact hlt
        have e2 : (stW k iv s.length)[j]'(by rw [stW_length]; exact hjs) = (stW k iv len).getD j 0 := by
          rw [List.getD_eq_getElem?_getD, List.getElem?_eq_getElem hst]
          simp [HL.out]
        rw [turnW'_get k iv s j hjs, e2, List.getD_eq_getElem?_getD (l := s), List.getElem?_eq_getElem hjs, UInt8.xor_comm]
        rfl
      have e3 : (turnW' k iv s).take (j + 1) = (turnW' k iv s).take j ++ [s.getD j 0 ^^^ (stW k iv len).getD j 0] := by
        rw [e1, List.take_succ_eq_append_getElem]
      obtain ⟨x, hx⟩ : ∃ x, s.getD j 0 = x := ⟨_, rfl⟩
      obtain ⟨y, hy⟩ : ∃ y, (stW k iv len).getD j 0 = y := ⟨_, rfl⟩
      rw [hx, hy] at xr e3
      rw [hx] at cb
      rw [hy] at cs
      clear e1 hx hy hjs
      obtain ⟨z, hz⟩ : ∃ z, x ^^^ y = z := ⟨_, rfl⟩
      rw [hz] at xr e3
      clear hz
      have HE := Lib.hid e3; clear e3
      obtain ⟨w2, hw2⟩ : ∃ w2, wr.drew = w2 := ⟨_, rfl⟩
      have b2 : Below wr.heap.size wr w2 := hw2 ▸ (Below.refl _ wr).drew
      have d1 := (b2.cell (World.block_lt_of_cell? wr _ cb)).trans cb
      have d2 := (b2.cell (World.block_lt_of_cell? wr _ cs)).trans cs
      have D1 := fun X (hX : Below w2.heap.size w2 X) => (hX.cell (World.block_lt_of_cell? w2 _ d1)).trans d1
      have D2 := fun X (hX : Below w2.heap.size w2 X) => (hX.cell (World.block_lt_of_cell? w2 _ d2)).trans d2
      have bw : Below w2.heap.size w2 w2 := Below.refl _ _
      have HOB := Lib.hid (own_below (own_below HOr.out b2) ((Below.refl _ w2).alloc (Nat.le_refl _) (.cells #[.int .u8 (z.toNat : Int)] 5)))
      have HBB := Lib.hid ((HBr.out.trans (b2.mono HBr.out.size)).trans (((Below.refl _ w2).alloc (Nat.le_refl _) (.cells #[.int .u8 (z.toNat : Int)] 5)).mono (Nat.le_trans HBr.out.size b2.size)))
      have HZ := Lib.hid (one_bsl w2 z)
      have HW2 := Lib.hid hw2; clear hw2 b2 cb cs d1 d2
      go_wp2_with fail
      refine wpS_start [0, 1, 2, 3, 4, 5, 6, 7, 8, 9, 10, 11, 12] hmx rfl HW2.out ?_
      refine wpS_read (v := ?_) rfl (by kernel_rfl) (by kernel_rfl) (by kernel_rfl) (fun _ _ _ h => h) (.inl ⟨by rfl, ?_⟩) ?_
      rotate_left
      · intro X hX
        go_simp
        with_reducible rfl
      try simp only [Act.put, List.setIfInBounds_toArray, List.set_cons_zero, List.set_cons_succ]
      refine wpS_read (v := ?_) rfl (by kernel_rfl) (by kernel_rfl) (by kernel_rfl) (fun _ _ _ h => h) (.inl ⟨by rfl, ?_⟩) ?_
      rotate_left
      · intro X hX
        go_simp
        with_reducible rfl
      try simp only [Act.put, List.setIfInBounds_toArray, List.set_cons_zero, List.set_cons_succ]
      refine wpS_read (v := ?_) rfl (by kernel_rfl) (by kernel_rfl) (by kernel_rfl) (fun _ _ _ h => h) (.inl ⟨by rfl, ?_⟩) ?_
      rotate_left
      · intro X hX
        go_simp
        with_reducible rfl
      try simp only [Act.put, List.setIfInBounds_toArray, List.set_cons_zero, List.set_cons_succ]
      refine wpS_read (v := ?_) rfl (by kernel_rfl) (by kernel_rfl) (by kernel_rfl) (fun _ _ _ h => h) (.inl ⟨by rfl, ?_⟩) ?_
      rotate_left
      · intro X hX
        go_simp
        with_reducible rfl
      try simp only [Act.put, List.setIfInBounds_toArray, List.set_cons_zero, List.set_cons_succ]
      refine wpS_read (v := ?_) rfl (by kernel_rfl) (by kernel_rfl) (by kernel_rfl) (fun _ _ _ h => h) (.inl ⟨by rfl, ?_⟩) ?_
      rotate_left
      · intro X hX
        have hXa := hX _ bw
        go_simp
        with_reducible rfl
      try simp only [Act.put, List.setIfInBounds_toArray, List.set_cons_zero, List.set_cons_succ]
      refine wpS_read (v := ?_) rfl (by kernel_rfl) (by kernel_rfl) (by kernel_rfl) (fun _ _ _ h => h) (.inl ⟨by rfl, ?_⟩) ?_
      rotate_left
      · intro X hX
        go_simp
        with_reducible rfl
      try simp only [Act.put, List.setIfInBounds_toArray, List.set_cons_zero, List.set_cons_succ]
      refine wpS_read (v := ?_) rfl (by kernel_rfl) (by kernel_rfl) (by kernel_rfl) (fun _ _ _ h => h) (.inl ⟨by rfl, ?_⟩) ?_
      rotate_left
      · intro X hX
        go_simp
        with_reducible rfl
      try simp only [Act.put, List.setIfInBounds_toArray, List.set_cons_zero, List.set_cons_succ]
      refine wpS_read (v := ?_) rfl (by kernel_rfl) (by kernel_rfl) (by kernel_rfl) (fun _ _ _ h => h) (.inl ⟨by rfl, ?_⟩) ?_
      rotate_left
      · intro X hX
        go_simp
        with_reducible rfl
      try simp only [Act.put, List.setIfInBounds_toArray, List.set_cons_zero, List.set_cons_succ]
      refine wpS_read (v := ?_) rfl (by kernel_rfl) (by kernel_rfl) (by kernel_rfl) (fun _ _ _ h => h) (.inl ⟨by rfl, ?_⟩) ?_
      rotate_left
      · intro X hX
        have hXa := hX _ bw
        go_simp
        with_reducible rfl
      try simp only [Act.put, List.setIfInBounds_toArray, List.set_cons_zero, List.set_cons_succ]
      refine wpS_read (v := ?_) rfl (by kernel_rfl) (by kernel_rfl) (by kernel_rfl) (fun _ _ _ h => h) (.inl ⟨by rfl, ?_⟩) ?_
      rotate_left
      · intro X hX
        go_simp
        with_reducible rfl
      try simp only [Act.put, List.setIfInBounds_toArray, List.set_cons_zero, List.set_cons_succ]
      refine wpS_lone rfl (by kernel_rfl) (fun K hK => ?_)
      go_simp
      refine hK _ _ (Stays.of_below ((Below.refl _ w2).alloc (Nat.le_refl _) _)) ?_
      clear hK K
      try simp only [Act.put, List.setIfInBounds_toArray, List.set_cons_zero, List.set_cons_succ]
      refine wpS_append rfl (by kernel_rfl) (by kernel_rfl) rfl (.tmp 21) (.tmp 31) rfl w1.heap.size u8 j _ rfl HOB.out _ (some ⟨w2.heap.size, 0, none⟩) 1 1 [z] rfl HZ.out (by omega) (by omega) HBB.out.size ?_
      intro vd W7 ho7 hg7
      try simp only [Act.put, List.setIfInBounds_toArray, List.set_cons_zero, List.set_cons_succ]
      refine wpS_read (v := ?_) rfl (by kernel_rfl) (by kernel_rfl) (by kernel_rfl) (fun _ _ _ h => h) (.inl ⟨by rfl, ?_⟩) ?_
      rotate_left
      · intro X hX
        go_simp
        with_reducible rfl
      try simp only [Act.put, List.setIfInBounds_toArray, List.set_cons_zero, List.set_cons_succ]
      refine wpS_done (by kernel_rfl) ?_
      have HB7 := Lib.hid (app_below HBB.out HOB.out hg7 HBB.out.size)
      rw [← HE.out] at ho7
      have HO7 := Lib.hid ho7
      clear ho7 hg7
      go_wp2_with fail
      go_roundw
      case rel => exact ⟨j + 1, by omega, by go_num, HO7, HB7⟩
      case measure => simp [intOf]; omega
    · obtain rfl : j = len := by omega
      rw [List.take_of_length_le (by rw [turnW'_length, HL.out]; exact Nat.le_refl _)] at HOr
      have hcase : ∃ a c, u8 = .slice a j c := by
        obtain ⟨_, ⟨h, h'⟩ | ⟨g, c, _, h, _⟩⟩ := HOr.out
        · exact ⟨none, 0, by rw [h', h]⟩
        · exact ⟨_, _, h⟩
      obtain ⟨a, c, rfl⟩ := hcase
      have HS := Lib.hid (own_bsl HOr.out)
      go_wp2_with fail
      go_ret
      exact ⟨_, _, rfl, HS.out, HB1.out.trans (HBr.out.mono HB1.out.size)⟩

/-- A list that reads as s, and an error's number. -/
def Out' (c : Int) (n : Nat) (s : List UInt8) (w : World) (e : Ending) (w' : World) : Prop :=
  ∃ a cap, e = .returned (.tuple #[.slice a n cap, .int .i64 c]) ∧ Bsl w' w'.heap.size a n cap s ∧ Below w.heap.size w w'
theorem out'_err (c : Int) (w : World) : Out' c 0 [] w (.returned (.tuple #[.slice none 0 0, .int .i64 c])) w := ⟨none, 0, rfl, bsl_nil w, Below.refl _ _⟩
theorem Out.out' {c : Int} {n : Nat} {s : List UInt8} {w w' : World} {e : Ending} (h : Out c n s w e w') : Out' c n s w e w' :=
  let ⟨a, cap, he, ho, hb⟩ := h; ⟨a, cap, he, own_bsl ho, hb⟩

end Go.Proofs.YtdpmdlibgabjaaaGreat
/-
  What the document's own Tag answers is what mac.Tag answers.
-/
namespace Go.Proofs.YtdpmdlibgabjaaaGreat
open Go.RowKit Go.Shelf
set_option maxRecDepth 100000

set_option maxHeartbeats 2000000 in
theorem rinner_any (a : Option Addr) (cap : Nat) (k : List UInt8) (b : Option Addr) (len capb : Nat) (s : List UInt8) (w : World) (hA : Bsl w w.heap.size a 16 cap k) (hB : Bsl w w.heap.size b len capb s) (hl : len ≤ 10000) :
    Calls Tryz.prog 152 #[.slice a 16 cap, .slice b len capb] w (KeyPost (fourW (k ++ 1 :: s)) w) := by
  have hks : k.length = 16 := hA.1
  have hss : s.length = len := hB.1
  have HA := Lib.hid hA; clear hA
  have HB := Lib.hid hB; clear hB
  have HK := Lib.hid hks; clear hks
  have HS := Lib.hid hss; clear hss
  have tok1 : True := trivial
  go_enter Tryz.func152, Tryz.ntmps152
  have tok2 : True := trivial
  have tok3 : True := trivial
  go_wp2_with (first
    | (at_builtin
       have _t := tok1
       clear _t tok1
       refine wpList_append_bsl rfl (.tmp 6) (.tmp 7) rfl w.heap.size (.slice none 0 0) 0 [] rfl (own_nil _ _) w.heap.size a 16 cap k rfl HA.out (by omega) (Nat.le_refl _) ?_
       intro v1 w1 hown1 hgr1
       simp only [Nat.zero_add, List.nil_append] at hown1
       have HB1 := Lib.hid (app_below (Below.refl _ w) (own_nil _ _) hgr1 (Nat.le_refl _)); clear hgr1
       have HO1 := Lib.hid (hown1.alloc (.cells #[.int .u8 ((1 : UInt8).toNat : Int)] 5)); clear hown1
       have HE1 := Lib.hid (one_bsl w1 1)
       have HB2 := Lib.hid (HB1.out.alloc HB1.out.size (.cells #[.int .u8 ((1 : UInt8).toNat : Int)] 5)))
    | (at_builtin
       have _t := tok2
       clear _t tok2
       refine wpList_append_bsl rfl (.tmp 9) (.tmp 10) rfl w.heap.size v1 16 _ rfl HO1.out _ (some ⟨w1.heap.size, 0, none⟩) 1 1 [1] rfl HE1.out (by omega) HB2.out.size ?_
       intro v2 w2 hown2 hgr2
       have HB3 := Lib.hid (app_below HB2.out HO1.out hgr2 HB2.out.size); clear hgr2
       have HO2 := Lib.hid hown2; clear hown2)
    | (at_builtin
       have _t := tok3
       clear _t tok3
       have HBB := Lib.hid ((HB.out.below HB3.out).more HB3.out.size)
       refine wpList_append_bsl rfl (.tmp 12) (.tmp 13) rfl w.heap.size v2 (16 + 1) _ rfl HO2.out _ b len capb s rfl HBB.out (by omega) HB3.out.size ?_
       intro v3 w3 hown3 hgr3
       have HB4 := Lib.hid (app_below HB3.out HO2.out hgr3 HB3.out.size); clear hgr3
       obtain ⟨g, cap', rfl, hgb, hgl, hgc, hgm, hgs, hgh⟩ := bsl_of_own hown3 (by omega)
       clear hown3
       have HH3 := Lib.hid hgh; clear hgh
       have HS3 := Lib.hid hgs; clear hgs))
  have hk := rkey_any (some ⟨g, 0, none⟩) (16 + 1 + len) cap' (k ++ [1] ++ s) w3 ⟨HS3.out, hgc, hgm, fun e => (by cases e), fun _ => ⟨g, 0, rfl, hgl, fun i hi => by rw [Nat.zero_add]; exact HH3.out i hi⟩⟩ (by omega)
  rw [List.append_assoc] at hk
  have hk' : Calls Tryz.prog 150 #[.slice (some ⟨g, 0, none⟩) (16 + 1 + len) cap'] w3 (KeyPost (fourW (k ++ 1 :: s)) w3) := hk
  have HKK := Lib.hid hk'; clear hk hk'
  refine HKK.out.mono ?_
  rintro e w4 ⟨g2, cap2, rfl, k1, k2, k3, k4, kh, b4⟩
  have HH := Lib.hid kh; clear kh
  have HB5 := Lib.hid (HB4.out.trans (b4.mono HB4.out.size)); clear b4
  go_wp2_with fail
  go_ret
  exact ⟨g2, cap2, rfl, Nat.le_trans HB4.out.size k1, k2, k3, k4, HH.out, HB5.out⟩

set_option maxHeartbeats 2000000 in
theorem rof_any (a : Option Addr) (cap : Nat) (k : List UInt8) (b : Option Addr) (len capb : Nat) (s : List UInt8) (w : World) (hA : Bsl w w.heap.size a 16 cap k) (hB : Bsl w w.heap.size b len capb s) (hl : len ≤ 10000) :
    Calls Tryz.prog 130 #[.slice a 16 cap, .slice b len capb] w fun e w' => e = .returned (.int .u32 ((tagW k s).toNat : Int)) ∧ Below w.heap.size w w' := by
  have hks : k.length = 16 := hA.1
  have HA := Lib.hid hA; clear hA
  have HB := Lib.hid hB; clear hB
  have HK := Lib.hid hks; clear hks
  obtain ⟨x, hx⟩ : ∃ x, fourW (k ++ 1 :: s) = x := ⟨_, rfl⟩
  have htg : tagW k s = (fourW (k ++ 2 :: bytesW x 4)).a := by unfold tagW innerW; rw [hx]
  have HX := Lib.hid hx; clear hx
  have HTG := Lib.hid htg; clear htg
  have tok1 : True := trivial
  go_enter Tryz.func130, Tryz.ntmps130
  have tok2 : True := trivial
  go_wp2_with (first
    | (at_builtin
       have _t := tok1
       clear _t tok1
       refine wpList_append_bsl rfl (.tmp 6) (.tmp 7) rfl w.heap.size (.slice none 0 0) 0 [] rfl (own_nil _ _) w.heap.size a 16 cap k rfl HA.out (by omega) (Nat.le_refl _) ?_
       intro v1 w1 hown1 hgr1
       simp only [Nat.zero_add, List.nil_append] at hown1
       have HB1 := Lib.hid (app_below (Below.refl _ w) (own_nil _ _) hgr1 (Nat.le_refl _)); clear hgr1
       have HO1 := Lib.hid (hown1.alloc (.cells #[.int .u8 ((2 : UInt8).toNat : Int)] 5)); clear hown1
       have HE1 := Lib.hid (one_bsl w1 2)
       have HB2 := Lib.hid (HB1.out.alloc HB1.out.size (.cells #[.int .u8 ((2 : UInt8).toNat : Int)] 5)))
    | (at_builtin
       have _t := tok2
       clear _t tok2
       refine wpList_append_bsl rfl (.tmp 9) (.tmp 10) rfl w.heap.size v1 16 _ rfl HO1.out _ (some ⟨w1.heap.size, 0, none⟩) 1 1 [2] rfl HE1.out (by omega) HB2.out.size ?_
       intro v2 w2 hown2 hgr2
       have HB3 := Lib.hid (app_below HB2.out HO1.out hgr2 HB2.out.size); clear hgr2
       have HO2 := Lib.hid hown2; clear hown2))
  have hi := rinner_any a cap k b len capb s w2 ((HA.out.below HB3.out).more HB3.out.size) ((HB.out.below HB3.out).more HB3.out.size) hl
  rw [HX.out] at hi
  have HI := Lib.hid hi; clear hi
  refine HI.out.mono ?_
  rintro e w3 ⟨g, cap1, rfl, k1, k2, k3, k4, kh, b3⟩
  have HO3 := Lib.hid (own_below HO2.out b3)
  have HB4 := Lib.hid (HB3.out.trans (b3.mono HB3.out.size)); clear b3
  have hbs : Bsl w3 w3.heap.size (some ⟨g, 0, none⟩) 16 cap1 (bytesW x 4) := ⟨bytesW_length _ _, k3, k4, fun e => (by cases e), fun _ => ⟨g, 0, rfl, k2, fun i hi => by rw [Nat.zero_add]; exact kh i hi⟩⟩
  have HBS := Lib.hid hbs; clear hbs kh
  have tok3 : True := trivial
  go_wp2_with (at_builtin
               have _t := tok3
               clear _t tok3
               refine wpList_append_bsl rfl (.tmp 12) (.tmp 15) rfl w.heap.size v2 (16 + 1) _ rfl HO3.out _ (some ⟨g, 0, none⟩) 16 cap1 (bytesW x 4) rfl HBS.out (by omega) HB4.out.size ?_
               intro v3 w4 hown3 hgr3
               have HB5 := Lib.hid (app_below HB4.out HO3.out hgr3 HB4.out.size); clear hgr3
               obtain ⟨g3, cap3, rfl, hgb, hgl, hgc, hgm, hgs, hgh⟩ := bsl_of_own hown3 (by omega)
               clear hown3
               have HH3 := Lib.hid hgh; clear hgh
               have HS3 := Lib.hid hgs; clear hgs)
  have hk := rsum_any (some ⟨g3, 0, none⟩) (16 + 1 + 16) cap3 (k ++ [2] ++ bytesW x 4) w4 ⟨HS3.out, hgc, hgm, fun e => (by cases e), fun _ => ⟨g3, 0, rfl, hgl, fun i hi => by rw [Nat.zero_add]; exact HH3.out i hi⟩⟩ (by omega)
  rw [List.append_assoc] at hk
  have hk' : Calls Tryz.prog 77 #[.slice (some ⟨g3, 0, none⟩) (16 + 1 + 16) cap3] w4 fun e W' => e = .returned (.int .u32 ((fourW (k ++ 2 :: bytesW x 4)).a.toNat : Int)) ∧ Below w4.heap.size w4 W' := hk
  rw [← HTG.out] at hk'
  have HKK := Lib.hid hk'; clear hk hk'
  refine HKK.out.mono ?_
  rintro e w5 ⟨rfl, b5⟩
  have HB6 := Lib.hid (HB5.out.trans (b5.mono HB5.out.size)); clear b5
  go_wp2_with fail
  go_ret
  exact ⟨rfl, HB6.out⟩

end Go.Proofs.YtdpmdlibgabjaaaGreat
/-
  What the document's own Seal and Open answer: the bytes sealed and their tag, the bytes opened, the errors.
-/
namespace Go.Proofs.YtdpmdlibgabjaaaGreat
open Go.RowKit Go.Shelf
set_option maxRecDepth 100000

theorem asked_key (a : Option Addr) (len cap : Nat) (h : len ≠ 16) (u : Value) (w : World) : Calls Tryz.prog 101 #[.slice a len cap, u] w fun e w' => e = .returned (.int .i64 2) ∧ w = w' := by
  have h1 : ((len : Int) != 16) = true := by simp; omega
  go_enter Tryz.func101, Tryz.ntmps101
  go_wp2_with fail
  go_ret
  exact ⟨rfl, rfl⟩
theorem asked_text (a : Option Addr) (cap : Nat) (b : Option Addr) (len capb : Nat) (h : 256 < len) (w : World) : Calls Tryz.prog 101 #[.slice a 16 cap, .slice b len capb] w fun e w' => e = .returned (.int .i64 3) ∧ w = w' := by
  have h0 : (256 : Int) < len := by omega
  go_enter Tryz.func101, Tryz.ntmps101
  go_wp2_with fail
  go_ret
  exact ⟨rfl, rfl⟩
theorem asked_no (a : Option Addr) (cap : Nat) (b : Option Addr) (len capb : Nat) (h : len ≤ 256) (w : World) : Calls Tryz.prog 101 #[.slice a 16 cap, .slice b len capb] w fun e w' => e = .returned (.int .i64 0) ∧ w = w' := by
  have h0 : (len : Int) ≤ 256 := by omega
  go_enter Tryz.func101, Tryz.ntmps101
  go_wp2_with fail
  go_ret
  exact ⟨rfl, rfl⟩

set_option maxHeartbeats 1000000 in
theorem rTag_any (A : Option Addr) (cap : Nat) (k : List UInt8) (iv : Nat) (hiv : iv < 4294967296) (b : Option Addr) (len capb : Nat) (s : List UInt8) (hn : len ≤ 4096) (w : World) (hA : Bsl w w.heap.size A 16 cap k) (hS : Bsl w w.heap.size b len capb s) :
    Calls Tryz.prog 103 #[.slice A 16 cap, .int .u32 iv, .slice b len capb] w fun e w' => e = .returned (.int .u32 ((sealW k iv s).toNat : Int)) ∧ Below w.heap.size w w' := by
  have v0 : (0 : Int) ≤ iv := by omega
  have v1 : (iv : Int) ≤ 4294967295 := by omega
  have HA := Lib.hid hA; clear hA
  have HS := Lib.hid hS; clear hS
  go_enter Tryz.func103, Tryz.ntmps103
  go_wp2_with fail
  refine (bytes_own iv 4 (by omega) (by omega) (by omega) w).mono ?_
  rintro e w1 ⟨rfl, _, b1, _, h1⟩
  have HO1 := Lib.hid h1; clear h1
  have HB1 := Lib.hid b1
  have HS1 := Lib.hid (HS.out.step b1); clear b1 HS
  go_wp2_with (at_builtin
               refine wpList_append_bsl rfl (.tmp 12) (.tmp 13) rfl w.heap.size _ 4 _ rfl HO1.out w1.heap.size b len capb s rfl HS1.out (by omega) HB1.out.size ?_
               intro v2 w2 hown2 hgr2
               have HB2 := Lib.hid (app_below HB1.out HO1.out hgr2 HB1.out.size)
               have HA2 := Lib.hid ((HA.out.below HB2.out).more HB2.out.size); clear hgr2
               obtain ⟨g3, cap3, rfl, hgb, hgl, hgc, hgm, hgs, hgh⟩ := bsl_of_own hown2 (by omega)
               clear hown2
               have HT2 := Lib.hid (bsl_of_holds hgs hgc hgm hgl hgh)
               clear hgb hgl hgc hgm hgs hgh)
  have HT := Lib.hid (rof_any A cap k _ _ _ _ w2 HA2.out HT2.out (by omega))
  obtain ⟨t, ht⟩ : ∃ t, tagW k (leB 4 iv ++ s) = t := ⟨_, rfl⟩
  rw [ht] at HT
  have HTE := Lib.hid (show sealW k iv s = t from ht); clear ht HA HS1 HO1 HB1 HA2 HT2
  refine HT.out.mono ?_
  rintro e w3 ⟨rfl, b3⟩
  have HB3 := Lib.hid (HB2.out.trans (b3.mono HB2.out.size)); clear b3
  go_wp2_with fail
  go_ret
  exact ⟨by rw [HTE.out]; rfl, HB3.out⟩

/-- A list that reads as s, a number of 32 bits, and an error's number. -/
def OutT' (c : Int) (t : BitVec 32) (n : Nat) (s : List UInt8) (w : World) (e : Ending) (w' : World) : Prop :=
  ∃ a cap, e = .returned (.tuple #[.slice a n cap, .int .u32 (t.toNat : Int), .int .i64 c]) ∧ Bsl w' w'.heap.size a n cap s ∧ Below w.heap.size w w'
theorem OutT.outT' {c : Int} {t : BitVec 32} {n : Nat} {s : List UInt8} {w w' : World} {e : Ending} (h : OutT c t n s w e w') : OutT' c t n s w e w' :=
  let ⟨a, cap, he, ho, hb⟩ := h; ⟨a, cap, he, own_bsl ho, hb⟩

theorem rSeal_key (a : Option Addr) (len cap : Nat) (h : len ≠ 16) (v u : Value) (w : World) : Calls Tryz.prog 74 #[.slice a len cap, v, u] w (OutT' 2 0 0 [] w) := by
  go_enter Tryz.func74, Tryz.ntmps74
  go_wp2_with (go_at_call 101; refine (asked_key _ _ _ h _ _).mono ?_; rintro e w' ⟨rfl, rfl⟩)
  go_ret3
  exact ⟨none, 0, rfl, bsl_nil _, Below.refl _ _⟩
theorem rSeal_far (a : Option Addr) (cap : Nat) (v : Value) (b : Option Addr) (len capb : Nat) (h : 256 < len) (w : World) : Calls Tryz.prog 74 #[.slice a 16 cap, v, .slice b len capb] w (OutT' 3 0 0 [] w) := by
  go_enter Tryz.func74, Tryz.ntmps74
  go_wp2_with (go_at_call 101; refine (asked_text _ _ _ _ _ h _).mono ?_; rintro e w' ⟨rfl, rfl⟩)
  go_ret3
  exact ⟨none, 0, rfl, bsl_nil _, Below.refl _ _⟩
theorem rSeal_ok (A : Option Addr) (cap : Nat) (k : List UInt8) (iv : Nat) (hiv : iv < 4294967296) (b : Option Addr) (len capb : Nat) (s : List UInt8) (hn : len ≤ 256) (w : World) (hA : Bsl w w.heap.size A 16 cap k) (hS : Bsl w w.heap.size b len capb s) :
    Calls Tryz.prog 74 #[.slice A 16 cap, .int .u32 iv, .slice b len capb] w (OutT' 0 (sealW k iv (turnW' k iv s)) len (turnW' k iv s) w) := by
  have HT := Lib.hid (rturned_any A cap k iv hiv b len capb s (by omega) w hA hS)
  have HA := Lib.hid hA; clear hA hS
  obtain ⟨x, hx⟩ : ∃ x, turnW' k iv s = x := ⟨_, rfl⟩
  rw [hx] at HT ⊢
  clear hx
  obtain ⟨t, ht⟩ : ∃ t, sealW k iv x = t := ⟨_, rfl⟩
  rw [ht]
  have HTE := Lib.hid ht; clear ht
  go_enter Tryz.func74, Tryz.ntmps74
  go_wp2_with (go_at_call 101; refine (asked_no _ _ _ _ _ hn _).mono ?_; rintro e w' ⟨rfl, rfl⟩)
  refine HT.out.mono ?_
  rintro e w1 ⟨a1, c1, rfl, h1, b1⟩
  have HG := Lib.hid (rTag_any A cap k iv hiv a1 len c1 x (by omega) w1 (HA.out.step b1) h1)
  have H1 := Lib.hid h1; clear h1
  have B1 := Lib.hid b1; clear b1
  rw [HTE.out] at HG
  go_wp2_with fail
  refine HG.out.mono ?_
  rintro e w2 ⟨rfl, b2⟩
  have H2 := Lib.hid (H1.out.step b2)
  have B2 := Lib.hid (B1.out.trans (b2.mono B1.out.size)); clear b2
  go_wp2_with fail
  go_ret3
  exact ⟨_, _, rfl, H2.out, B2.out⟩

theorem rOpen_key (a : Option Addr) (len cap : Nat) (h : len ≠ 16) (v u x : Value) (w : World) : Calls Tryz.prog 86 #[.slice a len cap, v, u, x] w (Out' 2 0 [] w) := by
  go_enter Tryz.func86, Tryz.ntmps86
  go_wp2_with (go_at_call 101; refine (asked_key _ _ _ h _ _).mono ?_; rintro e w' ⟨rfl, rfl⟩)
  go_ret2
  exact out'_err 2 _
theorem rOpen_far (a : Option Addr) (cap : Nat) (v x : Value) (b : Option Addr) (len capb : Nat) (h : 256 < len) (w : World) : Calls Tryz.prog 86 #[.slice a 16 cap, v, .slice b len capb, x] w (Out' 3 0 [] w) := by
  go_enter Tryz.func86, Tryz.ntmps86
  go_wp2_with (go_at_call 101; refine (asked_text _ _ _ _ _ h _).mono ?_; rintro e w' ⟨rfl, rfl⟩)
  go_ret2
  exact out'_err 3 _
theorem rOpen_tag (A : Option Addr) (cap : Nat) (k : List UInt8) (iv : Nat) (hiv : iv < 4294967296) (b : Option Addr) (len capb : Nat) (s : List UInt8) (hn : len ≤ 256) (t : BitVec 32) (ht : sealW k iv s ≠ t) (w : World) (hA : Bsl w w.heap.size A 16 cap k) (hS : Bsl w w.heap.size b len capb s) :
    Calls Tryz.prog 86 #[.slice A 16 cap, .int .u32 iv, .slice b len capb, .int .u32 (t.toNat : Int)] w (Out' 131 0 [] w) := by
  have HT := Lib.hid (rTag_any A cap k iv hiv b len capb s (by omega) w hA hS)
  clear hA hS
  have hne : (((sealW k iv s).toNat : Int) != (t.toNat : Int)) = true := by
    have : (sealW k iv s).toNat ≠ t.toNat := fun h => ht (BitVec.eq_of_toNat_eq h)
    simp only [bne_iff_ne, ne_eq]; omega
  go_enter Tryz.func86, Tryz.ntmps86
  go_wp2_with (go_at_call 101; refine (asked_no _ _ _ _ _ hn _).mono ?_; rintro e w' ⟨rfl, rfl⟩)
  refine HT.out.mono ?_
  rintro e w1 ⟨rfl, b1⟩
  have B1 := Lib.hid b1; clear b1
  go_wp2_with fail
  go_ret2
  exact ⟨none, 0, rfl, bsl_nil _, B1.out⟩
theorem rOpen_ok (A : Option Addr) (cap : Nat) (k : List UInt8) (iv : Nat) (hiv : iv < 4294967296) (b : Option Addr) (len capb : Nat) (s : List UInt8) (hn : len ≤ 256) (w : World) (hA : Bsl w w.heap.size A 16 cap k) (hS : Bsl w w.heap.size b len capb s) :
    Calls Tryz.prog 86 #[.slice A 16 cap, .int .u32 iv, .slice b len capb, .int .u32 ((sealW k iv s).toNat : Int)] w (Out' 0 len (turnW' k iv s) w) := by
  have HT := Lib.hid (rTag_any A cap k iv hiv b len capb s (by omega) w hA hS)
  have HA := Lib.hid hA; clear hA
  have HS := Lib.hid hS; clear hS
  obtain ⟨t, ht⟩ : ∃ t, sealW k iv s = t := ⟨_, rfl⟩
  rw [ht] at HT ⊢
  clear ht
  have hne : ((t.toNat : Int) != (t.toNat : Int)) = false := by simp
  go_enter Tryz.func86, Tryz.ntmps86
  go_wp2_with (go_at_call 101; refine (asked_no _ _ _ _ _ hn _).mono ?_; rintro e w' ⟨rfl, rfl⟩)
  refine HT.out.mono ?_
  rintro e w1 ⟨rfl, b1⟩
  have HU := Lib.hid (rturned_any A cap k iv hiv b len capb s (by omega) w1 (HA.out.step b1) (HS.out.step b1))
  have B1 := Lib.hid b1; clear b1
  go_wp2_with fail
  refine HU.out.mono ?_
  rintro e w2 ⟨a2, c2, rfl, h2, b2⟩
  have H2 := Lib.hid h2
  have B2 := Lib.hid (B1.out.trans (b2.mono B1.out.size)); clear b2 h2
  go_wp2_with fail
  go_ret2
  exact ⟨_, _, rfl, H2.out, B2.out⟩
end Go.Proofs.YtdpmdlibgabjaaaGreat
/-
  The document's own Raw, Lay, Sealed and Seal of layer 13.
-/
namespace Go.Proofs.YtdpmdlibgabjaaaGreat
open Go.RowKit Go.Shelf
set_option maxRecDepth 100000

theorem outSP_no (L c : Nat) {w w' : World} (hb : Below w.heap.size w w') : OutSP L (st0, p0, c) w (.returned (.tuple #[.agg #[.slice none 0 0, .slice none 0 0, .slice none 0 0, .int .u32 0, .int .u32 0], .agg #[.int .i64 0, .int .u32 0, .int .u32 0, .int .u32 0, .int .u32 0], .int .i64 c])) w' := ⟨at0, rfl, st0_lasts L w', hb⟩
/-- Put, whatever there is. -/
theorem rtPut_any (L : Nat) (x : SAt) (S : StL) (birth iv tag : Nat) (a : Option Addr) (c : Nat) (b : List UInt8) (w : World) (h : StP L w x S) (hb : Bsl w w.heap.size a b.length c b) (hL : L ≤ w.heap.size) (ht : MayT S.2.1) (hf : Fits S.1) (hbl : b.length ≤ 100000) :
    Calls Tryz.prog 40 #[stV x S, .int .u32 birth, .int .u32 iv, .int .u32 tag, .slice a b.length c] w (OutPut L (putS S birth iv tag b) w) := by
  rcases first_from (fun i => mkT S.2.1 i = 0) 0 256 with ⟨k, _, h1, h2, h3⟩ | h0
  · by_cases hg : 4096 ≤ S.1.2.length
    · exact rtPut_great L x S birth iv tag a c b w h hb hL ht hf k h1 h2 (fun i hi => h3 i (Nat.zero_le _) hi) hg
    · exact rtPut_ok L x S birth iv tag a c b w h hb hL ht hf hbl k h1 h2 (fun i hi => h3 i (Nat.zero_le _) hi) (by omega)
  · exact rtPut_full L x S birth iv tag a c b w h hb hL ht hf fun i hi => h0 i (Nat.zero_le _) hi
set_option maxHeartbeats 8000000 in
theorem rtRaw_any (L : Nat) (x : SAt) (S : StL) (birth iv tag : Nat) (a : Option Addr) (c : Nat) (b : List UInt8) (w : World) (h : StP L w x S) (hb : Bsl w w.heap.size a b.length c b) (hL : L ≤ w.heap.size) (hbi : birth < 4294967296) : Calls Tryz.prog 14 #[stV x S, .int .u32 birth, .int .u32 iv, .int .u32 tag, .slice a b.length c] w (OutSP L (rawO S birth iv tag b) w) := by
  have hmx : Tryz.prog.follows Departure.mixedOrders = true := by kernel_rfl
  obtain ⟨w0, hw0, b0, z0, x0, y0, q0⟩ := three_al w (stC x S) stZ ptZ 29 29 33
  obtain ⟨g, hg⟩ : ∃ g, w.heap.size = g := ⟨_, rfl⟩
  obtain ⟨g1, hg1⟩ : ∃ g1, g + 1 = g1 := ⟨_, rfl⟩
  obtain ⟨g2, hg2⟩ : ∃ g2, g1 + 1 = g2 := ⟨_, rfl⟩
  have h0 := h.bel b0
  have hb0 := (bsl_lasts hb (Nat.le_refl _)).bel b0
  rw [hg] at hb0
  rw [hg] at x0 y0 q0 z0 b0
  rw [hg1] at y0
  rw [show g + 2 = g1 + 1 by omega, hg2] at q0
  have HI := Lib.hid (show L ≤ g ∧ g ≤ g1 ∧ g ≤ g2 ∧ g1 ≠ g ∧ g2 ≠ g ∧ g2 ≠ g1 ∧ g1 ≠ g2 by omega)
  have c0 := stC0 x0
  have c1 := stC1 x0
  have c2 := stC2 x0
  have c3 := stC3 x0
  have c4 := stC4 x0
  have HX := Lib.hid x0
  have HY := Lib.hid y0
  have HQ := Lib.hid q0
  have HB := Lib.hid b0
  have HS := Lib.hid h0
  have HG := Lib.hid hg
  have HW := Lib.hid (show g ≤ w0.heap.size by omega)
  simp only [stC, stZ, ptZ] at hw0
  clear h h0 x0 y0 q0 b0 z0
  have HBB := Lib.hid hb0
  have lb := hb0.now.len_le
  clear hb hb0
  unfold rawO
  by_cases hm : MayS S
  · rw [if_pos hm]
    have HM := Lib.hid (rtMay_any L x S w0 HS.out true ⟨fun _ => hm, fun _ => rfl⟩)
    have HMS := Lib.hid hm
    clear hm
    by_cases h1 : 1 ≤ birth ∧ birth ≤ 16777215
    · rw [if_pos h1]
      have k1 : (1 : Int) ≤ birth := by omega
      have k2 : (birth : Int) ≤ 16777215 := by omega
      clear h1
      by_cases h2 : b.length = 256
      · rw [if_pos h2]
        have HP := Lib.hid fun W (hs : StP L W x S) (hbb : Bsl W W.heap.size a b.length c b) hl => rtPut_any L x S birth iv tag a c b W hs hbb hl HMS.out.2.1 (may_fits HMS.out.1) (by omega)
        have k3 : ((b.length : Int) != 256) = false := by simp; omega
        have H2 := Lib.hid h2
        clear h2
        go_enter Tryz.func14, Tryz.ntmps14
        go_wp2_with fail
        clear c0 c1 c2 c3 c4 hw0
        refine HM.out.mono ?_
        rintro e w1 ⟨rfl, b1⟩
        replace HX := Lib.hid (HX.out.below b1 HX.out.lt)
        replace HY := Lib.hid (HY.out.below b1 HY.out.lt)
        replace HQ := Lib.hid (HQ.out.below b1 HQ.out.lt)
        replace HS := Lib.hid (HS.out.bel b1)
        replace HBB := Lib.hid (HBB.out.bel b1)
        replace HB := Lib.hid (HB.out.trans (b1.mono HW.out))
        replace HW := Lib.hid (Nat.le_trans HW.out b1.size)
        clear b1 HM
        have c0 := stC0 HX.out
        have c1 := stC1 HX.out
        have c2 := stC2 HX.out
        have c3 := stC3 HX.out
        have c4 := stC4 HX.out
        go_wp2_with fail
        clear c0 c1 c2 c3 c4
        refine (HP.out w1 HS.out HBB.out.now (Nat.le_trans HI.out.1 HW.out)).mono ?_
        rintro e w2 ⟨ho1, ho2, b2⟩
        replace HY := Lib.hid (HY.out.below b2 HY.out.lt)
        replace HQ := Lib.hid (HQ.out.below b2 HQ.out.lt)
        replace HB := Lib.hid (HB.out.trans (b2.mono HW.out))
        replace HW := Lib.hid (Nat.le_trans HW.out b2.size)
        clear b2 HP
        cases hp : putS S birth iv tag b with
        | none =>
          obtain rfl := ho1 hp
          have HPP := Lib.hid hp
          clear ho1 ho2 hp
          obtain ⟨w3, rfl, b3, z3, x3, q3⟩ := two_al w2 #[.slice none 0 0, .slice none 0 0, .slice none 0 0, .int .u32 0, .int .u32 0] #[.int .i64 0, .int .u32 0, .int .u32 0, .int .u32 0, .int .u32 0] 29 33
          replace HY := Lib.hid (HY.out.below b3 HY.out.lt)
          replace HQ := Lib.hid (HQ.out.below b3 HQ.out.lt)
          replace HB := Lib.hid (HB.out.trans (b3.mono HW.out))
          replace HW := Lib.hid (Nat.le_trans HW.out b3.size)
          clear b3 z3 x3 q3
          obtain ⟨ya, ka, ba⟩ := box_five (L := g) HY.out (by decide) HI.out.2.1 HB.out HI.out.2.1 (.slice none 0 0) (.slice none 0 0) (.slice none 0 0) (.int .u32 0) (.int .u32 0)
          have qa := far5_blk HQ.out HI.out.2.2.2.2.2.1 (.slice none 0 0) (.slice none 0 0) (.slice none 0 0) (.int .u32 0) (.int .u32 0)
          have m0 := stZ0 HY.out
          have m1 := stZ1 HY.out
          have m2 := stZ2 HY.out
          have m3 := stZ3 HY.out
          have m4 := stZ4 HY.out
          have hfy := fun i => HY.out.frozen i
          obtain ⟨wa, hwa⟩ : ∃ wa, set5 ((w2.alloc (.cells #[.slice none 0 0, .slice none 0 0, .slice none 0 0, .int .u32 0, .int .u32 0] 29)).alloc (.cells #[.int .i64 0, .int .u32 0, .int .u32 0, .int .u32 0, .int .u32 0] 33)) g1 (.slice none 0 0) (.slice none 0 0) (.slice none 0 0) (.int .u32 0) (.int .u32 0) = wa := ⟨_, rfl⟩
          rw [hwa] at ya ka ba qa
          obtain ⟨qb, kb, bb⟩ := box_five (L := g) qa (by decide) HI.out.2.2.1 ba HI.out.2.2.1 (.int .i64 0) (.int .u32 0) (.int .u32 0) (.int .u32 0) (.int .u32 0)
          have yb := far5_blk ya HI.out.2.2.2.2.2.2 (.int .i64 0) (.int .u32 0) (.int .u32 0) (.int .u32 0) (.int .u32 0)
          have n0 := ptZ0 qa
          have n1 := ptZ1 qa
          have n2 := ptZ2 qa
          have n3 := ptZ3 qa
          have n4 := ptZ4 qa
          have hfq := fun i => qa.frozen i
          obtain ⟨wb, hwb⟩ : ∃ wb, set5 wa g2 (.int .i64 0) (.int .u32 0) (.int .u32 0) (.int .u32 0) (.int .u32 0) = wb := ⟨_, rfl⟩
          rw [hwb] at qb kb bb yb
          have HK := Lib.hid (ka.trans kb)
          have HKA := Lib.hid ka
          have HKB := Lib.hid kb
          have HBF := Lib.hid bb
          have HYF := Lib.hid yb
          have HQF := Lib.hid qb
          simp only [set5] at hwa hwb
          clear ya ka ba qa qb kb bb yb
          go_wp2_with fail
          clear m0 m1 m2 m3 m4 n0 n1 n2 n3 n4 hfy hfq hwa hwb
          have e0 := bx0 HYF.out
          have e1 := bx1 HYF.out
          have e2 := bx2 HYF.out
          have e3 := bx3 HYF.out
          have e4 := bx4 HYF.out
          have f0 := bx0 HQF.out
          have f1 := bx1 HQF.out
          have f2 := bx2 HQF.out
          have f3 := bx3 HQF.out
          have f4 := bx4 HQF.out
          refine bodyPost_ret (v := .tuple #[.agg #[(.slice none 0 0), (.slice none 0 0), (.slice none 0 0), (.int .u32 0), (.int .u32 0)], .agg #[(.int .i64 0), (.int .u32 0), (.int .u32 0), (.int .u32 0), (.int .u32 0)], .int .i64 9]) (by simp [results, Tryz.f14, go_sem, e0, e1, e2, e3, e4, f0, f1, f2, f3, f4]) rfl ?_
          rw [HPP.out]
          exact outSP_no L 9 (by rw [HG.out]; exact HBF.out)
        | some sp =>
          obtain ⟨S', p⟩ := sp
          obtain ⟨y, rfl, hy⟩ := ho2 S' p hp
          have HPP := Lib.hid hp
          clear ho1 ho2 hp
          have H3 := Lib.hid (two_al w2 (stC y S') (ptC p).toArray 29 33)
          have HYY := Lib.hid hy
          clear hy
          go_wp2_with fail
          obtain ⟨w3, hw3, b3, z3, x3, q3⟩ := H3.out
          have hy := HYY.out
          clear H3 HYY
          have hq3 : (ptC p).toArray = #[.int .i64 p.1, .int .u32 (p.2.1 : Int), .int .u32 (p.2.2.1 : Int), .int .u32 (p.2.2.2.1 : Int), .int .u32 (p.2.2.2.2 : Int)] := rfl
          rw [hq3] at q3 hw3
          obtain ⟨g3, hg3⟩ : ∃ g3, w2.heap.size = g3 := ⟨_, rfl⟩
          obtain ⟨g4, hg4⟩ : ∃ g4, g3 + 1 = g4 := ⟨_, rfl⟩
          rw [hg3] at x3 q3
          rw [hg4] at q3
          have HX3 := Lib.hid x3
          have HQ3 := Lib.hid q3
          have HY3 := Lib.hid hy
          have HNE := Lib.hid (show g1 < g3 ∧ g2 < g3 ∧ g3 < g4 from ⟨by have := HY.out.lt; omega, by have := HQ.out.lt; omega, by omega⟩)
          replace HY := Lib.hid (HY.out.below b3 HY.out.lt)
          replace HQ := Lib.hid (HQ.out.below b3 HQ.out.lt)
          replace HY3 := Lib.hid (HY3.out.bel b3)
          replace HB := Lib.hid (HB.out.trans (b3.mono HW.out))
          replace HW := Lib.hid (Nat.le_trans HW.out b3.size)
          simp only [stC] at hw3
          clear b3 z3 x3 q3 hq3 hy
          rw [hw3, hg3, hg4]
          clear hw3 hg3 hg4
          obtain ⟨wd, hwd⟩ : ∃ wd, w3.drew = wd := ⟨_, rfl⟩
          have bb : Below w3.heap.size w3 wd := by rw [← hwd]; exact (Below.refl _ w3).drew
          replace HX3 := Lib.hid (HX3.out.below bb HX3.out.lt)
          replace HQ3 := Lib.hid (HQ3.out.below bb HQ3.out.lt)
          replace HY := Lib.hid (HY.out.below bb HY.out.lt)
          replace HQ := Lib.hid (HQ.out.below bb HQ.out.lt)
          replace HY3 := Lib.hid (HY3.out.bel bb)
          replace HB := Lib.hid (HB.out.trans (bb.mono HW.out))
          replace HW := Lib.hid (Nat.le_trans HW.out bb.size)
          clear bb
          have hx3 := HX3.out
          have hq3 := HQ3.out
          have hcs := And.intro (bx0 hx3) (And.intro (bx1 hx3) (And.intro (bx2 hx3) (And.intro (bx3 hx3) (And.intro (bx4 hx3) (And.intro (bx0 hq3) (And.intro (bx1 hq3) (And.intro (bx2 hq3) (And.intro (bx3 hq3) (bx4 hq3)))))))))
          refine wpI_start (fun X => X.cell? ⟨g3, 0, none⟩ = some (.slice y.d.ba S'.1.1.length y.d.bc) ∧ X.cell? ⟨g3, 1, none⟩ = some (.slice y.d.wa S'.1.2.length y.d.wc) ∧ X.cell? ⟨g3, 2, none⟩ = some (.slice y.a S'.2.1.length y.c) ∧ X.cell? ⟨g3, 3, none⟩ = some (.int .u32 (S'.2.2.1 : Int)) ∧ X.cell? ⟨g3, 4, none⟩ = some (.int .u32 (S'.2.2.2 : Int)) ∧ X.cell? ⟨g4, 0, none⟩ = some (.int .i64 p.1) ∧ X.cell? ⟨g4, 1, none⟩ = some (.int .u32 (p.2.1 : Int)) ∧ X.cell? ⟨g4, 2, none⟩ = some (.int .u32 (p.2.2.1 : Int)) ∧ X.cell? ⟨g4, 3, none⟩ = some (.int .u32 (p.2.2.2.1 : Int)) ∧ X.cell? ⟨g4, 4, none⟩ = some (.int .u32 (p.2.2.2.2 : Int))) [0, 1, 2, 3, 4] hmx rfl hwd ?_
          clear hwd hx3 hq3
          iterate 2 (
            refine wpI_read (v := ?_) hcs rfl (by kernel_rfl) (by kernel_rfl) (by kernel_rfl) (fun _ _ _ h => h) (.inl ⟨by rfl, ?_⟩) ?_
            rotate_left
            · intro X hX
              obtain ⟨j0, j1, j2, j3, j4, j5, j6, j7, j8, j9⟩ := hX
              go_simp
              with_reducible rfl
            try simp only [Act.put, List.setIfInBounds_toArray, List.set_cons_zero, List.set_cons_succ])
          obtain ⟨ya, ka, ba⟩ := box_five (L := g) HY.out (by decide) HI.out.2.1 HB.out HI.out.2.1 (.slice y.d.ba S'.1.1.length y.d.bc) (.slice y.d.wa S'.1.2.length y.d.wc) (.slice y.a S'.2.1.length y.c) (.int .u32 (S'.2.2.1 : Int)) (.int .u32 (S'.2.2.2 : Int))
          have qa := far5_blk HQ.out HI.out.2.2.2.2.2.1 (.slice y.d.ba S'.1.1.length y.d.bc) (.slice y.d.wa S'.1.2.length y.d.wc) (.slice y.a S'.2.1.length y.c) (.int .u32 (S'.2.2.1 : Int)) (.int .u32 (S'.2.2.2 : Int))
          have m0 := stZ0 HY.out
          have m1 := stZ1 HY.out
          have m2 := stZ2 HY.out
          have m3 := stZ3 HY.out
          have m4 := stZ4 HY.out
          have hfy := fun i => HY.out.frozen i
          obtain ⟨wa, hwa⟩ : ∃ wa, set5 wd g1 (.slice y.d.ba S'.1.1.length y.d.bc) (.slice y.d.wa S'.1.2.length y.d.wc) (.slice y.a S'.2.1.length y.c) (.int .u32 (S'.2.2.1 : Int)) (.int .u32 (S'.2.2.2 : Int)) = wa := ⟨_, rfl⟩
          rw [hwa] at ya ka ba qa
          obtain ⟨qb, kb, bb⟩ := box_five (L := g) qa (by decide) HI.out.2.2.1 ba HI.out.2.2.1 (.int .i64 p.1) (.int .u32 (p.2.1 : Int)) (.int .u32 (p.2.2.1 : Int)) (.int .u32 (p.2.2.2.1 : Int)) (.int .u32 (p.2.2.2.2 : Int))
          have yb := far5_blk ya HI.out.2.2.2.2.2.2 (.int .i64 p.1) (.int .u32 (p.2.1 : Int)) (.int .u32 (p.2.2.1 : Int)) (.int .u32 (p.2.2.2.1 : Int)) (.int .u32 (p.2.2.2.2 : Int))
          have n0 := ptZ0 qa
          have n1 := ptZ1 qa
          have n2 := ptZ2 qa
          have n3 := ptZ3 qa
          have n4 := ptZ4 qa
          have hfq := fun i => qa.frozen i
          obtain ⟨wb, hwb⟩ : ∃ wb, set5 wa g2 (.int .i64 p.1) (.int .u32 (p.2.1 : Int)) (.int .u32 (p.2.2.1 : Int)) (.int .u32 (p.2.2.2.1 : Int)) (.int .u32 (p.2.2.2.2 : Int)) = wb := ⟨_, rfl⟩
          rw [hwb] at qb kb bb yb
          have HK := Lib.hid (ka.trans kb)
          have HKA := Lib.hid ka
          have HKB := Lib.hid kb
          have HBF := Lib.hid bb
          have HYF := Lib.hid yb
          have HQF := Lib.hid qb
          simp only [set5] at hwa hwb
          clear ya ka ba qa qb kb bb yb
          have hxa := far5_blk HX3.out (show g3 ≠ g1 by have := HNE.out; omega) (.slice y.d.ba S'.1.1.length y.d.bc) (.slice y.d.wa S'.1.2.length y.d.wc) (.slice y.a S'.2.1.length y.c) (.int .u32 (S'.2.2.1 : Int)) (.int .u32 (S'.2.2.2 : Int))
          have hqa := far5_blk HQ3.out (show g4 ≠ g1 by have := HNE.out; omega) (.slice y.d.ba S'.1.1.length y.d.bc) (.slice y.d.wa S'.1.2.length y.d.wc) (.slice y.a S'.2.1.length y.c) (.int .u32 (S'.2.2.1 : Int)) (.int .u32 (S'.2.2.2 : Int))
          rw [show set5 wd g1 (.slice y.d.ba S'.1.1.length y.d.bc) (.slice y.d.wa S'.1.2.length y.d.wc) (.slice y.a S'.2.1.length y.c) (.int .u32 (S'.2.2.1 : Int)) (.int .u32 (S'.2.2.2 : Int)) = wa from hwa] at hxa hqa
          have hsa := And.intro (bx0 hxa) (And.intro (bx1 hxa) (And.intro (bx2 hxa) (And.intro (bx3 hxa) (And.intro (bx4 hxa) (And.intro (bx0 hqa) (And.intro (bx1 hqa) (And.intro (bx2 hqa) (And.intro (bx3 hqa) (bx4 hqa)))))))))
          have hxb := far5_blk hxa (show g3 ≠ g2 by have := HNE.out; omega) (.int .i64 p.1) (.int .u32 (p.2.1 : Int)) (.int .u32 (p.2.2.1 : Int)) (.int .u32 (p.2.2.2.1 : Int)) (.int .u32 (p.2.2.2.2 : Int))
          have hqb := far5_blk hqa (show g4 ≠ g2 by have := HNE.out; omega) (.int .i64 p.1) (.int .u32 (p.2.1 : Int)) (.int .u32 (p.2.2.1 : Int)) (.int .u32 (p.2.2.2.1 : Int)) (.int .u32 (p.2.2.2.2 : Int))
          rw [show set5 wa g2 (.int .i64 p.1) (.int .u32 (p.2.1 : Int)) (.int .u32 (p.2.2.1 : Int)) (.int .u32 (p.2.2.2.1 : Int)) (.int .u32 (p.2.2.2.2 : Int)) = wb from hwb] at hxb hqb
          have hsb := And.intro (bx0 hxb) (And.intro (bx1 hxb) (And.intro (bx2 hxb) (And.intro (bx3 hxb) (And.intro (bx4 hxb) (And.intro (bx0 hqb) (And.intro (bx1 hqb) (And.intro (bx2 hqb) (And.intro (bx3 hqb) (bx4 hqb)))))))))
          clear hxa hqa hxb hqb
          refine wpI_lone rfl (by kernel_rfl) (fun K hK => ?_)
          go_simp
          refine hK _ _ hsa ?_
          clear hK K
          try simp only [Act.put, List.setIfInBounds_toArray, List.set_cons_zero, List.set_cons_succ]
          refine wpI_lone rfl (by kernel_rfl) (fun K hK => ?_)
          go_simp
          refine hK _ _ hsb ?_
          clear hK K
          try simp only [Act.put, List.setIfInBounds_toArray, List.set_cons_zero, List.set_cons_succ]
          iterate 1 (
            refine wpI_read (v := ?_) hsb rfl (by kernel_rfl) (by kernel_rfl) (by kernel_rfl) (fun _ _ _ h => h) (.inl ⟨by rfl, ?_⟩) ?_
            rotate_left
            · intro X hX
              go_simp
              with_reducible rfl
            try simp only [Act.put, List.setIfInBounds_toArray, List.set_cons_zero, List.set_cons_succ])
          refine wpI_done (by kernel_rfl) ?_
          go_wp2_with fail
          clear m0 m1 m2 m3 m4 n0 n1 n2 n3 n4 hfy hfq hwa hwb
          have e0 := bx0 HYF.out
          have e1 := bx1 HYF.out
          have e2 := bx2 HYF.out
          have e3 := bx3 HYF.out
          have e4 := bx4 HYF.out
          have f0 := bx0 HQF.out
          have f1 := bx1 HQF.out
          have f2 := bx2 HQF.out
          have f3 := bx3 HQF.out
          have f4 := bx4 HQF.out
          refine bodyPost_ret (v := .tuple #[.agg #[(.slice y.d.ba S'.1.1.length y.d.bc), (.slice y.d.wa S'.1.2.length y.d.wc), (.slice y.a S'.2.1.length y.c), (.int .u32 (S'.2.2.1 : Int)), (.int .u32 (S'.2.2.2 : Int))], .agg #[(.int .i64 p.1), (.int .u32 (p.2.1 : Int)), (.int .u32 (p.2.2.1 : Int)), (.int .u32 (p.2.2.2.1 : Int)), (.int .u32 (p.2.2.2.2 : Int))], .int .i64 0]) (by simp [results, Tryz.f14, go_sem, e0, e1, e2, e3, e4, f0, f1, f2, f3, f4]) rfl ?_
          rw [HPP.out]
          exact ⟨y, rfl, fun W k => HY3.out W ((HK.out.more HI.out.1).trans k), by rw [HG.out]; exact HBF.out⟩
      · rw [if_neg h2]
        have k3 : ((b.length : Int) != 256) = true := by simp; omega
        clear h2
        go_enter Tryz.func14, Tryz.ntmps14
        go_wp2_with fail
        clear c0 c1 c2 c3 c4 hw0
        refine HM.out.mono ?_
        rintro e w1 ⟨rfl, b1⟩
        replace HX := Lib.hid (HX.out.below b1 HX.out.lt)
        replace HY := Lib.hid (HY.out.below b1 HY.out.lt)
        replace HQ := Lib.hid (HQ.out.below b1 HQ.out.lt)
        replace HS := Lib.hid (HS.out.bel b1)
        replace HBB := Lib.hid (HBB.out.bel b1)
        replace HB := Lib.hid (HB.out.trans (b1.mono HW.out))
        replace HW := Lib.hid (Nat.le_trans HW.out b1.size)
        clear b1 HM
        obtain ⟨ya, ka, ba⟩ := box_five (L := g) HY.out (by decide) HI.out.2.1 HB.out HI.out.2.1 (.slice none 0 0) (.slice none 0 0) (.slice none 0 0) (.int .u32 0) (.int .u32 0)
        have qa := far5_blk HQ.out HI.out.2.2.2.2.2.1 (.slice none 0 0) (.slice none 0 0) (.slice none 0 0) (.int .u32 0) (.int .u32 0)
        have m0 := stZ0 HY.out
        have m1 := stZ1 HY.out
        have m2 := stZ2 HY.out
        have m3 := stZ3 HY.out
        have m4 := stZ4 HY.out
        have hfy := fun i => HY.out.frozen i
        obtain ⟨wa, hwa⟩ : ∃ wa, set5 w1 g1 (.slice none 0 0) (.slice none 0 0) (.slice none 0 0) (.int .u32 0) (.int .u32 0) = wa := ⟨_, rfl⟩
        rw [hwa] at ya ka ba qa
        obtain ⟨qb, kb, bb⟩ := box_five (L := g) qa (by decide) HI.out.2.2.1 ba HI.out.2.2.1 (.int .i64 0) (.int .u32 0) (.int .u32 0) (.int .u32 0) (.int .u32 0)
        have yb := far5_blk ya HI.out.2.2.2.2.2.2 (.int .i64 0) (.int .u32 0) (.int .u32 0) (.int .u32 0) (.int .u32 0)
        have n0 := ptZ0 qa
        have n1 := ptZ1 qa
        have n2 := ptZ2 qa
        have n3 := ptZ3 qa
        have n4 := ptZ4 qa
        have hfq := fun i => qa.frozen i
        obtain ⟨wb, hwb⟩ : ∃ wb, set5 wa g2 (.int .i64 0) (.int .u32 0) (.int .u32 0) (.int .u32 0) (.int .u32 0) = wb := ⟨_, rfl⟩
        rw [hwb] at qb kb bb yb
        have HK := Lib.hid (ka.trans kb)
        have HKA := Lib.hid ka
        have HKB := Lib.hid kb
        have HBF := Lib.hid bb
        have HYF := Lib.hid yb
        have HQF := Lib.hid qb
        simp only [set5] at hwa hwb
        clear ya ka ba qa qb kb bb yb
        go_wp2_with fail
        clear m0 m1 m2 m3 m4 n0 n1 n2 n3 n4 hfy hfq hwa hwb
        have e0 := bx0 HYF.out
        have e1 := bx1 HYF.out
        have e2 := bx2 HYF.out
        have e3 := bx3 HYF.out
        have e4 := bx4 HYF.out
        have f0 := bx0 HQF.out
        have f1 := bx1 HQF.out
        have f2 := bx2 HQF.out
        have f3 := bx3 HQF.out
        have f4 := bx4 HQF.out
        refine bodyPost_ret (v := .tuple #[.agg #[(.slice none 0 0), (.slice none 0 0), (.slice none 0 0), (.int .u32 0), (.int .u32 0)], .agg #[(.int .i64 0), (.int .u32 0), (.int .u32 0), (.int .u32 0), (.int .u32 0)], .int .i64 3]) (by simp [results, Tryz.f14, go_sem, e0, e1, e2, e3, e4, f0, f1, f2, f3, f4]) rfl ?_
        exact outSP_no L 3 (by rw [HG.out]; exact HBF.out)
    · rw [if_neg h1]
      by_cases h3 : birth < 1
      · have k1 : (birth : Int) < 1 := by omega
        clear h1 h3
        go_enter Tryz.func14, Tryz.ntmps14
        go_wp2_with fail
        clear c0 c1 c2 c3 c4 hw0
        refine HM.out.mono ?_
        rintro e w1 ⟨rfl, b1⟩
        replace HX := Lib.hid (HX.out.below b1 HX.out.lt)
        replace HY := Lib.hid (HY.out.below b1 HY.out.lt)
        replace HQ := Lib.hid (HQ.out.below b1 HQ.out.lt)
        replace HS := Lib.hid (HS.out.bel b1)
        replace HBB := Lib.hid (HBB.out.bel b1)
        replace HB := Lib.hid (HB.out.trans (b1.mono HW.out))
        replace HW := Lib.hid (Nat.le_trans HW.out b1.size)
        clear b1 HM
        obtain ⟨ya, ka, ba⟩ := box_five (L := g) HY.out (by decide) HI.out.2.1 HB.out HI.out.2.1 (.slice none 0 0) (.slice none 0 0) (.slice none 0 0) (.int .u32 0) (.int .u32 0)
        have qa := far5_blk HQ.out HI.out.2.2.2.2.2.1 (.slice none 0 0) (.slice none 0 0) (.slice none 0 0) (.int .u32 0) (.int .u32 0)
        have m0 := stZ0 HY.out
        have m1 := stZ1 HY.out
        have m2 := stZ2 HY.out
        have m3 := stZ3 HY.out
        have m4 := stZ4 HY.out
        have hfy := fun i => HY.out.frozen i
        obtain ⟨wa, hwa⟩ : ∃ wa, set5 w1 g1 (.slice none 0 0) (.slice none 0 0) (.slice none 0 0) (.int .u32 0) (.int .u32 0) = wa := ⟨_, rfl⟩
        rw [hwa] at ya ka ba qa
        obtain ⟨qb, kb, bb⟩ := box_five (L := g) qa (by decide) HI.out.2.2.1 ba HI.out.2.2.1 (.int .i64 0) (.int .u32 0) (.int .u32 0) (.int .u32 0) (.int .u32 0)
        have yb := far5_blk ya HI.out.2.2.2.2.2.2 (.int .i64 0) (.int .u32 0) (.int .u32 0) (.int .u32 0) (.int .u32 0)
        have n0 := ptZ0 qa
        have n1 := ptZ1 qa
        have n2 := ptZ2 qa
        have n3 := ptZ3 qa
        have n4 := ptZ4 qa
        have hfq := fun i => qa.frozen i
        obtain ⟨wb, hwb⟩ : ∃ wb, set5 wa g2 (.int .i64 0) (.int .u32 0) (.int .u32 0) (.int .u32 0) (.int .u32 0) = wb := ⟨_, rfl⟩
        rw [hwb] at qb kb bb yb
        have HK := Lib.hid (ka.trans kb)
        have HKA := Lib.hid ka
        have HKB := Lib.hid kb
        have HBF := Lib.hid bb
        have HYF := Lib.hid yb
        have HQF := Lib.hid qb
        simp only [set5] at hwa hwb
        clear ya ka ba qa qb kb bb yb
        go_wp2_with fail
        clear m0 m1 m2 m3 m4 n0 n1 n2 n3 n4 hfy hfq hwa hwb
        have e0 := bx0 HYF.out
        have e1 := bx1 HYF.out
        have e2 := bx2 HYF.out
        have e3 := bx3 HYF.out
        have e4 := bx4 HYF.out
        have f0 := bx0 HQF.out
        have f1 := bx1 HQF.out
        have f2 := bx2 HQF.out
        have f3 := bx3 HQF.out
        have f4 := bx4 HQF.out
        refine bodyPost_ret (v := .tuple #[.agg #[(.slice none 0 0), (.slice none 0 0), (.slice none 0 0), (.int .u32 0), (.int .u32 0)], .agg #[(.int .i64 0), (.int .u32 0), (.int .u32 0), (.int .u32 0), (.int .u32 0)], .int .i64 2]) (by simp [results, Tryz.f14, go_sem, e0, e1, e2, e3, e4, f0, f1, f2, f3, f4]) rfl ?_
        exact outSP_no L 2 (by rw [HG.out]; exact HBF.out)
      · have k1 : ¬ (birth : Int) < 1 := by omega
        have k2 : (16777215 : Int) < birth := by omega
        have k4 : (1 : Int) ≤ birth := by omega
        clear h1 h3
        go_enter Tryz.func14, Tryz.ntmps14
        go_wp2_with fail
        clear c0 c1 c2 c3 c4 hw0
        refine HM.out.mono ?_
        rintro e w1 ⟨rfl, b1⟩
        replace HX := Lib.hid (HX.out.below b1 HX.out.lt)
        replace HY := Lib.hid (HY.out.below b1 HY.out.lt)
        replace HQ := Lib.hid (HQ.out.below b1 HQ.out.lt)
        replace HS := Lib.hid (HS.out.bel b1)
        replace HBB := Lib.hid (HBB.out.bel b1)
        replace HB := Lib.hid (HB.out.trans (b1.mono HW.out))
        replace HW := Lib.hid (Nat.le_trans HW.out b1.size)
        clear b1 HM
        obtain ⟨ya, ka, ba⟩ := box_five (L := g) HY.out (by decide) HI.out.2.1 HB.out HI.out.2.1 (.slice none 0 0) (.slice none 0 0) (.slice none 0 0) (.int .u32 0) (.int .u32 0)
        have qa := far5_blk HQ.out HI.out.2.2.2.2.2.1 (.slice none 0 0) (.slice none 0 0) (.slice none 0 0) (.int .u32 0) (.int .u32 0)
        have m0 := stZ0 HY.out
        have m1 := stZ1 HY.out
        have m2 := stZ2 HY.out
        have m3 := stZ3 HY.out
        have m4 := stZ4 HY.out
        have hfy := fun i => HY.out.frozen i
        obtain ⟨wa, hwa⟩ : ∃ wa, set5 w1 g1 (.slice none 0 0) (.slice none 0 0) (.slice none 0 0) (.int .u32 0) (.int .u32 0) = wa := ⟨_, rfl⟩
        rw [hwa] at ya ka ba qa
        obtain ⟨qb, kb, bb⟩ := box_five (L := g) qa (by decide) HI.out.2.2.1 ba HI.out.2.2.1 (.int .i64 0) (.int .u32 0) (.int .u32 0) (.int .u32 0) (.int .u32 0)
        have yb := far5_blk ya HI.out.2.2.2.2.2.2 (.int .i64 0) (.int .u32 0) (.int .u32 0) (.int .u32 0) (.int .u32 0)
        have n0 := ptZ0 qa
        have n1 := ptZ1 qa
        have n2 := ptZ2 qa
        have n3 := ptZ3 qa
        have n4 := ptZ4 qa
        have hfq := fun i => qa.frozen i
        obtain ⟨wb, hwb⟩ : ∃ wb, set5 wa g2 (.int .i64 0) (.int .u32 0) (.int .u32 0) (.int .u32 0) (.int .u32 0) = wb := ⟨_, rfl⟩
        rw [hwb] at qb kb bb yb
        have HK := Lib.hid (ka.trans kb)
        have HKA := Lib.hid ka
        have HKB := Lib.hid kb
        have HBF := Lib.hid bb
        have HYF := Lib.hid yb
        have HQF := Lib.hid qb
        simp only [set5] at hwa hwb
        clear ya ka ba qa qb kb bb yb
        go_wp2_with fail
        clear m0 m1 m2 m3 m4 n0 n1 n2 n3 n4 hfy hfq hwa hwb
        have e0 := bx0 HYF.out
        have e1 := bx1 HYF.out
        have e2 := bx2 HYF.out
        have e3 := bx3 HYF.out
        have e4 := bx4 HYF.out
        have f0 := bx0 HQF.out
        have f1 := bx1 HQF.out
        have f2 := bx2 HQF.out
        have f3 := bx3 HQF.out
        have f4 := bx4 HQF.out
        refine bodyPost_ret (v := .tuple #[.agg #[(.slice none 0 0), (.slice none 0 0), (.slice none 0 0), (.int .u32 0), (.int .u32 0)], .agg #[(.int .i64 0), (.int .u32 0), (.int .u32 0), (.int .u32 0), (.int .u32 0)], .int .i64 2]) (by simp [results, Tryz.f14, go_sem, e0, e1, e2, e3, e4, f0, f1, f2, f3, f4]) rfl ?_
        exact outSP_no L 2 (by rw [HG.out]; exact HBF.out)
  · rw [if_neg hm]
    have HM := Lib.hid (rtMay_any L x S w0 HS.out false ⟨fun h => (by cases h), fun h => absurd h hm⟩)
    clear hm
    go_enter Tryz.func14, Tryz.ntmps14
    go_wp2_with fail
    clear c0 c1 c2 c3 c4 hw0
    refine HM.out.mono ?_
    rintro e w1 ⟨rfl, b1⟩
    replace HX := Lib.hid (HX.out.below b1 HX.out.lt)
    replace HY := Lib.hid (HY.out.below b1 HY.out.lt)
    replace HQ := Lib.hid (HQ.out.below b1 HQ.out.lt)
    replace HS := Lib.hid (HS.out.bel b1)
    replace HBB := Lib.hid (HBB.out.bel b1)
    replace HB := Lib.hid (HB.out.trans (b1.mono HW.out))
    replace HW := Lib.hid (Nat.le_trans HW.out b1.size)
    clear b1 HM
    obtain ⟨ya, ka, ba⟩ := box_five (L := g) HY.out (by decide) HI.out.2.1 HB.out HI.out.2.1 (.slice none 0 0) (.slice none 0 0) (.slice none 0 0) (.int .u32 0) (.int .u32 0)
    have qa := far5_blk HQ.out HI.out.2.2.2.2.2.1 (.slice none 0 0) (.slice none 0 0) (.slice none 0 0) (.int .u32 0) (.int .u32 0)
    have m0 := stZ0 HY.out
    have m1 := stZ1 HY.out
    have m2 := stZ2 HY.out
    have m3 := stZ3 HY.out
    have m4 := stZ4 HY.out
    have hfy := fun i => HY.out.frozen i
    obtain ⟨wa, hwa⟩ : ∃ wa, set5 w1 g1 (.slice none 0 0) (.slice none 0 0) (.slice none 0 0) (.int .u32 0) (.int .u32 0) = wa := ⟨_, rfl⟩
    rw [hwa] at ya ka ba qa
    obtain ⟨qb, kb, bb⟩ := box_five (L := g) qa (by decide) HI.out.2.2.1 ba HI.out.2.2.1 (.int .i64 0) (.int .u32 0) (.int .u32 0) (.int .u32 0) (.int .u32 0)
    have yb := far5_blk ya HI.out.2.2.2.2.2.2 (.int .i64 0) (.int .u32 0) (.int .u32 0) (.int .u32 0) (.int .u32 0)
    have n0 := ptZ0 qa
    have n1 := ptZ1 qa
    have n2 := ptZ2 qa
    have n3 := ptZ3 qa
    have n4 := ptZ4 qa
    have hfq := fun i => qa.frozen i
    obtain ⟨wb, hwb⟩ : ∃ wb, set5 wa g2 (.int .i64 0) (.int .u32 0) (.int .u32 0) (.int .u32 0) (.int .u32 0) = wb := ⟨_, rfl⟩
    rw [hwb] at qb kb bb yb
    have HK := Lib.hid (ka.trans kb)
    have HKA := Lib.hid ka
    have HKB := Lib.hid kb
    have HBF := Lib.hid bb
    have HYF := Lib.hid yb
    have HQF := Lib.hid qb
    simp only [set5] at hwa hwb
    clear ya ka ba qa qb kb bb yb
    go_wp2_with fail
    clear m0 m1 m2 m3 m4 n0 n1 n2 n3 n4 hfy hfq hwa hwb
    have e0 := bx0 HYF.out
    have e1 := bx1 HYF.out
    have e2 := bx2 HYF.out
    have e3 := bx3 HYF.out
    have e4 := bx4 HYF.out
    have f0 := bx0 HQF.out
    have f1 := bx1 HQF.out
    have f2 := bx2 HQF.out
    have f3 := bx3 HQF.out
    have f4 := bx4 HQF.out
    refine bodyPost_ret (v := .tuple #[.agg #[(.slice none 0 0), (.slice none 0 0), (.slice none 0 0), (.int .u32 0), (.int .u32 0)], .agg #[(.int .i64 0), (.int .u32 0), (.int .u32 0), (.int .u32 0), (.int .u32 0)], .int .i64 8]) (by simp [results, Tryz.f14, go_sem, e0, e1, e2, e3, e4, f0, f1, f2, f3, f4]) rfl ?_
    exact outSP_no L 8 (by rw [HG.out]; exact HBF.out)
end Go.Proofs.YtdpmdlibgabjaaaGreat
/-
  The document's own Lay, Sealed and Seal of layer 13.
-/
namespace Go.Proofs.YtdpmdlibgabjaaaGreat
open Go.RowKit Go.Shelf
set_option maxRecDepth 100000

set_option maxHeartbeats 4000000 in
theorem rtLay_any (L : Nat) (x : SAt) (S : StL) (birth : Nat) (a : Option Addr) (c : Nat) (b : List UInt8) (w : World) (h : StP L w x S) (hb : Bsl w w.heap.size a b.length c b) (hL : L ≤ w.heap.size) (hbi : birth < 4294967296) :
    Calls Tryz.prog 10 #[stV x S, .int .u32 birth, .slice a b.length c] w (OutSP L (rawO S birth 0 0 b) w) := by
  obtain ⟨w0, hw0, b0, z0, x0, y0, q0⟩ := three_al w (stC x S) stZ ptZ 29 29 33
  obtain ⟨g, hg⟩ : ∃ g, w.heap.size = g := ⟨_, rfl⟩
  obtain ⟨g1, hg1⟩ : ∃ g1, g + 1 = g1 := ⟨_, rfl⟩
  obtain ⟨g2, hg2⟩ : ∃ g2, g1 + 1 = g2 := ⟨_, rfl⟩
  have h0 := h.bel b0
  have hb0 := hb.step b0
  rw [hg] at x0 y0 q0 z0 b0
  rw [hg1] at y0
  rw [show g + 2 = g1 + 1 by omega, hg2] at q0
  have HI := Lib.hid (show L ≤ g ∧ g ≤ g1 ∧ g ≤ g2 ∧ g1 ≠ g ∧ g2 ≠ g ∧ g2 ≠ g1 ∧ g1 ≠ g2 by omega)
  have c0 := stC0 x0
  have c1 := stC1 x0
  have c2 := stC2 x0
  have c3 := stC3 x0
  have c4 := stC4 x0
  have HX := Lib.hid x0
  have HY := Lib.hid y0
  have HQ := Lib.hid q0
  have HB := Lib.hid b0
  have HS := Lib.hid h0
  have HG := Lib.hid hg
  have HW := Lib.hid (show g ≤ w0.heap.size by omega)
  simp only [stC, stZ, ptZ] at hw0
  clear h h0 x0 y0 q0 b0 z0
  obtain ⟨O, hO⟩ : ∃ O, rawO S birth 0 0 b = O := ⟨_, rfl⟩
  have hr := rtRaw_any L x S birth 0 0 a c b w0 HS.out hb0 (Nat.le_trans HI.out.1 HW.out) hbi
  rw [hO] at hr
  have HO := Lib.hid hO
  obtain ⟨S', p, k⟩ := O
  have HR : Hid (Calls Tryz.prog 14 #[stV x S, .int .u32 birth, .int .u32 0, .int .u32 0, .slice a b.length c] w0 (OutSP L (S', p, k) w0)) := Lib.hid hr
  clear hb hb0 hO hr
  go_enter Tryz.func10, Tryz.ntmps10
  go_wp2_with fail
  clear c0 c1 c2 c3 c4 hw0
  refine HR.out.mono ?_
  rintro e w1 ⟨y, rfl, hy, b1⟩
  have HYY := Lib.hid hy
  replace HY := Lib.hid (HY.out.below b1 HY.out.lt)
  replace HQ := Lib.hid (HQ.out.below b1 HQ.out.lt)
  replace HB := Lib.hid (HB.out.trans (b1.mono HW.out))
  replace HW := Lib.hid (Nat.le_trans HW.out b1.size)
  clear b1 HR hy HX HS
  obtain ⟨ya, ka, ba⟩ := box_five (L := g) HY.out (by decide) HI.out.2.1 HB.out HI.out.2.1 (.slice y.d.ba S'.1.1.length y.d.bc) (.slice y.d.wa S'.1.2.length y.d.wc) (.slice y.a S'.2.1.length y.c) (.int .u32 (S'.2.2.1 : Int)) (.int .u32 (S'.2.2.2 : Int))
  have qa := far5_blk HQ.out HI.out.2.2.2.2.2.1 (.slice y.d.ba S'.1.1.length y.d.bc) (.slice y.d.wa S'.1.2.length y.d.wc) (.slice y.a S'.2.1.length y.c) (.int .u32 (S'.2.2.1 : Int)) (.int .u32 (S'.2.2.2 : Int))
  have m0 := stZ0 HY.out
  have m1 := stZ1 HY.out
  have m2 := stZ2 HY.out
  have m3 := stZ3 HY.out
  have m4 := stZ4 HY.out
  have hfy := fun i => HY.out.frozen i
  obtain ⟨wa, hwa⟩ : ∃ wa, set5 w1 g1 (.slice y.d.ba S'.1.1.length y.d.bc) (.slice y.d.wa S'.1.2.length y.d.wc) (.slice y.a S'.2.1.length y.c) (.int .u32 (S'.2.2.1 : Int)) (.int .u32 (S'.2.2.2 : Int)) = wa := ⟨_, rfl⟩
  rw [hwa] at ya ka ba qa
  obtain ⟨qb, kb, bb⟩ := box_five (L := g) qa (by decide) HI.out.2.2.1 ba HI.out.2.2.1 (.int .i64 p.1) (.int .u32 (p.2.1 : Int)) (.int .u32 (p.2.2.1 : Int)) (.int .u32 (p.2.2.2.1 : Int)) (.int .u32 (p.2.2.2.2 : Int))
  have yb := far5_blk ya HI.out.2.2.2.2.2.2 (.int .i64 p.1) (.int .u32 (p.2.1 : Int)) (.int .u32 (p.2.2.1 : Int)) (.int .u32 (p.2.2.2.1 : Int)) (.int .u32 (p.2.2.2.2 : Int))
  have n0 := ptZ0 qa
  have n1 := ptZ1 qa
  have n2 := ptZ2 qa
  have n3 := ptZ3 qa
  have n4 := ptZ4 qa
  have hfq := fun i => qa.frozen i
  obtain ⟨wb, hwb⟩ : ∃ wb, set5 wa g2 (.int .i64 p.1) (.int .u32 (p.2.1 : Int)) (.int .u32 (p.2.2.1 : Int)) (.int .u32 (p.2.2.2.1 : Int)) (.int .u32 (p.2.2.2.2 : Int)) = wb := ⟨_, rfl⟩
  rw [hwb] at qb kb bb yb
  have HK := Lib.hid (ka.trans kb)
  have HKA := Lib.hid ka
  have HKB := Lib.hid kb
  have HBF := Lib.hid bb
  have HYF := Lib.hid yb
  have HQF := Lib.hid qb
  simp only [set5] at hwa hwb
  clear ya ka ba qa qb kb bb yb
  go_wp2_with fail
  clear m0 m1 m2 m3 m4 n0 n1 n2 n3 n4 hfy hfq hwa hwb
  have e0 := bx0 HYF.out
  have e1 := bx1 HYF.out
  have e2 := bx2 HYF.out
  have e3 := bx3 HYF.out
  have e4 := bx4 HYF.out
  have f0 := bx0 HQF.out
  have f1 := bx1 HQF.out
  have f2 := bx2 HQF.out
  have f3 := bx3 HQF.out
  have f4 := bx4 HQF.out
  refine bodyPost_ret (v := .tuple #[.agg #[(.slice y.d.ba S'.1.1.length y.d.bc), (.slice y.d.wa S'.1.2.length y.d.wc), (.slice y.a S'.2.1.length y.c), (.int .u32 (S'.2.2.1 : Int)), (.int .u32 (S'.2.2.2 : Int))], .agg #[(.int .i64 p.1), (.int .u32 (p.2.1 : Int)), (.int .u32 (p.2.2.1 : Int)), (.int .u32 (p.2.2.2.1 : Int)), (.int .u32 (p.2.2.2.2 : Int))], .int .i64 (k : Int)]) (by simp [results, Tryz.f10, go_sem, e0, e1, e2, e3, e4, f0, f1, f2, f3, f4]) rfl ?_
  rw [HO.out]
  exact ⟨y, rfl, fun W kk => HYY.out W ((HK.out.more HI.out.1).trans kk), by rw [HG.out]; exact HBF.out⟩
set_option maxHeartbeats 8000000 in
theorem rtSealed_any (L : Nat) (x : SAt) (S : StL) (birth : Nat) (ka : Option Addr) (kc : Nat) (key : List UInt8) (a : Option Addr) (c : Nat) (b : List UInt8) (w : World) (h : StP L w x S) (hm : MayS S) (hk : Bsl w w.heap.size ka key.length kc key) (hb : Bsl w w.heap.size a b.length c b) (hkl : key.length = 16) (hbl : b.length = 256) (hL : L ≤ w.heap.size) :
    Calls Tryz.prog 39 #[stV x S, .int .u32 birth, .slice ka key.length kc, .slice a b.length c] w (OutSP L (sealedO S birth key b) w) := by
  have hmx : Tryz.prog.follows Departure.mixedOrders = true := by kernel_rfl
  rw [hkl, hbl]
  rw [hkl] at hk
  rw [hbl] at hb
  obtain ⟨w0, hw0, b0, z0, x0, y0, q0⟩ := three_al w (stC x S) stZ ptZ 29 29 33
  obtain ⟨g, hg⟩ : ∃ g, w.heap.size = g := ⟨_, rfl⟩
  obtain ⟨g1, hg1⟩ : ∃ g1, g + 1 = g1 := ⟨_, rfl⟩
  obtain ⟨g2, hg2⟩ : ∃ g2, g1 + 1 = g2 := ⟨_, rfl⟩
  have h0 := h.bel b0
  have hk0 := (bsl_lasts hk (Nat.le_refl _)).bel b0
  have hb0 := (bsl_lasts hb (Nat.le_refl _)).bel b0
  rw [hg] at hk0 hb0
  rw [hg] at x0 y0 q0 z0 b0
  rw [hg1] at y0
  rw [show g + 2 = g1 + 1 by omega, hg2] at q0
  have HI := Lib.hid (show L ≤ g ∧ g ≤ g1 ∧ g ≤ g2 ∧ g1 ≠ g ∧ g2 ≠ g ∧ g2 ≠ g1 ∧ g1 ≠ g2 by omega)
  have c0 := stC0 x0
  have c1 := stC1 x0
  have c2 := stC2 x0
  have c3 := stC3 x0
  have c4 := stC4 x0
  have HX := Lib.hid x0
  have HY := Lib.hid y0
  have HQ := Lib.hid q0
  have HB := Lib.hid b0
  have HS := Lib.hid h0
  have HG := Lib.hid hg
  have HW := Lib.hid (show g ≤ w0.heap.size by omega)
  simp only [stC, stZ, ptZ] at hw0
  clear h h0 x0 y0 q0 b0 z0
  have HKY := Lib.hid hk0
  have HBY := Lib.hid hb0
  have HMS := Lib.hid hm
  have HBL := Lib.hid hbl
  have e1 := hm.2.2.1
  have q1 := hm.2.2.2
  have i0 : (0 : Int) ≤ S.2.2.2 := by omega
  have i1 : (0 : Int) ≤ S.2.2.1 := by omega
  have i2 : (S.2.2.1 : Int) ≤ 65535 := by omega
  unfold sealedO
  clear hk hb hk0 hb0 hm hbl
  by_cases h1 : 65535 ≤ S.2.2.2
  · rw [if_pos h1]
    have j1 : (65535 : Int) ≤ S.2.2.2 := by omega
    clear h1
    clear c0 c1 c2 c3
    obtain ⟨ya, ka, ba⟩ := box_five (L := g) HY.out (by decide) HI.out.2.1 HB.out HI.out.2.1 (.slice none 0 0) (.slice none 0 0) (.slice none 0 0) (.int .u32 0) (.int .u32 0)
    have qa := far5_blk HQ.out HI.out.2.2.2.2.2.1 (.slice none 0 0) (.slice none 0 0) (.slice none 0 0) (.int .u32 0) (.int .u32 0)
    have m0 := stZ0 HY.out
    have m1 := stZ1 HY.out
    have m2 := stZ2 HY.out
    have m3 := stZ3 HY.out
    have m4 := stZ4 HY.out
    have hfy := fun i => HY.out.frozen i
    obtain ⟨wa, hwa⟩ : ∃ wa, set5 w0 g1 (.slice none 0 0) (.slice none 0 0) (.slice none 0 0) (.int .u32 0) (.int .u32 0) = wa := ⟨_, rfl⟩
    rw [hwa] at ya ka ba qa
    obtain ⟨qb, kb, bb⟩ := box_five (L := g) qa (by decide) HI.out.2.2.1 ba HI.out.2.2.1 (.int .i64 0) (.int .u32 0) (.int .u32 0) (.int .u32 0) (.int .u32 0)
    have yb := far5_blk ya HI.out.2.2.2.2.2.2 (.int .i64 0) (.int .u32 0) (.int .u32 0) (.int .u32 0) (.int .u32 0)
    have n0 := ptZ0 qa
    have n1 := ptZ1 qa
    have n2 := ptZ2 qa
    have n3 := ptZ3 qa
    have n4 := ptZ4 qa
    have hfq := fun i => qa.frozen i
    obtain ⟨wb, hwb⟩ : ∃ wb, set5 wa g2 (.int .i64 0) (.int .u32 0) (.int .u32 0) (.int .u32 0) (.int .u32 0) = wb := ⟨_, rfl⟩
    rw [hwb] at qb kb bb yb
    have HK := Lib.hid (ka.trans kb)
    have HKA := Lib.hid ka
    have HKB := Lib.hid kb
    have HBF := Lib.hid bb
    have HYF := Lib.hid yb
    have HQF := Lib.hid qb
    simp only [set5] at hwa hwb
    clear ya ka ba qa qb kb bb yb
    go_enter Tryz.func39, Tryz.ntmps39
    go_wp2_with fail
    clear c4 hw0
    clear m0 m1 m2 m3 m4 n0 n1 n2 n3 n4 hfy hfq hwa hwb
    have e0 := bx0 HYF.out
    have e1 := bx1 HYF.out
    have e2 := bx2 HYF.out
    have e3 := bx3 HYF.out
    have e4 := bx4 HYF.out
    have f0 := bx0 HQF.out
    have f1 := bx1 HQF.out
    have f2 := bx2 HQF.out
    have f3 := bx3 HQF.out
    have f4 := bx4 HQF.out
    refine bodyPost_ret (v := .tuple #[.agg #[(.slice none 0 0), (.slice none 0 0), (.slice none 0 0), (.int .u32 0), (.int .u32 0)], .agg #[(.int .i64 0), (.int .u32 0), (.int .u32 0), (.int .u32 0), (.int .u32 0)], .int .i64 132]) (by simp [results, Tryz.f39, go_sem, e0, e1, e2, e3, e4, f0, f1, f2, f3, f4]) rfl ?_
    exact outSP_no L 132 (by rw [HG.out]; exact HBF.out)
  · rw [if_neg h1]
    have j1 : ¬ (65535 : Int) ≤ S.2.2.2 := by omega
    have j2 : (S.2.2.2 : Int) < 65535 := by omega
    obtain ⟨q', hq'⟩ : ∃ q', S.2.2.2 + 1 = q' := ⟨_, rfl⟩
    obtain ⟨iv, hiv⟩ : ∃ iv, S.2.2.1 * 65536 + q' = iv := ⟨_, rfl⟩
    have w1' : IntKind.u32.wrap ((S.2.2.2 : Int) + 1) = (q' : Int) := by simp [IntKind.wrap, IntKind.bits, IntKind.signed]; omega
    have w2' : IntKind.u32.wrap ((S.2.2.1 : Int) * 65536) = (S.2.2.1 : Int) * 65536 := by simp [IntKind.wrap, IntKind.bits, IntKind.signed]; omega
    have w3' : IntKind.u32.wrap ((S.2.2.1 : Int) * 65536 + (q' : Int)) = (iv : Int) := by simp [IntKind.wrap, IntKind.bits, IntKind.signed]; omega
    have hivl : iv < 4294967296 := by omega
    rw [hq', hiv]
    obtain ⟨TB, hTB⟩ : ∃ TB, turnW' key iv b = TB := ⟨_, rfl⟩
    have hTBl : TB.length = 256 := by rw [← hTB, turnW'_length]; exact HBL.out
    rw [hTB]
    obtain ⟨tg, htg⟩ : ∃ tg, sealW key iv TB = tg := ⟨_, rfl⟩
    rw [htg]
    obtain ⟨S1, hS1⟩ : ∃ S1 : StL, (S.1, S.2.1, S.2.2.1, q') = S1 := ⟨_, rfl⟩
    rw [hS1]
    obtain ⟨x1, k1, b1⟩ := box_at (L := g) HX.out (by decide) (Nat.le_refl _) HB.out (Nat.le_refl _) 4 (.int .u32 (q' : Int))
    have hfx := fun i => HX.out.frozen i
    have HY1 := Lib.hid (HY.out.far (p := ⟨g, 4, none⟩) HI.out.2.2.2.1 (.int .u32 (q' : Int)))
    have HQ1 := Lib.hid (HQ.out.far (p := ⟨g, 4, none⟩) HI.out.2.2.2.2.1 (.int .u32 (q' : Int)))
    obtain ⟨w1, hw1⟩ : ∃ w1, w0.setCell ⟨g, 4, none⟩ (.int .u32 (q' : Int)) = w1 := ⟨_, rfl⟩
    rw [hw1] at x1 k1 b1 HY1 HQ1
    have y1 : Blk w1 g 29 #[.slice x.d.ba S.1.1.length x.d.bc, .slice x.d.wa S.1.2.length x.d.wc, .slice x.a S.2.1.length x.c, .int .u32 (S.2.2.1 : Int), .int .u32 (q' : Int)] := x1
    have f3 := bx3 y1
    have f4 := bx4 y1
    have HX1 := Lib.hid y1
    have HS1 := Lib.hid (HS.out.step (k1.more HI.out.1))
    have hws : w1.heap.size = w0.heap.size := by rw [← hw1]; simp [World.setCell]
    have HW1 := Lib.hid (show g ≤ w1.heap.size by rw [hws]; exact HW.out)
    have HK1 := Lib.hid (HKY.out.step k1)
    have HB1 := Lib.hid (HBY.out.step k1)
    have HBL1 := Lib.hid b1
    have hsl := rSeal_ok ka kc key iv hivl a 256 c b (by omega) w1 HK1.out.now HB1.out.now
    rw [hTB, htg] at hsl
    have HSL := Lib.hid hsl
    clear hsl x1 y1 k1 b1 hws h1 HX HY HQ HS HB HW HKY HBY e1 q1
    go_enter Tryz.func39, Tryz.ntmps39
    go_wp2_with fail
    clear c0 c1 c2 c3 c4 f3 f4 hfx hw0 hw1 w1' w2' w3' j1 j2
    refine HSL.out.mono ?_
    rintro ev w2 ⟨a5, c5, rfl, hb5, b2⟩
    have HB5 := Lib.hid hb5
    have HX2 := Lib.hid (HX1.out.below b2 HX1.out.lt)
    have HY := Lib.hid (HY1.out.below b2 HY1.out.lt)
    have HQ := Lib.hid (HQ1.out.below b2 HQ1.out.lt)
    have HS2 := Lib.hid (HS1.out.bel b2)
    have HB := Lib.hid (HBL1.out.trans (b2.mono HW1.out))
    have HW := Lib.hid (Nat.le_trans HW1.out b2.size)
    clear hb5 b2 HSL HX1 HY1 HQ1 HS1 HBL1 HW1 HK1 HB1
    have c0 := bx0 HX2.out
    have c1 := bx1 HX2.out
    have c2 := bx2 HX2.out
    have c3 := bx3 HX2.out
    have c4 := bx4 HX2.out
    have hst : StP L w2 x S1 := by rw [← hS1]; exact HS2.out
    have hput := rtPut_any L x S1 birth iv tg.toNat a5 c5 TB w2 hst (by rw [hTBl]; exact HB5.out) (Nat.le_trans HI.out.1 HW.out) (by rw [← hS1]; exact HMS.out.2.1) (may_fits (by rw [← hS1]; exact HMS.out.1)) (by omega)
    rw [hTBl] at hput
    have hput2 : Calls Tryz.prog 40 #[.agg #[.slice x.d.ba S.1.1.length x.d.bc, .slice x.d.wa S.1.2.length x.d.wc, .slice x.a S.2.1.length x.c, .int .u32 (S.2.2.1 : Int), .int .u32 (q' : Int)], .int .u32 birth, .int .u32 iv, .int .u32 (tg.toNat : Int), .slice a5 256 c5] w2 (OutPut L (putS S1 birth iv tg.toNat TB) w2) := by
      rw [← hS1] at hput ⊢
      exact hput
    have HP := Lib.hid hput2
    clear hput hput2 hst hS1 HX2 HS2 HB5
    go_wp2_with fail
    clear c0 c1 c2 c3 c4
    refine HP.out.mono ?_
    rintro ev w5 ⟨ho1, ho2, b5⟩
    replace HY := Lib.hid (HY.out.below b5 HY.out.lt)
    replace HQ := Lib.hid (HQ.out.below b5 HQ.out.lt)
    replace HB := Lib.hid (HB.out.trans (b5.mono HW.out))
    replace HW := Lib.hid (Nat.le_trans HW.out b5.size)
    clear b5 HP
    cases hp : putS S1 birth iv tg.toNat TB with
    | none =>
      obtain rfl := ho1 hp
      have HPP := Lib.hid hp
      clear ho1 ho2 hp
      obtain ⟨w3, rfl, b3, z3, x3, q3⟩ := two_al w5 #[.slice none 0 0, .slice none 0 0, .slice none 0 0, .int .u32 0, .int .u32 0] #[.int .i64 0, .int .u32 0, .int .u32 0, .int .u32 0, .int .u32 0] 29 33
      replace HY := Lib.hid (HY.out.below b3 HY.out.lt)
      replace HQ := Lib.hid (HQ.out.below b3 HQ.out.lt)
      replace HB := Lib.hid (HB.out.trans (b3.mono HW.out))
      replace HW := Lib.hid (Nat.le_trans HW.out b3.size)
      clear b3 z3 x3 q3
      obtain ⟨ya, ka, ba⟩ := box_five (L := g) HY.out (by decide) HI.out.2.1 HB.out HI.out.2.1 (.slice none 0 0) (.slice none 0 0) (.slice none 0 0) (.int .u32 0) (.int .u32 0)
      have qa := far5_blk HQ.out HI.out.2.2.2.2.2.1 (.slice none 0 0) (.slice none 0 0) (.slice none 0 0) (.int .u32 0) (.int .u32 0)
      have m0 := stZ0 HY.out
      have m1 := stZ1 HY.out
      have m2 := stZ2 HY.out
      have m3 := stZ3 HY.out
      have m4 := stZ4 HY.out
      have hfy := fun i => HY.out.frozen i
      obtain ⟨wa, hwa⟩ : ∃ wa, set5 ((w5.alloc (.cells #[.slice none 0 0, .slice none 0 0, .slice none 0 0, .int .u32 0, .int .u32 0] 29)).alloc (.cells #[.int .i64 0, .int .u32 0, .int .u32 0, .int .u32 0, .int .u32 0] 33)) g1 (.slice none 0 0) (.slice none 0 0) (.slice none 0 0) (.int .u32 0) (.int .u32 0) = wa := ⟨_, rfl⟩
      rw [hwa] at ya ka ba qa
      obtain ⟨qb, kb, bb⟩ := box_five (L := g) qa (by decide) HI.out.2.2.1 ba HI.out.2.2.1 (.int .i64 0) (.int .u32 0) (.int .u32 0) (.int .u32 0) (.int .u32 0)
      have yb := far5_blk ya HI.out.2.2.2.2.2.2 (.int .i64 0) (.int .u32 0) (.int .u32 0) (.int .u32 0) (.int .u32 0)
      have n0 := ptZ0 qa
      have n1 := ptZ1 qa
      have n2 := ptZ2 qa
      have n3 := ptZ3 qa
      have n4 := ptZ4 qa
      have hfq := fun i => qa.frozen i
      obtain ⟨wb, hwb⟩ : ∃ wb, set5 wa g2 (.int .i64 0) (.int .u32 0) (.int .u32 0) (.int .u32 0) (.int .u32 0) = wb := ⟨_, rfl⟩
      rw [hwb] at qb kb bb yb
      have HK := Lib.hid (ka.trans kb)
      have HKA := Lib.hid ka
      have HKB := Lib.hid kb
      have HBF := Lib.hid bb
      have HYF := Lib.hid yb
      have HQF := Lib.hid qb
      simp only [set5] at hwa hwb
      clear ya ka ba qa qb kb bb yb
      go_wp2_with fail
      clear m0 m1 m2 m3 m4 n0 n1 n2 n3 n4 hfy hfq hwa hwb
      have e0 := bx0 HYF.out
      have e1 := bx1 HYF.out
      have e2 := bx2 HYF.out
      have e3 := bx3 HYF.out
      have e4 := bx4 HYF.out
      have f0 := bx0 HQF.out
      have f1 := bx1 HQF.out
      have f2 := bx2 HQF.out
      have f3 := bx3 HQF.out
      have f4 := bx4 HQF.out
      refine bodyPost_ret (v := .tuple #[.agg #[(.slice none 0 0), (.slice none 0 0), (.slice none 0 0), (.int .u32 0), (.int .u32 0)], .agg #[(.int .i64 0), (.int .u32 0), (.int .u32 0), (.int .u32 0), (.int .u32 0)], .int .i64 9]) (by simp [results, Tryz.f39, go_sem, e0, e1, e2, e3, e4, f0, f1, f2, f3, f4]) rfl ?_
      rw [HPP.out]
      exact outSP_no L 9 (by rw [HG.out]; exact HBF.out)
    | some sp =>
      obtain ⟨S', p⟩ := sp
      obtain ⟨y, rfl, hy⟩ := ho2 S' p hp
      have HPP := Lib.hid hp
      clear ho1 ho2 hp
      have H3 := Lib.hid (two_al w5 (stC y S') (ptC p).toArray 29 33)
      have HYY := Lib.hid hy
      clear hy
      go_wp2_with fail
      obtain ⟨w3, hw3, b3, z3, x3, q3⟩ := H3.out
      have hy := HYY.out
      clear H3 HYY
      have hq3 : (ptC p).toArray = #[.int .i64 p.1, .int .u32 (p.2.1 : Int), .int .u32 (p.2.2.1 : Int), .int .u32 (p.2.2.2.1 : Int), .int .u32 (p.2.2.2.2 : Int)] := rfl
      rw [hq3] at q3 hw3
      obtain ⟨g3, hg3⟩ : ∃ g3, w5.heap.size = g3 := ⟨_, rfl⟩
      obtain ⟨g4, hg4⟩ : ∃ g4, g3 + 1 = g4 := ⟨_, rfl⟩
      rw [hg3] at x3 q3
      rw [hg4] at q3
      have HX3 := Lib.hid x3
      have HQ3 := Lib.hid q3
      have HY3 := Lib.hid hy
      have HNE := Lib.hid (show g1 < g3 ∧ g2 < g3 ∧ g3 < g4 from ⟨by have := HY.out.lt; omega, by have := HQ.out.lt; omega, by omega⟩)
      replace HY := Lib.hid (HY.out.below b3 HY.out.lt)
      replace HQ := Lib.hid (HQ.out.below b3 HQ.out.lt)
      replace HY3 := Lib.hid (HY3.out.bel b3)
      replace HB := Lib.hid (HB.out.trans (b3.mono HW.out))
      replace HW := Lib.hid (Nat.le_trans HW.out b3.size)
      simp only [stC] at hw3
      clear b3 z3 x3 q3 hq3 hy
      rw [hw3, hg3, hg4]
      clear hw3 hg3 hg4
      obtain ⟨wd, hwd⟩ : ∃ wd, w3.drew = wd := ⟨_, rfl⟩
      have bb : Below w3.heap.size w3 wd := by rw [← hwd]; exact (Below.refl _ w3).drew
      replace HX3 := Lib.hid (HX3.out.below bb HX3.out.lt)
      replace HQ3 := Lib.hid (HQ3.out.below bb HQ3.out.lt)
      replace HY := Lib.hid (HY.out.below bb HY.out.lt)
      replace HQ := Lib.hid (HQ.out.below bb HQ.out.lt)
      replace HY3 := Lib.hid (HY3.out.bel bb)
      replace HB := Lib.hid (HB.out.trans (bb.mono HW.out))
      replace HW := Lib.hid (Nat.le_trans HW.out bb.size)
      clear bb
      have hx3 := HX3.out
      have hq3 := HQ3.out
      have hcs := And.intro (bx0 hx3) (And.intro (bx1 hx3) (And.intro (bx2 hx3) (And.intro (bx3 hx3) (And.intro (bx4 hx3) (And.intro (bx0 hq3) (And.intro (bx1 hq3) (And.intro (bx2 hq3) (And.intro (bx3 hq3) (bx4 hq3)))))))))
      refine wpI_start (fun X => X.cell? ⟨g3, 0, none⟩ = some (.slice y.d.ba S'.1.1.length y.d.bc) ∧ X.cell? ⟨g3, 1, none⟩ = some (.slice y.d.wa S'.1.2.length y.d.wc) ∧ X.cell? ⟨g3, 2, none⟩ = some (.slice y.a S'.2.1.length y.c) ∧ X.cell? ⟨g3, 3, none⟩ = some (.int .u32 (S'.2.2.1 : Int)) ∧ X.cell? ⟨g3, 4, none⟩ = some (.int .u32 (S'.2.2.2 : Int)) ∧ X.cell? ⟨g4, 0, none⟩ = some (.int .i64 p.1) ∧ X.cell? ⟨g4, 1, none⟩ = some (.int .u32 (p.2.1 : Int)) ∧ X.cell? ⟨g4, 2, none⟩ = some (.int .u32 (p.2.2.1 : Int)) ∧ X.cell? ⟨g4, 3, none⟩ = some (.int .u32 (p.2.2.2.1 : Int)) ∧ X.cell? ⟨g4, 4, none⟩ = some (.int .u32 (p.2.2.2.2 : Int))) [0, 1, 2, 3, 4] hmx rfl hwd ?_
      clear hwd hx3 hq3
      iterate 2 (
        refine wpI_read (v := ?_) hcs rfl (by kernel_rfl) (by kernel_rfl) (by kernel_rfl) (fun _ _ _ h => h) (.inl ⟨by rfl, ?_⟩) ?_
        rotate_left
        · intro X hX
          obtain ⟨j0, j1, j2, j3, j4, j5, j6, j7, j8, j9⟩ := hX
          go_simp
          with_reducible rfl
        try simp only [Act.put, List.setIfInBounds_toArray, List.set_cons_zero, List.set_cons_succ])
      obtain ⟨ya, ka, ba⟩ := box_five (L := g) HY.out (by decide) HI.out.2.1 HB.out HI.out.2.1 (.slice y.d.ba S'.1.1.length y.d.bc) (.slice y.d.wa S'.1.2.length y.d.wc) (.slice y.a S'.2.1.length y.c) (.int .u32 (S'.2.2.1 : Int)) (.int .u32 (S'.2.2.2 : Int))
      have qa := far5_blk HQ.out HI.out.2.2.2.2.2.1 (.slice y.d.ba S'.1.1.length y.d.bc) (.slice y.d.wa S'.1.2.length y.d.wc) (.slice y.a S'.2.1.length y.c) (.int .u32 (S'.2.2.1 : Int)) (.int .u32 (S'.2.2.2 : Int))
      have m0 := stZ0 HY.out
      have m1 := stZ1 HY.out
      have m2 := stZ2 HY.out
      have m3 := stZ3 HY.out
      have m4 := stZ4 HY.out
      have hfy := fun i => HY.out.frozen i
      obtain ⟨wa, hwa⟩ : ∃ wa, set5 wd g1 (.slice y.d.ba S'.1.1.length y.d.bc) (.slice y.d.wa S'.1.2.length y.d.wc) (.slice y.a S'.2.1.length y.c) (.int .u32 (S'.2.2.1 : Int)) (.int .u32 (S'.2.2.2 : Int)) = wa := ⟨_, rfl⟩
      rw [hwa] at ya ka ba qa
      obtain ⟨qb, kb, bb⟩ := box_five (L := g) qa (by decide) HI.out.2.2.1 ba HI.out.2.2.1 (.int .i64 p.1) (.int .u32 (p.2.1 : Int)) (.int .u32 (p.2.2.1 : Int)) (.int .u32 (p.2.2.2.1 : Int)) (.int .u32 (p.2.2.2.2 : Int))
      have yb := far5_blk ya HI.out.2.2.2.2.2.2 (.int .i64 p.1) (.int .u32 (p.2.1 : Int)) (.int .u32 (p.2.2.1 : Int)) (.int .u32 (p.2.2.2.1 : Int)) (.int .u32 (p.2.2.2.2 : Int))
      have n0 := ptZ0 qa
      have n1 := ptZ1 qa
      have n2 := ptZ2 qa
      have n3 := ptZ3 qa
      have n4 := ptZ4 qa
      have hfq := fun i => qa.frozen i
      obtain ⟨wb, hwb⟩ : ∃ wb, set5 wa g2 (.int .i64 p.1) (.int .u32 (p.2.1 : Int)) (.int .u32 (p.2.2.1 : Int)) (.int .u32 (p.2.2.2.1 : Int)) (.int .u32 (p.2.2.2.2 : Int)) = wb := ⟨_, rfl⟩
      rw [hwb] at qb kb bb yb
      have HK := Lib.hid (ka.trans kb)
      have HKA := Lib.hid ka
      have HKB := Lib.hid kb
      have HBF := Lib.hid bb
      have HYF := Lib.hid yb
      have HQF := Lib.hid qb
      simp only [set5] at hwa hwb
      clear ya ka ba qa qb kb bb yb
      have hxa := far5_blk HX3.out (show g3 ≠ g1 by have := HNE.out; omega) (.slice y.d.ba S'.1.1.length y.d.bc) (.slice y.d.wa S'.1.2.length y.d.wc) (.slice y.a S'.2.1.length y.c) (.int .u32 (S'.2.2.1 : Int)) (.int .u32 (S'.2.2.2 : Int))
      have hqa := far5_blk HQ3.out (show g4 ≠ g1 by have := HNE.out; omega) (.slice y.d.ba S'.1.1.length y.d.bc) (.slice y.d.wa S'.1.2.length y.d.wc) (.slice y.a S'.2.1.length y.c) (.int .u32 (S'.2.2.1 : Int)) (.int .u32 (S'.2.2.2 : Int))
      rw [show set5 wd g1 (.slice y.d.ba S'.1.1.length y.d.bc) (.slice y.d.wa S'.1.2.length y.d.wc) (.slice y.a S'.2.1.length y.c) (.int .u32 (S'.2.2.1 : Int)) (.int .u32 (S'.2.2.2 : Int)) = wa from hwa] at hxa hqa
      have hsa := And.intro (bx0 hxa) (And.intro (bx1 hxa) (And.intro (bx2 hxa) (And.intro (bx3 hxa) (And.intro (bx4 hxa) (And.intro (bx0 hqa) (And.intro (bx1 hqa) (And.intro (bx2 hqa) (And.intro (bx3 hqa) (bx4 hqa)))))))))
      have hxb := far5_blk hxa (show g3 ≠ g2 by have := HNE.out; omega) (.int .i64 p.1) (.int .u32 (p.2.1 : Int)) (.int .u32 (p.2.2.1 : Int)) (.int .u32 (p.2.2.2.1 : Int)) (.int .u32 (p.2.2.2.2 : Int))
      have hqb := far5_blk hqa (show g4 ≠ g2 by have := HNE.out; omega) (.int .i64 p.1) (.int .u32 (p.2.1 : Int)) (.int .u32 (p.2.2.1 : Int)) (.int .u32 (p.2.2.2.1 : Int)) (.int .u32 (p.2.2.2.2 : Int))
      rw [show set5 wa g2 (.int .i64 p.1) (.int .u32 (p.2.1 : Int)) (.int .u32 (p.2.2.1 : Int)) (.int .u32 (p.2.2.2.1 : Int)) (.int .u32 (p.2.2.2.2 : Int)) = wb from hwb] at hxb hqb
      have hsb := And.intro (bx0 hxb) (And.intro (bx1 hxb) (And.intro (bx2 hxb) (And.intro (bx3 hxb) (And.intro (bx4 hxb) (And.intro (bx0 hqb) (And.intro (bx1 hqb) (And.intro (bx2 hqb) (And.intro (bx3 hqb) (bx4 hqb)))))))))
      clear hxa hqa hxb hqb
      refine wpI_lone rfl (by kernel_rfl) (fun K hK => ?_)
      go_simp
      refine hK _ _ hsa ?_
      clear hK K
      try simp only [Act.put, List.setIfInBounds_toArray, List.set_cons_zero, List.set_cons_succ]
      refine wpI_lone rfl (by kernel_rfl) (fun K hK => ?_)
      go_simp
      refine hK _ _ hsb ?_
      clear hK K
      try simp only [Act.put, List.setIfInBounds_toArray, List.set_cons_zero, List.set_cons_succ]
      iterate 1 (
        refine wpI_read (v := ?_) hsb rfl (by kernel_rfl) (by kernel_rfl) (by kernel_rfl) (fun _ _ _ h => h) (.inl ⟨by rfl, ?_⟩) ?_
        rotate_left
        · intro X hX
          go_simp
          with_reducible rfl
        try simp only [Act.put, List.setIfInBounds_toArray, List.set_cons_zero, List.set_cons_succ])
      refine wpI_done (by kernel_rfl) ?_
      go_wp2_with fail
      clear m0 m1 m2 m3 m4 n0 n1 n2 n3 n4 hfy hfq hwa hwb
      have e0 := bx0 HYF.out
      have e1 := bx1 HYF.out
      have e2 := bx2 HYF.out
      have e3 := bx3 HYF.out
      have e4 := bx4 HYF.out
      have f0 := bx0 HQF.out
      have f1 := bx1 HQF.out
      have f2 := bx2 HQF.out
      have f3 := bx3 HQF.out
      have f4 := bx4 HQF.out
      refine bodyPost_ret (v := .tuple #[.agg #[(.slice y.d.ba S'.1.1.length y.d.bc), (.slice y.d.wa S'.1.2.length y.d.wc), (.slice y.a S'.2.1.length y.c), (.int .u32 (S'.2.2.1 : Int)), (.int .u32 (S'.2.2.2 : Int))], .agg #[(.int .i64 p.1), (.int .u32 (p.2.1 : Int)), (.int .u32 (p.2.2.1 : Int)), (.int .u32 (p.2.2.2.1 : Int)), (.int .u32 (p.2.2.2.2 : Int))], .int .i64 0]) (by simp [results, Tryz.f39, go_sem, e0, e1, e2, e3, e4, f0, f1, f2, f3, f4]) rfl ?_
      rw [HPP.out]
      exact ⟨y, rfl, fun W k => HY3.out W ((HK.out.more HI.out.1).trans k), by rw [HG.out]; exact HBF.out⟩
set_option maxHeartbeats 8000000 in
theorem rtSeal_any (L : Nat) (x : SAt) (S : StL) (birth : Nat) (ka : Option Addr) (kc : Nat) (key : List UInt8) (a : Option Addr) (c : Nat) (b : List UInt8) (w : World) (h : StP L w x S) (hk : Bsl w w.heap.size ka key.length kc key) (hb : Bsl w w.heap.size a b.length c b) (hL : L ≤ w.heap.size) :
    Calls Tryz.prog 12 #[stV x S, .int .u32 birth, .slice ka key.length kc, .slice a b.length c] w (OutSP L (sealO S birth key b) w) := by
  obtain ⟨w0, hw0, b0, z0, x0, y0, q0⟩ := three_al w (stC x S) stZ ptZ 29 29 33
  obtain ⟨g, hg⟩ : ∃ g, w.heap.size = g := ⟨_, rfl⟩
  obtain ⟨g1, hg1⟩ : ∃ g1, g + 1 = g1 := ⟨_, rfl⟩
  obtain ⟨g2, hg2⟩ : ∃ g2, g1 + 1 = g2 := ⟨_, rfl⟩
  have h0 := h.bel b0
  have hk0 := (bsl_lasts hk (Nat.le_refl _)).bel b0
  have hb0 := (bsl_lasts hb (Nat.le_refl _)).bel b0
  rw [hg] at hk0 hb0
  rw [hg] at x0 y0 q0 z0 b0
  rw [hg1] at y0
  rw [show g + 2 = g1 + 1 by omega, hg2] at q0
  have HI := Lib.hid (show L ≤ g ∧ g ≤ g1 ∧ g ≤ g2 ∧ g1 ≠ g ∧ g2 ≠ g ∧ g2 ≠ g1 ∧ g1 ≠ g2 by omega)
  have c0 := stC0 x0
  have c1 := stC1 x0
  have c2 := stC2 x0
  have c3 := stC3 x0
  have c4 := stC4 x0
  have HX := Lib.hid x0
  have HY := Lib.hid y0
  have HQ := Lib.hid q0
  have HB := Lib.hid b0
  have HS := Lib.hid h0
  have HG := Lib.hid hg
  have HW := Lib.hid (show g ≤ w0.heap.size by omega)
  simp only [stC, stZ, ptZ] at hw0
  clear h h0 x0 y0 q0 b0 z0
  have HKY := Lib.hid hk0
  have HBB := Lib.hid hb0
  have lk := hk0.now.len_le
  have lb := hb0.now.len_le
  clear hk hb hk0 hb0
  unfold sealO
  by_cases hm : MayS S
  · rw [if_pos hm]
    have HM := Lib.hid (rtMay_any L x S w0 HS.out true ⟨fun _ => hm, fun _ => rfl⟩)
    have HMS := Lib.hid hm
    clear hm
    by_cases h1 : 1 ≤ birth ∧ birth ≤ 16777215
    · rw [if_pos h1]
      have k1 : (1 : Int) ≤ birth := by omega
      have k2 : (birth : Int) ≤ 16777215 := by omega
      clear h1
      by_cases h2 : key.length = 16 ∧ b.length = 256
      · rw [if_pos h2]
        obtain ⟨O, hO⟩ : ∃ O, sealedO S birth key b = O := ⟨_, rfl⟩
        have HP := Lib.hid fun W (hs : StP L W x S) (hkk : Bsl W W.heap.size ka key.length kc key) (hbb : Bsl W W.heap.size a b.length c b) hl => rtSealed_any L x S birth ka kc key a c b W hs HMS.out hkk hbb h2.1 h2.2 hl
        rw [hO] at HP
        have HO := Lib.hid hO
        obtain ⟨S', p, k⟩ := O
        have k3 : ((key.length : Int) != 16) = false := by simp; omega
        have k4 : ((b.length : Int) != 256) = false := by simp; omega
        clear h2 hO
        go_enter Tryz.func12, Tryz.ntmps12
        go_wp2_with fail
        clear c0 c1 c2 c3 c4 hw0
        refine HM.out.mono ?_
        rintro e w1 ⟨rfl, b1⟩
        replace HX := Lib.hid (HX.out.below b1 HX.out.lt)
        replace HY := Lib.hid (HY.out.below b1 HY.out.lt)
        replace HQ := Lib.hid (HQ.out.below b1 HQ.out.lt)
        replace HS := Lib.hid (HS.out.bel b1)
        replace HKY := Lib.hid (HKY.out.bel b1)
        replace HBB := Lib.hid (HBB.out.bel b1)
        replace HB := Lib.hid (HB.out.trans (b1.mono HW.out))
        replace HW := Lib.hid (Nat.le_trans HW.out b1.size)
        clear b1 HM
        have c0 := stC0 HX.out
        have c1 := stC1 HX.out
        have c2 := stC2 HX.out
        have c3 := stC3 HX.out
        have c4 := stC4 HX.out
        go_wp2_with fail
        clear c0 c1 c2 c3 c4
        refine (HP.out w1 HS.out HKY.out.now HBB.out.now (Nat.le_trans HI.out.1 HW.out)).mono ?_
        rintro ev w2 ⟨y, rfl, hy, b2⟩
        have HYY := Lib.hid hy
        replace HY := Lib.hid (HY.out.below b2 HY.out.lt)
        replace HQ := Lib.hid (HQ.out.below b2 HQ.out.lt)
        replace HB := Lib.hid (HB.out.trans (b2.mono HW.out))
        replace HW := Lib.hid (Nat.le_trans HW.out b2.size)
        clear b2 HP hy HX HS HKY HBB
        obtain ⟨ya, ka, ba⟩ := box_five (L := g) HY.out (by decide) HI.out.2.1 HB.out HI.out.2.1 (.slice y.d.ba S'.1.1.length y.d.bc) (.slice y.d.wa S'.1.2.length y.d.wc) (.slice y.a S'.2.1.length y.c) (.int .u32 (S'.2.2.1 : Int)) (.int .u32 (S'.2.2.2 : Int))
        have qa := far5_blk HQ.out HI.out.2.2.2.2.2.1 (.slice y.d.ba S'.1.1.length y.d.bc) (.slice y.d.wa S'.1.2.length y.d.wc) (.slice y.a S'.2.1.length y.c) (.int .u32 (S'.2.2.1 : Int)) (.int .u32 (S'.2.2.2 : Int))
        have m0 := stZ0 HY.out
        have m1 := stZ1 HY.out
        have m2 := stZ2 HY.out
        have m3 := stZ3 HY.out
        have m4 := stZ4 HY.out
        have hfy := fun i => HY.out.frozen i
        obtain ⟨wa, hwa⟩ : ∃ wa, set5 w2 g1 (.slice y.d.ba S'.1.1.length y.d.bc) (.slice y.d.wa S'.1.2.length y.d.wc) (.slice y.a S'.2.1.length y.c) (.int .u32 (S'.2.2.1 : Int)) (.int .u32 (S'.2.2.2 : Int)) = wa := ⟨_, rfl⟩
        rw [hwa] at ya ka ba qa
        obtain ⟨qb, kb, bb⟩ := box_five (L := g) qa (by decide) HI.out.2.2.1 ba HI.out.2.2.1 (.int .i64 p.1) (.int .u32 (p.2.1 : Int)) (.int .u32 (p.2.2.1 : Int)) (.int .u32 (p.2.2.2.1 : Int)) (.int .u32 (p.2.2.2.2 : Int))
        have yb := far5_blk ya HI.out.2.2.2.2.2.2 (.int .i64 p.1) (.int .u32 (p.2.1 : Int)) (.int .u32 (p.2.2.1 : Int)) (.int .u32 (p.2.2.2.1 : Int)) (.int .u32 (p.2.2.2.2 : Int))
        have n0 := ptZ0 qa
        have n1 := ptZ1 qa
        have n2 := ptZ2 qa
        have n3 := ptZ3 qa
        have n4 := ptZ4 qa
        have hfq := fun i => qa.frozen i
        obtain ⟨wb, hwb⟩ : ∃ wb, set5 wa g2 (.int .i64 p.1) (.int .u32 (p.2.1 : Int)) (.int .u32 (p.2.2.1 : Int)) (.int .u32 (p.2.2.2.1 : Int)) (.int .u32 (p.2.2.2.2 : Int)) = wb := ⟨_, rfl⟩
        rw [hwb] at qb kb bb yb
        have HK := Lib.hid (ka.trans kb)
        have HKA := Lib.hid ka
        have HKB := Lib.hid kb
        have HBF := Lib.hid bb
        have HYF := Lib.hid yb
        have HQF := Lib.hid qb
        simp only [set5] at hwa hwb
        clear ya ka ba qa qb kb bb yb
        go_wp2_with fail
        clear m0 m1 m2 m3 m4 n0 n1 n2 n3 n4 hfy hfq hwa hwb
        have e0 := bx0 HYF.out
        have e1 := bx1 HYF.out
        have e2 := bx2 HYF.out
        have e3 := bx3 HYF.out
        have e4 := bx4 HYF.out
        have f0 := bx0 HQF.out
        have f1 := bx1 HQF.out
        have f2 := bx2 HQF.out
        have f3 := bx3 HQF.out
        have f4 := bx4 HQF.out
        refine bodyPost_ret (v := .tuple #[.agg #[(.slice y.d.ba S'.1.1.length y.d.bc), (.slice y.d.wa S'.1.2.length y.d.wc), (.slice y.a S'.2.1.length y.c), (.int .u32 (S'.2.2.1 : Int)), (.int .u32 (S'.2.2.2 : Int))], .agg #[(.int .i64 p.1), (.int .u32 (p.2.1 : Int)), (.int .u32 (p.2.2.1 : Int)), (.int .u32 (p.2.2.2.1 : Int)), (.int .u32 (p.2.2.2.2 : Int))], .int .i64 (k : Int)]) (by simp [results, Tryz.f12, go_sem, e0, e1, e2, e3, e4, f0, f1, f2, f3, f4]) rfl ?_
        rw [HO.out]
        exact ⟨y, rfl, fun W kk => HYY.out W ((HK.out.more HI.out.1).trans kk), by rw [HG.out]; exact HBF.out⟩
      · rw [if_neg h2]
        by_cases h3 : key.length = 16
        · have k3 : ((key.length : Int) != 16) = false := by simp; omega
          have k4 : ((b.length : Int) != 256) = true := by simp; omega
          clear h2 h3
          go_enter Tryz.func12, Tryz.ntmps12
          go_wp2_with fail
          clear c0 c1 c2 c3 c4 hw0
          refine HM.out.mono ?_
          rintro e w1 ⟨rfl, b1⟩
          replace HX := Lib.hid (HX.out.below b1 HX.out.lt)
          replace HY := Lib.hid (HY.out.below b1 HY.out.lt)
          replace HQ := Lib.hid (HQ.out.below b1 HQ.out.lt)
          replace HS := Lib.hid (HS.out.bel b1)
          replace HKY := Lib.hid (HKY.out.bel b1)
          replace HBB := Lib.hid (HBB.out.bel b1)
          replace HB := Lib.hid (HB.out.trans (b1.mono HW.out))
          replace HW := Lib.hid (Nat.le_trans HW.out b1.size)
          clear b1 HM
          obtain ⟨ya, ka, ba⟩ := box_five (L := g) HY.out (by decide) HI.out.2.1 HB.out HI.out.2.1 (.slice none 0 0) (.slice none 0 0) (.slice none 0 0) (.int .u32 0) (.int .u32 0)
          have qa := far5_blk HQ.out HI.out.2.2.2.2.2.1 (.slice none 0 0) (.slice none 0 0) (.slice none 0 0) (.int .u32 0) (.int .u32 0)
          have m0 := stZ0 HY.out
          have m1 := stZ1 HY.out
          have m2 := stZ2 HY.out
          have m3 := stZ3 HY.out
          have m4 := stZ4 HY.out
          have hfy := fun i => HY.out.frozen i
          obtain ⟨wa, hwa⟩ : ∃ wa, set5 w1 g1 (.slice none 0 0) (.slice none 0 0) (.slice none 0 0) (.int .u32 0) (.int .u32 0) = wa := ⟨_, rfl⟩
          rw [hwa] at ya ka ba qa
          obtain ⟨qb, kb, bb⟩ := box_five (L := g) qa (by decide) HI.out.2.2.1 ba HI.out.2.2.1 (.int .i64 0) (.int .u32 0) (.int .u32 0) (.int .u32 0) (.int .u32 0)
          have yb := far5_blk ya HI.out.2.2.2.2.2.2 (.int .i64 0) (.int .u32 0) (.int .u32 0) (.int .u32 0) (.int .u32 0)
          have n0 := ptZ0 qa
          have n1 := ptZ1 qa
          have n2 := ptZ2 qa
          have n3 := ptZ3 qa
          have n4 := ptZ4 qa
          have hfq := fun i => qa.frozen i
          obtain ⟨wb, hwb⟩ : ∃ wb, set5 wa g2 (.int .i64 0) (.int .u32 0) (.int .u32 0) (.int .u32 0) (.int .u32 0) = wb := ⟨_, rfl⟩
          rw [hwb] at qb kb bb yb
          have HK := Lib.hid (ka.trans kb)
          have HKA := Lib.hid ka
          have HKB := Lib.hid kb
          have HBF := Lib.hid bb
          have HYF := Lib.hid yb
          have HQF := Lib.hid qb
          simp only [set5] at hwa hwb
          clear ya ka ba qa qb kb bb yb
          go_wp2_with fail
          clear m0 m1 m2 m3 m4 n0 n1 n2 n3 n4 hfy hfq hwa hwb
          have e0 := bx0 HYF.out
          have e1 := bx1 HYF.out
          have e2 := bx2 HYF.out
          have e3 := bx3 HYF.out
          have e4 := bx4 HYF.out
          have f0 := bx0 HQF.out
          have f1 := bx1 HQF.out
          have f2 := bx2 HQF.out
          have f3 := bx3 HQF.out
          have f4 := bx4 HQF.out
          refine bodyPost_ret (v := .tuple #[.agg #[(.slice none 0 0), (.slice none 0 0), (.slice none 0 0), (.int .u32 0), (.int .u32 0)], .agg #[(.int .i64 0), (.int .u32 0), (.int .u32 0), (.int .u32 0), (.int .u32 0)], .int .i64 3]) (by simp [results, Tryz.f12, go_sem, e0, e1, e2, e3, e4, f0, f1, f2, f3, f4]) rfl ?_
          exact outSP_no L 3 (by rw [HG.out]; exact HBF.out)
        · have k3 : ((key.length : Int) != 16) = true := by simp; omega
          clear h2 h3
          go_enter Tryz.func12, Tryz.ntmps12
          go_wp2_with fail
          clear c0 c1 c2 c3 c4 hw0
          refine HM.out.mono ?_
          rintro e w1 ⟨rfl, b1⟩
          replace HX := Lib.hid (HX.out.below b1 HX.out.lt)
          replace HY := Lib.hid (HY.out.below b1 HY.out.lt)
          replace HQ := Lib.hid (HQ.out.below b1 HQ.out.lt)
          replace HS := Lib.hid (HS.out.bel b1)
          replace HKY := Lib.hid (HKY.out.bel b1)
          replace HBB := Lib.hid (HBB.out.bel b1)
          replace HB := Lib.hid (HB.out.trans (b1.mono HW.out))
          replace HW := Lib.hid (Nat.le_trans HW.out b1.size)
          clear b1 HM
          obtain ⟨ya, ka, ba⟩ := box_five (L := g) HY.out (by decide) HI.out.2.1 HB.out HI.out.2.1 (.slice none 0 0) (.slice none 0 0) (.slice none 0 0) (.int .u32 0) (.int .u32 0)
          have qa := far5_blk HQ.out HI.out.2.2.2.2.2.1 (.slice none 0 0) (.slice none 0 0) (.slice none 0 0) (.int .u32 0) (.int .u32 0)
          have m0 := stZ0 HY.out
          have m1 := stZ1 HY.out
          have m2 := stZ2 HY.out
          have m3 := stZ3 HY.out
          have m4 := stZ4 HY.out
          have hfy := fun i => HY.out.frozen i
          obtain ⟨wa, hwa⟩ : ∃ wa, set5 w1 g1 (.slice none 0 0) (.slice none 0 0) (.slice none 0 0) (.int .u32 0) (.int .u32 0) = wa := ⟨_, rfl⟩
          rw [hwa] at ya ka ba qa
          obtain ⟨qb, kb, bb⟩ := box_five (L := g) qa (by decide) HI.out.2.2.1 ba HI.out.2.2.1 (.int .i64 0) (.int .u32 0) (.int .u32 0) (.int .u32 0) (.int .u32 0)
          have yb := far5_blk ya HI.out.2.2.2.2.2.2 (.int .i64 0) (.int .u32 0) (.int .u32 0) (.int .u32 0) (.int .u32 0)
          have n0 := ptZ0 qa
          have n1 := ptZ1 qa
          have n2 := ptZ2 qa
          have n3 := ptZ3 qa
          have n4 := ptZ4 qa
          have hfq := fun i => qa.frozen i
          obtain ⟨wb, hwb⟩ : ∃ wb, set5 wa g2 (.int .i64 0) (.int .u32 0) (.int .u32 0) (.int .u32 0) (.int .u32 0) = wb := ⟨_, rfl⟩
          rw [hwb] at qb kb bb yb
          have HK := Lib.hid (ka.trans kb)
          have HKA := Lib.hid ka
          have HKB := Lib.hid kb
          have HBF := Lib.hid bb
          have HYF := Lib.hid yb
          have HQF := Lib.hid qb
          simp only [set5] at hwa hwb
          clear ya ka ba qa qb kb bb yb
          go_wp2_with fail
          clear m0 m1 m2 m3 m4 n0 n1 n2 n3 n4 hfy hfq hwa hwb
          have e0 := bx0 HYF.out
          have e1 := bx1 HYF.out
          have e2 := bx2 HYF.out
          have e3 := bx3 HYF.out
          have e4 := bx4 HYF.out
          have f0 := bx0 HQF.out
          have f1 := bx1 HQF.out
          have f2 := bx2 HQF.out
          have f3 := bx3 HQF.out
          have f4 := bx4 HQF.out
          refine bodyPost_ret (v := .tuple #[.agg #[(.slice none 0 0), (.slice none 0 0), (.slice none 0 0), (.int .u32 0), (.int .u32 0)], .agg #[(.int .i64 0), (.int .u32 0), (.int .u32 0), (.int .u32 0), (.int .u32 0)], .int .i64 3]) (by simp [results, Tryz.f12, go_sem, e0, e1, e2, e3, e4, f0, f1, f2, f3, f4]) rfl ?_
          exact outSP_no L 3 (by rw [HG.out]; exact HBF.out)
    · rw [if_neg h1]
      by_cases h3 : birth < 1
      · have k1 : (birth : Int) < 1 := by omega
        clear h1 h3
        go_enter Tryz.func12, Tryz.ntmps12
        go_wp2_with fail
        clear c0 c1 c2 c3 c4 hw0
        refine HM.out.mono ?_
        rintro e w1 ⟨rfl, b1⟩
        replace HX := Lib.hid (HX.out.below b1 HX.out.lt)
        replace HY := Lib.hid (HY.out.below b1 HY.out.lt)
        replace HQ := Lib.hid (HQ.out.below b1 HQ.out.lt)
        replace HS := Lib.hid (HS.out.bel b1)
        replace HKY := Lib.hid (HKY.out.bel b1)
        replace HBB := Lib.hid (HBB.out.bel b1)
        replace HB := Lib.hid (HB.out.trans (b1.mono HW.out))
        replace HW := Lib.hid (Nat.le_trans HW.out b1.size)
        clear b1 HM
        obtain ⟨ya, ka, ba⟩ := box_five (L := g) HY.out (by decide) HI.out.2.1 HB.out HI.out.2.1 (.slice none 0 0) (.slice none 0 0) (.slice none 0 0) (.int .u32 0) (.int .u32 0)
        have qa := far5_blk HQ.out HI.out.2.2.2.2.2.1 (.slice none 0 0) (.slice none 0 0) (.slice none 0 0) (.int .u32 0) (.int .u32 0)
        have m0 := stZ0 HY.out
        have m1 := stZ1 HY.out
        have m2 := stZ2 HY.out
        have m3 := stZ3 HY.out
        have m4 := stZ4 HY.out
        have hfy := fun i => HY.out.frozen i
        obtain ⟨wa, hwa⟩ : ∃ wa, set5 w1 g1 (.slice none 0 0) (.slice none 0 0) (.slice none 0 0) (.int .u32 0) (.int .u32 0) = wa := ⟨_, rfl⟩
        rw [hwa] at ya ka ba qa
        obtain ⟨qb, kb, bb⟩ := box_five (L := g) qa (by decide) HI.out.2.2.1 ba HI.out.2.2.1 (.int .i64 0) (.int .u32 0) (.int .u32 0) (.int .u32 0) (.int .u32 0)
        have yb := far5_blk ya HI.out.2.2.2.2.2.2 (.int .i64 0) (.int .u32 0) (.int .u32 0) (.int .u32 0) (.int .u32 0)
        have n0 := ptZ0 qa
        have n1 := ptZ1 qa
        have n2 := ptZ2 qa
        have n3 := ptZ3 qa
        have n4 := ptZ4 qa
        have hfq := fun i => qa.frozen i
        obtain ⟨wb, hwb⟩ : ∃ wb, set5 wa g2 (.int .i64 0) (.int .u32 0) (.int .u32 0) (.int .u32 0) (.int .u32 0) = wb := ⟨_, rfl⟩
        rw [hwb] at qb kb bb yb
        have HK := Lib.hid (ka.trans kb)
        have HKA := Lib.hid ka
        have HKB := Lib.hid kb
        have HBF := Lib.hid bb
        have HYF := Lib.hid yb
        have HQF := Lib.hid qb
        simp only [set5] at hwa hwb
        clear ya ka ba qa qb kb bb yb
        go_wp2_with fail
        clear m0 m1 m2 m3 m4 n0 n1 n2 n3 n4 hfy hfq hwa hwb
        have e0 := bx0 HYF.out
        have e1 := bx1 HYF.out
        have e2 := bx2 HYF.out
        have e3 := bx3 HYF.out
        have e4 := bx4 HYF.out
        have f0 := bx0 HQF.out
        have f1 := bx1 HQF.out
        have f2 := bx2 HQF.out
        have f3 := bx3 HQF.out
        have f4 := bx4 HQF.out
        refine bodyPost_ret (v := .tuple #[.agg #[(.slice none 0 0), (.slice none 0 0), (.slice none 0 0), (.int .u32 0), (.int .u32 0)], .agg #[(.int .i64 0), (.int .u32 0), (.int .u32 0), (.int .u32 0), (.int .u32 0)], .int .i64 2]) (by simp [results, Tryz.f12, go_sem, e0, e1, e2, e3, e4, f0, f1, f2, f3, f4]) rfl ?_
        exact outSP_no L 2 (by rw [HG.out]; exact HBF.out)
      · have k1 : ¬ (birth : Int) < 1 := by omega
        have k2 : (16777215 : Int) < birth := by omega
        have k4 : (1 : Int) ≤ birth := by omega
        clear h1 h3
        go_enter Tryz.func12, Tryz.ntmps12
        go_wp2_with fail
        clear c0 c1 c2 c3 c4 hw0
        refine HM.out.mono ?_
        rintro e w1 ⟨rfl, b1⟩
        replace HX := Lib.hid (HX.out.below b1 HX.out.lt)
        replace HY := Lib.hid (HY.out.below b1 HY.out.lt)
        replace HQ := Lib.hid (HQ.out.below b1 HQ.out.lt)
        replace HS := Lib.hid (HS.out.bel b1)
        replace HKY := Lib.hid (HKY.out.bel b1)
        replace HBB := Lib.hid (HBB.out.bel b1)
        replace HB := Lib.hid (HB.out.trans (b1.mono HW.out))
        replace HW := Lib.hid (Nat.le_trans HW.out b1.size)
        clear b1 HM
        obtain ⟨ya, ka, ba⟩ := box_five (L := g) HY.out (by decide) HI.out.2.1 HB.out HI.out.2.1 (.slice none 0 0) (.slice none 0 0) (.slice none 0 0) (.int .u32 0) (.int .u32 0)
        have qa := far5_blk HQ.out HI.out.2.2.2.2.2.1 (.slice none 0 0) (.slice none 0 0) (.slice none 0 0) (.int .u32 0) (.int .u32 0)
        have m0 := stZ0 HY.out
        have m1 := stZ1 HY.out
        have m2 := stZ2 HY.out
        have m3 := stZ3 HY.out
        have m4 := stZ4 HY.out
        have hfy := fun i => HY.out.frozen i
        obtain ⟨wa, hwa⟩ : ∃ wa, set5 w1 g1 (.slice none 0 0) (.slice none 0 0) (.slice none 0 0) (.int .u32 0) (.int .u32 0) = wa := ⟨_, rfl⟩
        rw [hwa] at ya ka ba qa
        obtain ⟨qb, kb, bb⟩ := box_five (L := g) qa (by decide) HI.out.2.2.1 ba HI.out.2.2.1 (.int .i64 0) (.int .u32 0) (.int .u32 0) (.int .u32 0) (.int .u32 0)
        have yb := far5_blk ya HI.out.2.2.2.2.2.2 (.int .i64 0) (.int .u32 0) (.int .u32 0) (.int .u32 0) (.int .u32 0)
        have n0 := ptZ0 qa
        have n1 := ptZ1 qa
        have n2 := ptZ2 qa
        have n3 := ptZ3 qa
        have n4 := ptZ4 qa
        have hfq := fun i => qa.frozen i
        obtain ⟨wb, hwb⟩ : ∃ wb, set5 wa g2 (.int .i64 0) (.int .u32 0) (.int .u32 0) (.int .u32 0) (.int .u32 0) = wb := ⟨_, rfl⟩
        rw [hwb] at qb kb bb yb
        have HK := Lib.hid (ka.trans kb)
        have HKA := Lib.hid ka
        have HKB := Lib.hid kb
        have HBF := Lib.hid bb
        have HYF := Lib.hid yb
        have HQF := Lib.hid qb
        simp only [set5] at hwa hwb
        clear ya ka ba qa qb kb bb yb
        go_wp2_with fail
        clear m0 m1 m2 m3 m4 n0 n1 n2 n3 n4 hfy hfq hwa hwb
        have e0 := bx0 HYF.out
        have e1 := bx1 HYF.out
        have e2 := bx2 HYF.out
        have e3 := bx3 HYF.out
        have e4 := bx4 HYF.out
        have f0 := bx0 HQF.out
        have f1 := bx1 HQF.out
        have f2 := bx2 HQF.out
        have f3 := bx3 HQF.out
        have f4 := bx4 HQF.out
        refine bodyPost_ret (v := .tuple #[.agg #[(.slice none 0 0), (.slice none 0 0), (.slice none 0 0), (.int .u32 0), (.int .u32 0)], .agg #[(.int .i64 0), (.int .u32 0), (.int .u32 0), (.int .u32 0), (.int .u32 0)], .int .i64 2]) (by simp [results, Tryz.f12, go_sem, e0, e1, e2, e3, e4, f0, f1, f2, f3, f4]) rfl ?_
        exact outSP_no L 2 (by rw [HG.out]; exact HBF.out)
  · rw [if_neg hm]
    have HM := Lib.hid (rtMay_any L x S w0 HS.out false ⟨fun h => (by cases h), fun h => absurd h hm⟩)
    clear hm
    go_enter Tryz.func12, Tryz.ntmps12
    go_wp2_with fail
    clear c0 c1 c2 c3 c4 hw0
    refine HM.out.mono ?_
    rintro e w1 ⟨rfl, b1⟩
    replace HX := Lib.hid (HX.out.below b1 HX.out.lt)
    replace HY := Lib.hid (HY.out.below b1 HY.out.lt)
    replace HQ := Lib.hid (HQ.out.below b1 HQ.out.lt)
    replace HS := Lib.hid (HS.out.bel b1)
    replace HKY := Lib.hid (HKY.out.bel b1)
    replace HBB := Lib.hid (HBB.out.bel b1)
    replace HB := Lib.hid (HB.out.trans (b1.mono HW.out))
    replace HW := Lib.hid (Nat.le_trans HW.out b1.size)
    clear b1 HM
    obtain ⟨ya, ka, ba⟩ := box_five (L := g) HY.out (by decide) HI.out.2.1 HB.out HI.out.2.1 (.slice none 0 0) (.slice none 0 0) (.slice none 0 0) (.int .u32 0) (.int .u32 0)
    have qa := far5_blk HQ.out HI.out.2.2.2.2.2.1 (.slice none 0 0) (.slice none 0 0) (.slice none 0 0) (.int .u32 0) (.int .u32 0)
    have m0 := stZ0 HY.out
    have m1 := stZ1 HY.out
    have m2 := stZ2 HY.out
    have m3 := stZ3 HY.out
    have m4 := stZ4 HY.out
    have hfy := fun i => HY.out.frozen i
    obtain ⟨wa, hwa⟩ : ∃ wa, set5 w1 g1 (.slice none 0 0) (.slice none 0 0) (.slice none 0 0) (.int .u32 0) (.int .u32 0) = wa := ⟨_, rfl⟩
    rw [hwa] at ya ka ba qa
    obtain ⟨qb, kb, bb⟩ := box_five (L := g) qa (by decide) HI.out.2.2.1 ba HI.out.2.2.1 (.int .i64 0) (.int .u32 0) (.int .u32 0) (.int .u32 0) (.int .u32 0)
    have yb := far5_blk ya HI.out.2.2.2.2.2.2 (.int .i64 0) (.int .u32 0) (.int .u32 0) (.int .u32 0) (.int .u32 0)
    have n0 := ptZ0 qa
    have n1 := ptZ1 qa
    have n2 := ptZ2 qa
    have n3 := ptZ3 qa
    have n4 := ptZ4 qa
    have hfq := fun i => qa.frozen i
    obtain ⟨wb, hwb⟩ : ∃ wb, set5 wa g2 (.int .i64 0) (.int .u32 0) (.int .u32 0) (.int .u32 0) (.int .u32 0) = wb := ⟨_, rfl⟩
    rw [hwb] at qb kb bb yb
    have HK := Lib.hid (ka.trans kb)
    have HKA := Lib.hid ka
    have HKB := Lib.hid kb
    have HBF := Lib.hid bb
    have HYF := Lib.hid yb
    have HQF := Lib.hid qb
    simp only [set5] at hwa hwb
    clear ya ka ba qa qb kb bb yb
    go_wp2_with fail
    clear m0 m1 m2 m3 m4 n0 n1 n2 n3 n4 hfy hfq hwa hwb
    have e0 := bx0 HYF.out
    have e1 := bx1 HYF.out
    have e2 := bx2 HYF.out
    have e3 := bx3 HYF.out
    have e4 := bx4 HYF.out
    have f0 := bx0 HQF.out
    have f1 := bx1 HQF.out
    have f2 := bx2 HQF.out
    have f3 := bx3 HQF.out
    have f4 := bx4 HQF.out
    refine bodyPost_ret (v := .tuple #[.agg #[(.slice none 0 0), (.slice none 0 0), (.slice none 0 0), (.int .u32 0), (.int .u32 0)], .agg #[(.int .i64 0), (.int .u32 0), (.int .u32 0), (.int .u32 0), (.int .u32 0)], .int .i64 8]) (by simp [results, Tryz.f12, go_sem, e0, e1, e2, e3, e4, f0, f1, f2, f3, f4]) rfl ?_
    exact outSP_no L 8 (by rw [HG.out]; exact HBF.out)
end Go.Proofs.YtdpmdlibgabjaaaGreat
/-
  ptr.put: the bytes of a pointer whose numbers have room, in a row of the call's own.
-/
namespace Go.Proofs.YtdpmdlibgabjaaaGreat
open Go.RowKit Go.Shelf
set_option maxRecDepth 100000

/-- make([]byte, 0, 16). -/
theorem make_room (n : Nat) (hn : n ≤ 1000000) (W : World) : (Instr.makeSlice 26 (.int .i64 0) (.int .i64 (n : Int))).run Tryz.prog W = .ok (.slice (some ⟨W.heap.size, 0, none⟩) 0 n) (W.alloc (.cells (Array.replicate n (.int .u8 0)) 5)) := by
  obtain ⟨i0, hi, hz0, hz1, hz2⟩ := info_parts infoU8
  have hr := run_make (P := Tryz.prog) W 26 5 i0 (.int .u8 0) Tryz.underlying26 hi hz0 .i64 .i64 0 n (by omega) (by omega) (by rw [hz2]; omega) (by omega)
  rw [hz1] at hr
  simp only [Int.toNat_natCast] at hr
  have e : madeCells (Value.int .u8 0).cells (n * 1) = Array.replicate n (Value.int .u8 0) := by
    apply Array.ext
    · simp [size_madeCells]
    · intro i h1 h2
      simp [madeCells, Value.cells, Nat.mod_one]
  rw [e] at hr
  exact hr
theorem own_room0 (w : World) (n : Nat) (hn : n ≤ 1000000) : (w.alloc (.cells (Array.replicate n (.int .u8 0)) 5)).ownsRow w.heap.size 5 1 (.slice (some ⟨w.heap.size, 0, none⟩) 0 n) 0 (vals []) :=
  ⟨rfl, .inr ⟨w.heap.size, n, _, rfl, Nat.le_refl _, heap_alloc_new w _, Nat.zero_le _, by unfold maxLen; omega, by simp, rfl⟩⟩
/-- The bytes of the first numbers. -/
def putTo (p : Pt) : Nat → List UInt8
  | 0 => []
  | 1 => leB 1 p.1.toNat
  | 2 => leB 1 p.1.toNat ++ leB 3 p.2.1
  | 3 => leB 1 p.1.toNat ++ leB 3 p.2.1 ++ leB 4 p.2.2.1
  | 4 => leB 1 p.1.toNat ++ leB 3 p.2.1 ++ leB 4 p.2.2.1 ++ leB 4 p.2.2.2.1
  | _ => bytesP p
/-- How many bytes the first numbers have. -/
def stP : Nat → Nat
  | 0 => 0
  | 1 => 1
  | 2 => 4
  | 3 => 8
  | 4 => 12
  | _ => 16
end Go.Proofs.YtdpmdlibgabjaaaGreat
/-
  ptr.get: the pointer whose sixteen bytes these are.
-/
namespace Go.Proofs.YtdpmdlibgabjaaaGreat
open Go.RowKit Go.Shelf
set_option maxRecDepth 100000

/-- The numbers that are there yet. -/
def numTo (n0 n1 n2 n3 n4 : Nat) : Nat → Array Value
  | 0 => #[.int .i64 0, .int .i64 0, .int .i64 0, .int .i64 0, .int .i64 0]
  | 1 => #[.int .i64 (n0 : Int), .int .i64 0, .int .i64 0, .int .i64 0, .int .i64 0]
  | 2 => #[.int .i64 (n0 : Int), .int .i64 (n1 : Int), .int .i64 0, .int .i64 0, .int .i64 0]
  | 3 => #[.int .i64 (n0 : Int), .int .i64 (n1 : Int), .int .i64 (n2 : Int), .int .i64 0, .int .i64 0]
  | 4 => #[.int .i64 (n0 : Int), .int .i64 (n1 : Int), .int .i64 (n2 : Int), .int .i64 (n3 : Int), .int .i64 0]
  | _ => #[.int .i64 (n0 : Int), .int .i64 (n1 : Int), .int .i64 (n2 : Int), .int .i64 (n3 : Int), .int .i64 (n4 : Int)]
/-- Where the next one stands. -/
def atP : Nat → Nat
  | 0 => 0
  | 1 => 1
  | 2 => 4
  | 3 => 8
  | 4 => 12
  | _ => 16
end Go.Proofs.YtdpmdlibgabjaaaGreat
/-
  ptr.Check, ptr.Write and ptr.Read, whatever they are handed; nothing that was there is written.
-/
namespace Go.Proofs.YtdpmdlibgabjaaaGreat
open Go.RowKit Go.Shelf
set_option maxRecDepth 100000

/-- A list of the call's own, and an error's number. -/
def OutB (S : List UInt8) (c : Int) (w : World) (e : Ending) (w' : World) : Prop := ∃ v, e = .returned (.tuple #[v, .int .i64 c]) ∧ w'.ownsRow w.heap.size 5 1 v S.length (vals S) ∧ Below w.heap.size w w'
theorem outB_no {w w' : World} {c : Int} {e : Ending} (he : e = .returned (.tuple #[.slice none 0 0, .int .i64 c])) (hb : Below w.heap.size w w') : OutB [] c w e w' := ⟨_, he, own_nil _ _, hb⟩
/-- A pointer, and an error's number. -/
def OutP (p : Pt) (c : Int) (w : World) (e : Ending) (w' : World) : Prop := e = .returned (.tuple #[ptV p, .int .i64 c]) ∧ Below w.heap.size w w'
/-- What Write answers. -/
def pwriteO (p : Pt) : List UInt8 × Int := if MayP p then (bytesP p, 0) else ([], 8)
/-- What Read answers. -/
def preadO (s : List UInt8) : Pt × Int := if s.length = 16 then (if MayP (getP s) then (getP s, 0) else (p0, 8)) else (p0, 3)

end Go.Proofs.YtdpmdlibgabjaaaGreat
/-
  The document's own May, Check, Number and Get of pointers; nothing that was there is written.
-/
namespace Go.Proofs.YtdpmdlibgabjaaaGreat
open Go.RowKit Go.Shelf
set_option maxRecDepth 100000

theorem rpNone_any (p : Pt) (w : World) : Calls Tryz.prog 53 #[ptV p] w fun e w' => e = .returned (.bool (eqP p p0)) ∧ Below w.heap.size w w' := by
  obtain ⟨a, b, c, d, e⟩ := p
  have heq := eqPt_zero a b c d e
  go_enter Tryz.func53, Tryz.ntmps53
  go_wp2_with fail
  go_ret
  exact ⟨rfl, (Below.refl _ w).alloc (Nat.le_refl _) _⟩
theorem rpMay_any (p : Pt) (w : World) : Calls Tryz.prog 45 #[ptV p] w fun e w' => e = .returned (.bool (decide (MayP p))) ∧ Below w.heap.size w w' := by
  have hn := rpNone_any p (w.alloc (.cells (ptC p).toArray 33))
  have HB := Lib.hid ((Below.refl _ w).alloc (Nat.le_refl _) (.cells (ptC p).toArray 33))
  have HK := Lib.hid (show Blk (w.alloc (.cells (ptC p).toArray 33)) w.heap.size 33 (ptC p).toArray from Blk.new w _ _)
  obtain ⟨a, b, c, d, e⟩ := p
  by_cases h0 : eqP (a, b, c, d, e) p0 = true
  · have hm : decide (MayP (a, b, c, d, e)) = true := decide_eq_true (.inl ((eqP_iff _ _).1 h0))
    rw [hm]
    rw [h0] at hn
    have HN := Lib.hid hn
    clear hn hm h0
    go_enter Tryz.func45, Tryz.ntmps45
    go_wp2_with (go_at_call 53; refine HN.out.mono ?_; rintro ev w1 ⟨rfl, b1⟩; have HB1 := Lib.hid (HB.out.trans (b1.mono (by simp [ptC]))); clear b1)
    go_ret
    exact ⟨rfl, HB1.out⟩
  · have h0' : eqP (a, b, c, d, e) p0 = false := by simpa using h0
    rw [h0'] at hn
    have hne : (a, b, c, d, e) ≠ p0 := fun hh => h0 ((eqP_iff _ _).2 hh)
    have HN := Lib.hid hn
    clear hn
    by_cases g1 : 12 ≤ a
    · by_cases g2 : a < 256
      · by_cases g3 : 1 ≤ b
        · have hm : decide (MayP (a, b, c, d, e)) = decide (b ≤ 16777215) := by
            rw [decide_eq_decide]
            exact ⟨fun hh => (hh.resolve_left hne).2.2, fun hh => .inr ⟨⟨g1, g2⟩, g3, hh⟩⟩
          have hm2 : decide (b ≤ 16777215) = decide ((b : Int) ≤ 16777215) := by rw [decide_eq_decide]; omega
          rw [hm, hm2]
          have i1 : (1 : Int) ≤ (b : Int) := by omega
          clear hm hm2 h0 h0' hne
          go_enter Tryz.func45, Tryz.ntmps45
          go_wp2_with (go_at_call 53; refine HN.out.mono ?_; rintro ev w1 ⟨rfl, b1⟩; have HB1 := Lib.hid (HB.out.trans (b1.mono (by simp [ptC]))); obtain ⟨c0, c1, c2, c3, c4⟩ := (HK.out.below b1 HK.out.lt).five; clear b1)
          go_ret
          exact ⟨rfl, HB1.out⟩
        · have hm : decide (MayP (a, b, c, d, e)) = false := decide_eq_false fun hh => g3 (hh.resolve_left hne).2.1
          rw [hm]
          have i1 : ¬ (1 : Int) ≤ (b : Int) := by omega
          clear hm h0 h0' hne
          go_enter Tryz.func45, Tryz.ntmps45
          go_wp2_with (go_at_call 53; refine HN.out.mono ?_; rintro ev w1 ⟨rfl, b1⟩; have HB1 := Lib.hid (HB.out.trans (b1.mono (by simp [ptC]))); obtain ⟨c0, c1, c2, c3, c4⟩ := (HK.out.below b1 HK.out.lt).five; clear b1)
          go_ret
          exact ⟨rfl, HB1.out⟩
      · have hm : decide (MayP (a, b, c, d, e)) = false := decide_eq_false fun hh => g2 (hh.resolve_left hne).1.2
        rw [hm]
        clear hm h0 h0' hne
        go_enter Tryz.func45, Tryz.ntmps45
        go_wp2_with (go_at_call 53; refine HN.out.mono ?_; rintro ev w1 ⟨rfl, b1⟩; have HB1 := Lib.hid (HB.out.trans (b1.mono (by simp [ptC]))); obtain ⟨c0, c1, c2, c3, c4⟩ := (HK.out.below b1 HK.out.lt).five; clear b1)
        go_ret
        exact ⟨rfl, HB1.out⟩
    · have hm : decide (MayP (a, b, c, d, e)) = false := decide_eq_false fun hh => g1 (hh.resolve_left hne).1.1
      rw [hm]
      clear hm h0 h0' hne
      go_enter Tryz.func45, Tryz.ntmps45
      go_wp2_with (go_at_call 53; refine HN.out.mono ?_; rintro ev w1 ⟨rfl, b1⟩; have HB1 := Lib.hid (HB.out.trans (b1.mono (by simp [ptC]))); obtain ⟨c0, c1, c2, c3, c4⟩ := (HK.out.below b1 HK.out.lt).five; clear b1)
      go_ret
      exact ⟨rfl, HB1.out⟩
theorem leN_drop_cons (s : List UInt8) (i : Nat) (hi : i < s.length) : leN (s.drop i) = s[i].toNat + 256 * leN (s.drop (i + 1)) := by
  rw [List.drop_eq_getElem_cons hi, leN]
end Go.Proofs.YtdpmdlibgabjaaaGreat
/-
  The document's own Seen, Look, Opened and Open of layer 13.
-/
namespace Go.Proofs.YtdpmdlibgabjaaaGreat
open Go.RowKit Go.Shelf
set_option maxRecDepth 100000

/-- The cells of a pointer. -/
abbrev ptA (p : Pt) : Array Value := #[.int .i64 p.1, .int .u32 (p.2.1 : Int), .int .u32 (p.2.2.1 : Int), .int .u32 (p.2.2.2.1 : Int), .int .u32 (p.2.2.2.2 : Int)]
theorem outBE_no (c : Nat) {w w' : World} (hb : Below w.heap.size w w') : OutBE ([], c) w (.returned (.tuple #[.slice none 0 0, .int .i64 c])) w' := ⟨_, rfl, World.ownsRow_nil _ _ _ _, hb⟩
/-- Bytes that are read, and an error's number. -/
def OutBE' (o : List UInt8 × Nat) (w : World) (e : Ending) (w' : World) : Prop := ∃ a c, e = .returned (.tuple #[.slice a o.1.length c, .int .i64 o.2]) ∧ Bsl w' w'.heap.size a o.1.length c o.1 ∧ Below w.heap.size w w'
theorem outBE'_no (c : Nat) {w w' : World} (hb : Below w.heap.size w w') : OutBE' ([], c) w (.returned (.tuple #[.slice none 0 0, .int .i64 c])) w' := ⟨none, 0, rfl, bsl_nil w', hb⟩
theorem seenO_len {S : StL} {p : Pt} (hm : MayS S) (hp : MayP p) {B : List UInt8} (h : seenO S p = (B, 0)) : B.length = 256 := by
  unfold seenO at h
  split at h
  · cases h
  · rename_i hp0
    obtain ⟨k, h1, _, h2⟩ := mayP_at hp hp0
    split at h
    · cases h
      rw [show p.1.toNat = k by omega]
      exact leftD_length hm.1 _ h2
    · cases h
set_option maxHeartbeats 4000000 in
theorem rtSeen_any (L : Nat) (x : SAt) (S : StL) (p : Pt) (w : World) (h : StP L w x S) (hm : MayS S) (hmp : MayP p) (_hL : L ≤ w.heap.size) : Calls Tryz.prog 46 #[stV x S, ptV p] w (OutBE (seenO S p) w) := by
  have hmx : Tryz.prog.follows Departure.mixedOrders = true := by kernel_rfl
  obtain ⟨w0, hw0, b0, z0, x0, q0⟩ := two_al w (stC x S) (ptA p) 29 33
  obtain ⟨g, hg⟩ : ∃ g, w.heap.size = g := ⟨_, rfl⟩
  obtain ⟨g1, hg1⟩ : ∃ g1, g + 1 = g1 := ⟨_, rfl⟩
  have h0 := h.bel b0
  have hn := rpNone_any p w0
  rw [hg] at x0 q0 z0 b0
  rw [hg1] at q0
  have c0 := stC0 x0
  have c1 := stC1 x0
  have c2 := stC2 x0
  have c3 := stC3 x0
  have c4 := stC4 x0
  have d0 := bx0 q0
  have d1 := bx1 q0
  have d2 := bx2 q0
  have d3 := bx3 q0
  have d4 := bx4 q0
  have HX := Lib.hid x0
  have HQ := Lib.hid q0
  have HB := Lib.hid b0
  have HS := Lib.hid h0
  have HG := Lib.hid hg
  have HW := Lib.hid (show g ≤ w0.heap.size by omega)
  simp only [stC, ptA] at hw0
  clear h h0 x0 q0 b0 z0
  unfold seenO
  by_cases hp : p = p0
  · rw [if_pos hp]
    have he : eqP p p0 = true := (eqP_iff p p0).2 hp
    rw [he] at hn
    have HN := Lib.hid hn
    clear hn he hp hm hmp
    go_enter Tryz.func46, Tryz.ntmps46
    go_wp2_with fail
    clear c0 c1 c2 c3 c4 d0 d1 d2 d3 d4 hw0
    refine HN.out.mono ?_
    rintro e w1 ⟨rfl, b1⟩
    replace HX := Lib.hid (HX.out.below b1 HX.out.lt)
    replace HQ := Lib.hid (HQ.out.below b1 HQ.out.lt)
    replace HS := Lib.hid (HS.out.bel b1)
    replace HB := Lib.hid (HB.out.trans (b1.mono HW.out))
    replace HW := Lib.hid (Nat.le_trans HW.out b1.size)
    clear b1
    go_wp2_with fail
    go_ret2
    exact outBE_no 6 (by rw [HG.out]; exact HB.out)
  · rw [if_neg hp]
    have he : eqP p p0 = false := by
      cases hq : eqP p p0 with
      | false => rfl
      | true => exact absurd ((eqP_iff p p0).1 hq) hp
    rw [he] at hn
    have HN := Lib.hid hn
    obtain ⟨k, hk, k12, k256⟩ := mayP_at hmp hp
    have hkt : p.1.toNat = k := by omega
    rw [hkt]
    have hln := leftD_length hm.1 (fun _ => true) k256
    obtain ⟨B, hBk⟩ : ∃ B, seenS S k = B := ⟨_, rfl⟩
    have hln2 : B.length = 256 := by rw [← hBk]; exact hln
    rw [hBk]
    obtain ⟨O, hO⟩ : ∃ O, (if sumOf B = p.2.2.2.2 then (B, 0) else ([], 130) : List UInt8 × Nat) = O := ⟨_, rfl⟩
    rw [hO]
    have HOO := Lib.hid hO
    have hsn : ∀ W, StP L W x S → Calls Tryz.prog 85 #[dval x.d S.1, .int .i64 k] W (OwnS B W) := fun W hs => by
      have := rdSeen_any x.d S.1 k W hs.now.1 (by rw [hm.1.1.1]; exact k256) (by rw [hln]; omega)
      rw [show leftD S.1 (fun _ => true) k = B from hBk] at this
      exact this
    simp only [dval] at hsn
    have HSN := Lib.hid hsn
    have HL2 := Lib.hid hln2
    have HKK := Lib.hid hk
    clear hn he hp hm hmp hk hkt hln hsn hln2 hBk hO
    go_enter Tryz.func46, Tryz.ntmps46
    go_wp2_with fail
    clear c0 c1 c2 c3 c4 d0 d1 d2 d3 d4 hw0
    refine HN.out.mono ?_
    rintro e w1 ⟨rfl, b1⟩
    replace HX := Lib.hid (HX.out.below b1 HX.out.lt)
    replace HQ := Lib.hid (HQ.out.below b1 HQ.out.lt)
    replace HS := Lib.hid (HS.out.bel b1)
    replace HB := Lib.hid (HB.out.trans (b1.mono HW.out))
    replace HW := Lib.hid (Nat.le_trans HW.out b1.size)
    clear b1 HN
    have c0 := stC0 HX.out
    have c1 := stC1 HX.out
    have d0 := bx0 HQ.out
    rw [HKK.out] at d0
    go_wp2_with fail
    clear c0 c1 d0
    refine (HSN.out w1 HS.out).mono ?_
    rintro e w2 ⟨v, rfl, ho, b2⟩
    rw [HL2.out] at ho
    obtain ⟨ab, cb, rfl⟩ := own_slice ho
    have HO := Lib.hid ho
    replace HX := Lib.hid (HX.out.below b2 HX.out.lt)
    replace HQ := Lib.hid (HQ.out.below b2 HQ.out.lt)
    replace HS := Lib.hid (HS.out.bel b2)
    replace HB := Lib.hid (HB.out.trans (b2.mono HW.out))
    replace HW := Lib.hid (Nat.le_trans HW.out b2.size)
    clear b2 ho HSN
    go_wp2_with fail
    obtain ⟨wd, hwd⟩ : ∃ wd, w2.drew = wd := ⟨_, rfl⟩
    have bb : Below w2.heap.size w2 wd := by rw [← hwd]; exact (Below.refl _ w2).drew
    replace HO := Lib.hid (own_below HO.out bb)
    replace HX := Lib.hid (HX.out.below bb HX.out.lt)
    replace HQ := Lib.hid (HQ.out.below bb HQ.out.lt)
    replace HS := Lib.hid (HS.out.bel bb)
    replace HB := Lib.hid (HB.out.trans (bb.mono HW.out))
    replace HW := Lib.hid (Nat.le_trans HW.out bb.size)
    clear bb
    have HSU := Lib.hid (rsumOf_any ab 256 cb B wd (own_bsl HO.out) (by omega))
    have hc4 := bx4 HQ.out
    obtain ⟨u, hu⟩ : ∃ u : Nat, p.2.2.2.2 = u := ⟨_, rfl⟩
    obtain ⟨m, hmm⟩ : ∃ m : Nat, sumOf B = m := ⟨_, rfl⟩
    rw [hu] at hc4
    rw [hmm] at HSU
    have HO5 := HOO.out
    rw [hu, hmm] at HO5
    refine wpI_start (fun X => X.cell? ⟨g1, 4, none⟩ = some (.int .u32 (u : Int))) [0, 2, 3, 1, 4] hmx rfl hwd ?_
    clear hu hmm hwd
    have HO5' := Lib.hid HO5
    clear HO5
    iterate 3 (
      refine wpI_read (v := ?_) hc4 rfl (by kernel_rfl) (by kernel_rfl) (by kernel_rfl) (fun _ _ _ h => h) (.inl ⟨by rfl, ?_⟩) ?_
      rotate_left
      · intro X hX
        go_simp
        with_reducible rfl
      try simp only [Act.put, List.setIfInBounds_toArray, List.set_cons_zero, List.set_cons_succ])
    refine wpI_lone rfl (by kernel_rfl) (fun K hK => ?_)
    go_simp
    refine HSU.out.mono ?_
    rintro ev w3 ⟨rfl, b3⟩
    have hc5 : w3.cell? ⟨g1, 4, none⟩ = some (.int .u32 (u : Int)) := (b3.cell (p := ⟨g1, 4, none⟩) HQ.out.lt).trans hc4
    replace HO := Lib.hid (own_below HO.out b3)
    replace HX := Lib.hid (HX.out.below b3 HX.out.lt)
    replace HQ := Lib.hid (HQ.out.below b3 HQ.out.lt)
    replace HS := Lib.hid (HS.out.bel b3)
    replace HB := Lib.hid (HB.out.trans (b3.mono HW.out))
    replace HW := Lib.hid (Nat.le_trans HW.out b3.size)
    refine hK _ _ hc5 ?_
    clear hK K hc4 b3 HSU
    try simp only [Act.put, List.setIfInBounds_toArray, List.set_cons_zero, List.set_cons_succ]
    by_cases hmu : m = u
    · have HO5 := HO5'.out
      rw [if_pos hmu] at HO5
      subst HO5
      have he : ((m : Int) != (u : Int)) = false := by simp; omega
      clear hmu
      iterate 1 (
        refine wpI_read (v := ?_) hc5 rfl (by kernel_rfl) (by kernel_rfl) (by kernel_rfl) (fun _ _ _ h => h) (.inl ⟨by rfl, ?_⟩) ?_
        rotate_left
        · intro X hX
          go_simp
          with_reducible rfl
        try simp only [Act.put, List.setIfInBounds_toArray, List.set_cons_zero, List.set_cons_succ])
      refine wpI_done (by kernel_rfl) ?_
      have HO0 := Lib.hid (own_nil w3 w3.heap.size)
      have HRF := Lib.hid (Below.refl w3.heap.size w3)
      clear he hc5
      go_wp2_with (at_builtin
                   refine wpList_append_bsl rfl (.const (.slice none 0 0)) (.tmp 19) rfl w3.heap.size _ 0 _ rfl HO0.out _ ab 256 cb B rfl (own_bsl HO.out) (by omega) HRF.out.size ?_
                   intro v4 w4 ho4 hg4
                   rw [Nat.zero_add, List.nil_append] at ho4
                   have b4 := app_below HRF.out HO0.out hg4 HRF.out.size; clear hg4
                   have HO4 := Lib.hid (own_mono ho4 HW.out)
                   have HB4 := Lib.hid (HB.out.trans (b4.mono HW.out))
                   clear ho4 b4)
      go_ret2
      exact ⟨_, rfl, by rw [HG.out, HL2.out]; exact HO4.out, by rw [HG.out]; exact HB4.out⟩
    · have HO5 := HO5'.out
      rw [if_neg hmu] at HO5
      subst HO5
      have he : ((m : Int) != (u : Int)) = true := by simp; omega
      clear hmu
      iterate 1 (
        refine wpI_read (v := ?_) hc5 rfl (by kernel_rfl) (by kernel_rfl) (by kernel_rfl) (fun _ _ _ h => h) (.inl ⟨by rfl, ?_⟩) ?_
        rotate_left
        · intro X hX
          go_simp
          with_reducible rfl
        try simp only [Act.put, List.setIfInBounds_toArray, List.set_cons_zero, List.set_cons_succ])
      refine wpI_done (by kernel_rfl) ?_
      clear he hc5
      go_wp2_with fail
      go_ret2
      exact outBE_no 130 (by rw [HG.out]; exact HB.out)
set_option maxHeartbeats 4000000 in
theorem rtLook_any (L : Nat) (x : SAt) (S : StL) (p : Pt) (w : World) (h : StP L w x S) (hL : L ≤ w.heap.size) : Calls Tryz.prog 18 #[stV x S, ptV p] w (OutBE (lookO S p) w) := by
  obtain ⟨w0, hw0, b0, z0, x0, q0⟩ := two_al w (stC x S) (ptA p) 29 33
  obtain ⟨g, hg⟩ : ∃ g, w.heap.size = g := ⟨_, rfl⟩
  obtain ⟨g1, hg1⟩ : ∃ g1, g + 1 = g1 := ⟨_, rfl⟩
  have h0 := h.bel b0
  rw [hg] at x0 q0 z0 b0
  rw [hg1] at q0
  have c0 := stC0 x0
  have c1 := stC1 x0
  have c2 := stC2 x0
  have c3 := stC3 x0
  have c4 := stC4 x0
  have d0 := bx0 q0
  have d1 := bx1 q0
  have d2 := bx2 q0
  have d3 := bx3 q0
  have d4 := bx4 q0
  have HX := Lib.hid x0
  have HQ := Lib.hid q0
  have HB := Lib.hid b0
  have HS := Lib.hid h0
  have HG := Lib.hid hg
  have HW := Lib.hid (show g ≤ w0.heap.size by omega)
  simp only [stC, ptA] at hw0
  clear h h0 x0 q0 b0 z0
  have hpm : ∀ W, Calls Tryz.prog 45 #[ptV p] W fun e w' => e = .returned (.bool (decide (MayP p))) ∧ Below W.heap.size W w' := fun W => rpMay_any p W
  unfold lookO
  by_cases hm : MayS S ∧ MayP p
  · rw [if_pos hm]
    rw [decide_eq_true hm.2] at hpm
    have HPM := Lib.hid hpm
    have HM := Lib.hid (rtMay_any L x S w0 HS.out true ⟨fun _ => hm.1, fun _ => rfl⟩)
    have HP := Lib.hid fun W (hs : StP L W x S)  hl => rtSeen_any L x S p  W hs hm.1 hm.2 hl
    obtain ⟨O, hO⟩ : ∃ O, seenO S p = O := ⟨_, rfl⟩
    rw [hO] at HP ⊢
    have HLL := Lib.hid (show L ≤ g by omega)
    clear hm hpm hO
    go_enter Tryz.func18, Tryz.ntmps18
    go_wp2_with fail
    clear c0 c1 c2 c3 c4 d0 d1 d2 d3 d4 hw0
    refine HM.out.mono ?_
    rintro e w1 ⟨rfl, b1⟩
    replace HX := Lib.hid (HX.out.below b1 HX.out.lt)
    replace HQ := Lib.hid (HQ.out.below b1 HQ.out.lt)
    replace HS := Lib.hid (HS.out.bel b1)
    replace HB := Lib.hid (HB.out.trans (b1.mono HW.out))
    replace HW := Lib.hid (Nat.le_trans HW.out b1.size)
    clear b1 HM
    have d0 := bx0 HQ.out
    have d1 := bx1 HQ.out
    have d2 := bx2 HQ.out
    have d3 := bx3 HQ.out
    have d4 := bx4 HQ.out
    go_wp2_with fail
    clear d0 d1 d2 d3 d4
    refine (HPM.out w1).mono ?_
    rintro e w2 ⟨rfl, b2⟩
    replace HX := Lib.hid (HX.out.below b2 HX.out.lt)
    replace HQ := Lib.hid (HQ.out.below b2 HQ.out.lt)
    replace HS := Lib.hid (HS.out.bel b2)
    replace HB := Lib.hid (HB.out.trans (b2.mono HW.out))
    replace HW := Lib.hid (Nat.le_trans HW.out b2.size)
    clear b2 HPM
    have c0 := stC0 HX.out
    have c1 := stC1 HX.out
    have c2 := stC2 HX.out
    have c3 := stC3 HX.out
    have c4 := stC4 HX.out
    have d0 := bx0 HQ.out
    have d1 := bx1 HQ.out
    have d2 := bx2 HQ.out
    have d3 := bx3 HQ.out
    have d4 := bx4 HQ.out
    go_wp2_with fail
    clear c0 c1 c2 c3 c4 d0 d1 d2 d3 d4
    refine (HP.out w2 HS.out (Nat.le_trans HLL.out HW.out)).mono ?_
    rintro e w3 ⟨v, rfl, ho, b3⟩
    obtain ⟨av, cv, rfl⟩ := own_slice ho
    have HO := Lib.hid (own_mono ho HW.out)
    replace HB := Lib.hid (HB.out.trans (b3.mono HW.out))
    clear ho b3
    go_wp2_with fail
    go_ret2
    exact ⟨_, rfl, by rw [HG.out]; exact HO.out, by rw [HG.out]; exact HB.out⟩
  · rw [if_neg hm]
    by_cases h1 : MayS S
    · have h2 : ¬ MayP p := fun h => hm ⟨h1, h⟩
      rw [decide_eq_false h2] at hpm
      have HPM := Lib.hid hpm
      have HM := Lib.hid (rtMay_any L x S w0 HS.out true ⟨fun _ => h1, fun _ => rfl⟩)
      clear hm h1 h2 hpm
      go_enter Tryz.func18, Tryz.ntmps18
      go_wp2_with fail
      clear c0 c1 c2 c3 c4 d0 d1 d2 d3 d4 hw0
      refine HM.out.mono ?_
      rintro e w1 ⟨rfl, b1⟩
      replace HX := Lib.hid (HX.out.below b1 HX.out.lt)
      replace HQ := Lib.hid (HQ.out.below b1 HQ.out.lt)
      replace HS := Lib.hid (HS.out.bel b1)
      replace HB := Lib.hid (HB.out.trans (b1.mono HW.out))
      replace HW := Lib.hid (Nat.le_trans HW.out b1.size)
      clear b1 HM
      have d0 := bx0 HQ.out
      have d1 := bx1 HQ.out
      have d2 := bx2 HQ.out
      have d3 := bx3 HQ.out
      have d4 := bx4 HQ.out
      go_wp2_with fail
      clear d0 d1 d2 d3 d4
      refine (HPM.out w1).mono ?_
      rintro e w2 ⟨rfl, b2⟩
      replace HX := Lib.hid (HX.out.below b2 HX.out.lt)
      replace HQ := Lib.hid (HQ.out.below b2 HQ.out.lt)
      replace HS := Lib.hid (HS.out.bel b2)
      replace HB := Lib.hid (HB.out.trans (b2.mono HW.out))
      replace HW := Lib.hid (Nat.le_trans HW.out b2.size)
      clear b2 HPM
      go_wp2_with fail
      go_ret2
      exact outBE_no 8 (by rw [HG.out]; exact HB.out)
    · have HM := Lib.hid (rtMay_any L x S w0 HS.out false ⟨fun h => (by cases h), fun h => absurd h h1⟩)
      clear hm h1 hpm
      go_enter Tryz.func18, Tryz.ntmps18
      go_wp2_with fail
      clear c0 c1 c2 c3 c4 d0 d1 d2 d3 d4 hw0
      refine HM.out.mono ?_
      rintro e w1 ⟨rfl, b1⟩
      replace HX := Lib.hid (HX.out.below b1 HX.out.lt)
      replace HQ := Lib.hid (HQ.out.below b1 HQ.out.lt)
      replace HS := Lib.hid (HS.out.bel b1)
      replace HB := Lib.hid (HB.out.trans (b1.mono HW.out))
      replace HW := Lib.hid (Nat.le_trans HW.out b1.size)
      clear b1 HM
      go_wp2_with fail
      go_ret2
      exact outBE_no 8 (by rw [HG.out]; exact HB.out)
set_option maxHeartbeats 4000000 in
theorem rtOpened_any (L : Nat) (x : SAt) (S : StL) (p : Pt) (ka : Option Addr) (kc : Nat) (key : List UInt8) (w : World) (h : StP L w x S) (hk : Bsl w w.heap.size ka key.length kc key) (hm : MayS S) (hmp : MayP p) (hw : WfP p) (hL : L ≤ w.heap.size) : Calls Tryz.prog 49 #[stV x S, ptV p, .slice ka key.length kc] w (OutBE' (openedO S p key) w) := by
  obtain ⟨w0, hw0, b0, z0, x0, q0⟩ := two_al w (stC x S) (ptA p) 29 33
  obtain ⟨g, hg⟩ : ∃ g, w.heap.size = g := ⟨_, rfl⟩
  obtain ⟨g1, hg1⟩ : ∃ g1, g + 1 = g1 := ⟨_, rfl⟩
  have h0 := h.bel b0
  have hk0 := (bsl_lasts hk (Nat.le_refl _)).bel b0
  rw [hg] at hk0
  rw [hg] at x0 q0 z0 b0
  rw [hg1] at q0
  have c0 := stC0 x0
  have c1 := stC1 x0
  have c2 := stC2 x0
  have c3 := stC3 x0
  have c4 := stC4 x0
  have d0 := bx0 q0
  have d1 := bx1 q0
  have d2 := bx2 q0
  have d3 := bx3 q0
  have d4 := bx4 q0
  have HX := Lib.hid x0
  have HQ := Lib.hid q0
  have HB := Lib.hid b0
  have HS := Lib.hid h0
  have HG := Lib.hid hg
  have HW := Lib.hid (show g ≤ w0.heap.size by omega)
  simp only [stC, ptA] at hw0
  clear h h0 x0 q0 b0 z0
  have HKY := Lib.hid hk0
  have lk := hk0.now.len_le
  have hsn := rtSeen_any L x S p w0 HS.out hm hmp (Nat.le_trans (by omega) HW.out)
  obtain ⟨O, hO⟩ : ∃ O, openedO S p key = O := ⟨_, rfl⟩
  rw [hO]
  unfold openedO at hO
  obtain ⟨O1, hO1⟩ : ∃ O1, seenO S p = O1 := ⟨_, rfl⟩
  rw [hO1] at hO hsn
  obtain ⟨B, er⟩ := O1
  simp only at hO
  have HSN := Lib.hid hsn
  have hln : er = 0 → B.length = 256 := fun e => seenO_len hm hmp (by rw [hO1, e])
  have HLN := Lib.hid hln
  have HWP := Lib.hid hw
  clear hk hk0 hsn hO1 hln hm hmp hw
  by_cases h1 : er = 0
  · rw [if_neg (by omega)] at hO
    have k1 : ((er : Int) != 0) = false := by simp; omega
    have hBl := HLN.out h1
    clear h1
    by_cases h2 : key.length = 16
    · rw [if_neg (by omega)] at hO
      have k2 : ((key.length : Int) != 16) = false := by simp; omega
      obtain ⟨t, ht⟩ : ∃ t : BitVec 32, t.toNat = p.2.2.2.1 := ⟨BitVec.ofNat 32 p.2.2.2.1, by rw [BitVec.toNat_ofNat]; have := HWP.out.2.2.2.1; omega⟩
      have HT := Lib.hid ht
      have H2 := Lib.hid h2
      have HBL := Lib.hid hBl
      by_cases h3 : sealW key p.2.2.1 B = t
      · rw [if_pos (by rw [h3, ht])] at hO
        have HO := Lib.hid hO
        have H3 := Lib.hid h3
        clear hO h3 h2 hBl ht
        go_enter Tryz.func49, Tryz.ntmps49
        go_wp2_with fail
        clear c0 c1 c2 c3 c4 d0 d1 d2 d3 d4 hw0
        refine HSN.out.mono ?_
        rintro e w1 ⟨v, rfl, ho, b1⟩
        obtain ⟨ab, cb, rfl⟩ := own_slice ho
        have HB5 := Lib.hid (own_bsl ho)
        replace HX := Lib.hid (HX.out.below b1 HX.out.lt)
        replace HQ := Lib.hid (HQ.out.below b1 HQ.out.lt)
        replace HS := Lib.hid (HS.out.bel b1)
        replace HKY := Lib.hid (HKY.out.bel b1)
        replace HB := Lib.hid (HB.out.trans (b1.mono HW.out))
        replace HW := Lib.hid (Nat.le_trans HW.out b1.size)
        clear b1 HSN ho
        have d2 := bx2 HQ.out
        have d3 := bx3 HQ.out
        have hop := rOpen_ok ka kc key p.2.2.1 HWP.out.2.2.1 ab 256 cb B (by omega) w1 (by have := HKY.out.now; rw [H2.out] at this; exact this) (by have := HB5.out; rw [HBL.out] at this; exact this)
        rw [H3.out, HT.out, ← H2.out, ← HBL.out] at hop
        have HOP := Lib.hid hop
        clear hop
        go_wp2_with fail
        clear d2 d3
        refine HOP.out.mono ?_
        rintro e w2 ⟨a2, c2, rfl, hb2, b2⟩
        have HB2 := Lib.hid hb2
        replace HB := Lib.hid (HB.out.trans (b2.mono HW.out))
        clear hb2 b2 HOP
        go_wp2_with fail
        go_ret2
        rw [← HO.out]
        exact ⟨a2, c2, by simp only [turnW'_length]; rfl, by simp only [turnW'_length]; exact HB2.out, by rw [HG.out]; exact HB.out⟩
      · rw [if_neg (fun e => h3 (BitVec.eq_of_toNat_eq (by rw [e, ht])))] at hO
        have H3 := Lib.hid h3
        subst hO
        clear h3 h2 hBl ht
        go_enter Tryz.func49, Tryz.ntmps49
        go_wp2_with fail
        clear c0 c1 c2 c3 c4 d0 d1 d2 d3 d4 hw0
        refine HSN.out.mono ?_
        rintro e w1 ⟨v, rfl, ho, b1⟩
        obtain ⟨ab, cb, rfl⟩ := own_slice ho
        have HB5 := Lib.hid (own_bsl ho)
        replace HX := Lib.hid (HX.out.below b1 HX.out.lt)
        replace HQ := Lib.hid (HQ.out.below b1 HQ.out.lt)
        replace HS := Lib.hid (HS.out.bel b1)
        replace HKY := Lib.hid (HKY.out.bel b1)
        replace HB := Lib.hid (HB.out.trans (b1.mono HW.out))
        replace HW := Lib.hid (Nat.le_trans HW.out b1.size)
        clear b1 HSN ho
        have d2 := bx2 HQ.out
        have d3 := bx3 HQ.out
        have hop := rOpen_tag ka kc key p.2.2.1 HWP.out.2.2.1 ab 256 cb B (by omega) t H3.out w1 (by have := HKY.out.now; rw [H2.out] at this; exact this) (by have := HB5.out; rw [HBL.out] at this; exact this)
        rw [HT.out, ← H2.out, ← HBL.out] at hop
        have HOP := Lib.hid hop
        clear hop
        go_wp2_with fail
        clear d2 d3
        refine HOP.out.mono ?_
        rintro e w2 ⟨a2, c2, rfl, hb2, b2⟩
        replace HB := Lib.hid (HB.out.trans (b2.mono HW.out))
        clear hb2 b2 HOP
        go_wp2_with fail
        go_ret2
        exact outBE'_no 131 (by rw [HG.out]; exact HB.out)
    · rw [if_pos h2] at hO
      have k2 : ((key.length : Int) != 16) = true := by simp; omega
      subst hO
      clear h2 hBl
      go_enter Tryz.func49, Tryz.ntmps49
      go_wp2_with fail
      clear c0 c1 c2 c3 c4 d0 d1 d2 d3 d4 hw0
      refine HSN.out.mono ?_
      rintro e w1 ⟨v, rfl, ho, b1⟩
      obtain ⟨ab, cb, rfl⟩ := own_slice ho
      replace HX := Lib.hid (HX.out.below b1 HX.out.lt)
      replace HQ := Lib.hid (HQ.out.below b1 HQ.out.lt)
      replace HS := Lib.hid (HS.out.bel b1)
      replace HKY := Lib.hid (HKY.out.bel b1)
      replace HB := Lib.hid (HB.out.trans (b1.mono HW.out))
      replace HW := Lib.hid (Nat.le_trans HW.out b1.size)
      clear b1 HSN ho
      go_wp2_with fail
      go_ret2
      exact outBE'_no 3 (by rw [HG.out]; exact HB.out)
  · rw [if_pos h1] at hO
    have k1 : ((er : Int) != 0) = true := by simp; omega
    subst hO
    clear h1
    go_enter Tryz.func49, Tryz.ntmps49
    go_wp2_with fail
    clear c0 c1 c2 c3 c4 d0 d1 d2 d3 d4 hw0
    refine HSN.out.mono ?_
    rintro e w1 ⟨v, rfl, ho, b1⟩
    obtain ⟨ab, cb, rfl⟩ := own_slice ho
    replace HX := Lib.hid (HX.out.below b1 HX.out.lt)
    replace HQ := Lib.hid (HQ.out.below b1 HQ.out.lt)
    replace HS := Lib.hid (HS.out.bel b1)
    replace HKY := Lib.hid (HKY.out.bel b1)
    replace HB := Lib.hid (HB.out.trans (b1.mono HW.out))
    replace HW := Lib.hid (Nat.le_trans HW.out b1.size)
    clear b1 HSN ho
    go_wp2_with fail
    go_ret2
    exact outBE'_no er (by rw [HG.out]; exact HB.out)
set_option maxHeartbeats 4000000 in
theorem rtOpen_any (L : Nat) (x : SAt) (S : StL) (p : Pt) (ka : Option Addr) (kc : Nat) (key : List UInt8) (w : World) (h : StP L w x S) (hk : Bsl w w.heap.size ka key.length kc key) (hwp : WfP p) (hL : L ≤ w.heap.size) : Calls Tryz.prog 20 #[stV x S, ptV p, .slice ka key.length kc] w (OutBE' (openO S p key) w) := by
  obtain ⟨w0, hw0, b0, z0, x0, q0⟩ := two_al w (stC x S) (ptA p) 29 33
  obtain ⟨g, hg⟩ : ∃ g, w.heap.size = g := ⟨_, rfl⟩
  obtain ⟨g1, hg1⟩ : ∃ g1, g + 1 = g1 := ⟨_, rfl⟩
  have h0 := h.bel b0
  have hk0 := (bsl_lasts hk (Nat.le_refl _)).bel b0
  rw [hg] at hk0
  have HKY := Lib.hid hk0
  clear hk hk0
  rw [hg] at x0 q0 z0 b0
  rw [hg1] at q0
  have c0 := stC0 x0
  have c1 := stC1 x0
  have c2 := stC2 x0
  have c3 := stC3 x0
  have c4 := stC4 x0
  have d0 := bx0 q0
  have d1 := bx1 q0
  have d2 := bx2 q0
  have d3 := bx3 q0
  have d4 := bx4 q0
  have HX := Lib.hid x0
  have HQ := Lib.hid q0
  have HB := Lib.hid b0
  have HS := Lib.hid h0
  have HG := Lib.hid hg
  have HW := Lib.hid (show g ≤ w0.heap.size by omega)
  simp only [stC, ptA] at hw0
  clear h h0 x0 q0 b0 z0
  have hpm : ∀ W, Calls Tryz.prog 45 #[ptV p] W fun e w' => e = .returned (.bool (decide (MayP p))) ∧ Below W.heap.size W w' := fun W => rpMay_any p W
  unfold openO
  by_cases hm : MayS S ∧ MayP p
  · rw [if_pos hm]
    rw [decide_eq_true hm.2] at hpm
    have HPM := Lib.hid hpm
    have HM := Lib.hid (rtMay_any L x S w0 HS.out true ⟨fun _ => hm.1, fun _ => rfl⟩)
    have HP := Lib.hid fun W (hs : StP L W x S) (hkk : Bsl W W.heap.size ka key.length kc key) hl => rtOpened_any L x S p ka kc key W hs hkk hm.1 hm.2 hwp hl
    obtain ⟨O, hO⟩ : ∃ O, openedO S p key = O := ⟨_, rfl⟩
    rw [hO] at HP ⊢
    have HLL := Lib.hid (show L ≤ g by omega)
    clear hm hpm hO
    go_enter Tryz.func20, Tryz.ntmps20
    go_wp2_with fail
    clear c0 c1 c2 c3 c4 d0 d1 d2 d3 d4 hw0
    refine HM.out.mono ?_
    rintro e w1 ⟨rfl, b1⟩
    replace HX := Lib.hid (HX.out.below b1 HX.out.lt)
    replace HQ := Lib.hid (HQ.out.below b1 HQ.out.lt)
    replace HS := Lib.hid (HS.out.bel b1)
    replace HKY := Lib.hid (HKY.out.bel b1)
    replace HB := Lib.hid (HB.out.trans (b1.mono HW.out))
    replace HW := Lib.hid (Nat.le_trans HW.out b1.size)
    clear b1 HM
    have d0 := bx0 HQ.out
    have d1 := bx1 HQ.out
    have d2 := bx2 HQ.out
    have d3 := bx3 HQ.out
    have d4 := bx4 HQ.out
    go_wp2_with fail
    clear d0 d1 d2 d3 d4
    refine (HPM.out w1).mono ?_
    rintro e w2 ⟨rfl, b2⟩
    replace HX := Lib.hid (HX.out.below b2 HX.out.lt)
    replace HQ := Lib.hid (HQ.out.below b2 HQ.out.lt)
    replace HS := Lib.hid (HS.out.bel b2)
    replace HKY := Lib.hid (HKY.out.bel b2)
    replace HB := Lib.hid (HB.out.trans (b2.mono HW.out))
    replace HW := Lib.hid (Nat.le_trans HW.out b2.size)
    clear b2 HPM
    have c0 := stC0 HX.out
    have c1 := stC1 HX.out
    have c2 := stC2 HX.out
    have c3 := stC3 HX.out
    have c4 := stC4 HX.out
    have d0 := bx0 HQ.out
    have d1 := bx1 HQ.out
    have d2 := bx2 HQ.out
    have d3 := bx3 HQ.out
    have d4 := bx4 HQ.out
    go_wp2_with fail
    clear c0 c1 c2 c3 c4 d0 d1 d2 d3 d4
    refine (HP.out w2 HS.out HKY.out.now (Nat.le_trans HLL.out HW.out)).mono ?_
    rintro e w3 ⟨av, cv, rfl, ho, b3⟩
    have HO := Lib.hid ho
    replace HB := Lib.hid (HB.out.trans (b3.mono HW.out))
    clear ho b3
    go_wp2_with fail
    go_ret2
    exact ⟨_, _, rfl, HO.out, by rw [HG.out]; exact HB.out⟩
  · rw [if_neg hm]
    by_cases h1 : MayS S
    · have h2 : ¬ MayP p := fun h => hm ⟨h1, h⟩
      rw [decide_eq_false h2] at hpm
      have HPM := Lib.hid hpm
      have HM := Lib.hid (rtMay_any L x S w0 HS.out true ⟨fun _ => h1, fun _ => rfl⟩)
      clear hm h1 h2 hpm
      go_enter Tryz.func20, Tryz.ntmps20
      go_wp2_with fail
      clear c0 c1 c2 c3 c4 d0 d1 d2 d3 d4 hw0
      refine HM.out.mono ?_
      rintro e w1 ⟨rfl, b1⟩
      replace HX := Lib.hid (HX.out.below b1 HX.out.lt)
      replace HQ := Lib.hid (HQ.out.below b1 HQ.out.lt)
      replace HS := Lib.hid (HS.out.bel b1)
      replace HKY := Lib.hid (HKY.out.bel b1)
      replace HB := Lib.hid (HB.out.trans (b1.mono HW.out))
      replace HW := Lib.hid (Nat.le_trans HW.out b1.size)
      clear b1 HM
      have d0 := bx0 HQ.out
      have d1 := bx1 HQ.out
      have d2 := bx2 HQ.out
      have d3 := bx3 HQ.out
      have d4 := bx4 HQ.out
      go_wp2_with fail
      clear d0 d1 d2 d3 d4
      refine (HPM.out w1).mono ?_
      rintro e w2 ⟨rfl, b2⟩
      replace HX := Lib.hid (HX.out.below b2 HX.out.lt)
      replace HQ := Lib.hid (HQ.out.below b2 HQ.out.lt)
      replace HS := Lib.hid (HS.out.bel b2)
      replace HKY := Lib.hid (HKY.out.bel b2)
      replace HB := Lib.hid (HB.out.trans (b2.mono HW.out))
      replace HW := Lib.hid (Nat.le_trans HW.out b2.size)
      clear b2 HPM
      go_wp2_with fail
      go_ret2
      exact outBE'_no 8 (by rw [HG.out]; exact HB.out)
    · have HM := Lib.hid (rtMay_any L x S w0 HS.out false ⟨fun h => (by cases h), fun h => absurd h h1⟩)
      clear hm h1 hpm
      go_enter Tryz.func20, Tryz.ntmps20
      go_wp2_with fail
      clear c0 c1 c2 c3 c4 d0 d1 d2 d3 d4 hw0
      refine HM.out.mono ?_
      rintro e w1 ⟨rfl, b1⟩
      replace HX := Lib.hid (HX.out.below b1 HX.out.lt)
      replace HQ := Lib.hid (HQ.out.below b1 HQ.out.lt)
      replace HS := Lib.hid (HS.out.bel b1)
      replace HKY := Lib.hid (HKY.out.bel b1)
      replace HB := Lib.hid (HB.out.trans (b1.mono HW.out))
      replace HW := Lib.hid (Nat.le_trans HW.out b1.size)
      clear b1 HM
      go_wp2_with fail
      go_ret2
      exact outBE'_no 8 (by rw [HG.out]; exact HB.out)
end Go.Proofs.YtdpmdlibgabjaaaGreat
/-
  Store's own: wrong, wrongToSeal, wrongPtr, with; nothing that was there is written.
-/
namespace Go.Proofs.YtdpmdlibgabjaaaGreat
open Go.RowKit Go.Shelf
set_option maxRecDepth 100000

/-- What is wrong with a store, a birth and a text's length. -/
noncomputable def wrongO (S : StL) (birth n : Nat) : Nat := open Classical in if MayS S then if 1 ≤ birth ∧ birth ≤ 16777215 then if n = 256 then 0 else 3 else 2 else 8
/-- What is wrong with a key's length, or a store's count. -/
def wrongKO (S : StL) (n : Nat) : Nat := if n = 16 then if S.2.2.2 = 65535 then 132 else 0 else 3
/-- What is wrong with a store or a pointer. -/
noncomputable def wrongPO (S : StL) (p : Pt) : Nat := open Classical in if MayS S ∧ MayP p then if p = p0 then 6 else 0 else 8
set_option maxHeartbeats 1000000 in
theorem stWrong_any (L : Nat) (x : SAt) (S : StL) (birth : Nat) (a : Option Addr) (n c : Nat) (w : World) (h : StP L w x S) (z : Nat) (hz : wrongO S birth n = z) : Calls Tryz.prog 34 #[stV x S, .int .u32 (birth : Int), .slice a n c] w fun e w' => e = .returned (.int .i64 (z : Int)) ∧ Below w.heap.size w w' := by
  obtain ⟨xb, b0⟩ := st_box w x S
  obtain ⟨w0, hw0⟩ : ∃ w0, w.alloc (.cells (stC x S) 29) = w0 := ⟨_, rfl⟩
  rw [hw0] at xb b0
  have c0 := stC0 xb
  have c1 := stC1 xb
  have c2 := stC2 xb
  have c3 := stC3 xb
  have c4 := stC4 xb
  have HB := Lib.hid b0
  have HMY := fun R hR => stMayBe_any L x S w0 (h.bel b0) R hR
  simp only [stC] at hw0
  clear h xb b0
  unfold wrongO at hz
  by_cases hm : MayS S
  · rw [if_pos hm] at hz
    have HM := Lib.hid (HMY true ⟨fun _ => hm, fun _ => rfl⟩)
    clear HMY hm
    by_cases hb : 1 ≤ birth ∧ birth ≤ 16777215
    · rw [if_pos hb] at hz
      have HU := Lib.hid (fun W => stUpTo_any birth 16777215 true ⟨fun _ => ⟨hb.1, by omega⟩, fun _ => rfl⟩ W)
      clear hb
      by_cases hn : n = 256
      · rw [if_pos hn] at hz
        have e1 : ((n : Int) != 256) = false := by simp; omega
        subst hz
        clear hn
        go_enter Tryz.func34, Tryz.ntmps34
        go_wp2_with fail
        refine HM.out.mono ?_
        rintro e w1 ⟨rfl, b1⟩
        have HB1 := Lib.hid (HB.out.trans (b1.mono HB.out.size))
        clear b1 c0 c1 c2 c3 c4
        go_wp2_with fail
        refine (HU.out w1).mono ?_
        rintro e w2 ⟨rfl, rfl⟩
        go_wp2_with fail
        go_ret
        exact ⟨rfl, HB1.out⟩
      · rw [if_neg hn] at hz
        have e1 : ((n : Int) != 256) = true := by simp; omega
        subst hz
        clear hn
        go_enter Tryz.func34, Tryz.ntmps34
        go_wp2_with fail
        refine HM.out.mono ?_
        rintro e w1 ⟨rfl, b1⟩
        have HB1 := Lib.hid (HB.out.trans (b1.mono HB.out.size))
        clear b1 c0 c1 c2 c3 c4
        go_wp2_with fail
        refine (HU.out w1).mono ?_
        rintro e w2 ⟨rfl, rfl⟩
        go_wp2_with fail
        go_ret
        exact ⟨rfl, HB1.out⟩
    · rw [if_neg hb] at hz
      have HU := Lib.hid (fun W => stUpTo_any birth 16777215 false ⟨fun h => (by cases h), fun h => absurd (show 1 ≤ birth ∧ birth ≤ 16777215 by omega) hb⟩ W)
      subst hz
      clear hb
      go_enter Tryz.func34, Tryz.ntmps34
      go_wp2_with fail
      refine HM.out.mono ?_
      rintro e w1 ⟨rfl, b1⟩
      have HB1 := Lib.hid (HB.out.trans (b1.mono HB.out.size))
      clear b1 c0 c1 c2 c3 c4
      go_wp2_with fail
      refine (HU.out w1).mono ?_
      rintro e w2 ⟨rfl, rfl⟩
      go_wp2_with fail
      go_ret
      exact ⟨rfl, HB1.out⟩
  · rw [if_neg hm] at hz
    have HM := Lib.hid (HMY false ⟨fun h => (by cases h), fun h => absurd h hm⟩)
    subst hz
    clear HMY hm
    go_enter Tryz.func34, Tryz.ntmps34
    go_wp2_with fail
    refine HM.out.mono ?_
    rintro e w1 ⟨rfl, b1⟩
    have HB1 := Lib.hid (HB.out.trans (b1.mono HB.out.size))
    clear b1 c0 c1 c2 c3 c4
    go_wp2_with fail
    go_ret
    exact ⟨rfl, HB1.out⟩
theorem stWrongKey_any (x : SAt) (S : StL) (ka : Option Addr) (n kc : Nat) (w : World) (z : Nat) (hz : wrongKO S n = z) : Calls Tryz.prog 36 #[stV x S, .slice ka n kc] w fun e w' => e = .returned (.int .i64 (z : Int)) ∧ Below w.heap.size w w' := by
  obtain ⟨xb, b0⟩ := st_box w x S
  obtain ⟨w0, hw0⟩ : ∃ w0, w.alloc (.cells (stC x S) 29) = w0 := ⟨_, rfl⟩
  rw [hw0] at xb b0
  have c0 := stC0 xb
  have c1 := stC1 xb
  have c2 := stC2 xb
  have c3 := stC3 xb
  have c4 := stC4 xb
  have HB := Lib.hid b0
  have HK' := fun W => stIsKey_any ka n kc W
  simp only [stC] at hw0
  clear xb b0
  unfold wrongKO at hz
  by_cases hn : n = 16
  · rw [if_pos hn] at hz
    rw [decide_eq_true hn] at HK'
    have HK := Lib.hid HK'
    clear HK' hn
    by_cases hs : S.2.2.2 = 65535
    · rw [if_pos hs] at hz
      have e1 : ((S.2.2.2 : Int) == 65535) = true := by simp; omega
      subst hz
      clear hs
      go_enter Tryz.func36, Tryz.ntmps36
      go_wp2_with fail
      refine (HK.out w0).mono ?_
      rintro e w1 ⟨rfl, rfl⟩
      go_wp2_with fail
      go_ret
      exact ⟨rfl, HB.out⟩
    · rw [if_neg hs] at hz
      have e1 : ((S.2.2.2 : Int) == 65535) = false := by simp; omega
      subst hz
      clear hs
      go_enter Tryz.func36, Tryz.ntmps36
      go_wp2_with fail
      refine (HK.out w0).mono ?_
      rintro e w1 ⟨rfl, rfl⟩
      go_wp2_with fail
      go_ret
      exact ⟨rfl, HB.out⟩
  · rw [if_neg hn] at hz
    rw [decide_eq_false hn] at HK'
    have HK := Lib.hid HK'
    subst hz
    clear HK' hn
    go_enter Tryz.func36, Tryz.ntmps36
    go_wp2_with fail
    refine (HK.out w0).mono ?_
    rintro e w1 ⟨rfl, rfl⟩
    go_wp2_with fail
    go_ret
    exact ⟨rfl, HB.out⟩
set_option maxHeartbeats 1000000 in
theorem stWrongPtr_any (L : Nat) (x : SAt) (S : StL) (p : Pt) (w : World) (h : StP L w x S) (z : Nat) (hz : wrongPO S p = z) : Calls Tryz.prog 42 #[stV x S, ptV p] w fun e w' => e = .returned (.int .i64 (z : Int)) ∧ Below w.heap.size w w' := by
  obtain ⟨w0, hw0, b0, z0, x0, q0⟩ := two_al w (stC x S) (ptA p) 29 33
  have h0 := h.bel b0
  have c0 := stC0 x0
  have c1 := stC1 x0
  have c2 := stC2 x0
  have c3 := stC3 x0
  have c4 := stC4 x0
  have d0 := bx0 q0
  have d1 := bx1 q0
  have d2 := bx2 q0
  have d3 := bx3 q0
  have d4 := bx4 q0
  have HQ := Lib.hid q0
  have HB := Lib.hid b0
  have HMY := fun R hR => stMayBe_any L x S w0 h0 R hR
  have hpm := fun W => Check_any p W
  simp only [stC, ptA] at hw0
  clear h h0 x0 q0 b0 z0
  unfold wrongPO at hz
  by_cases hms : MayS S
  · have HM := Lib.hid (HMY true ⟨fun _ => hms, fun _ => rfl⟩)
    clear HMY
    by_cases hmp : MayP p
    · rw [if_pos ⟨hms, hmp⟩] at hz
      rw [show pcheckO p = 0 by unfold pcheckO; rw [if_pos hmp]] at hpm
      have HC := Lib.hid hpm
      clear hpm hms hmp
      by_cases hp : p = p0
      · rw [if_pos hp] at hz
        have he : eqP p p0 = true := (eqP_iff p p0).2 hp
        subst hz
        clear hp
        obtain ⟨pa, pb, pc, pd, pe⟩ := p
        have heq := eqPt_zero pa pb pc pd pe
        rw [he] at heq
        clear he
        go_enter Tryz.func42, Tryz.ntmps42
        go_wp2_with fail
        refine HM.out.mono ?_
        rintro e w1 ⟨rfl, b1⟩
        replace HQ := Lib.hid (HQ.out.below b1 HQ.out.lt)
        replace HB := Lib.hid (HB.out.trans (b1.mono HB.out.size))
        clear b1 c0 c1 c2 c3 c4 d0 d1 d2 d3 d4
        have d0 := bx0 HQ.out
        have d1 := bx1 HQ.out
        have d2 := bx2 HQ.out
        have d3 := bx3 HQ.out
        have d4 := bx4 HQ.out
        go_wp2_with fail
        refine (HC.out w1).mono ?_
        rintro e w2 ⟨rfl, b2⟩
        replace HQ := Lib.hid (HQ.out.below b2 HQ.out.lt)
        replace HB := Lib.hid (HB.out.trans (b2.mono HB.out.size))
        clear b2 d0 d1 d2 d3 d4
        have d0 := bx0 HQ.out
        have d1 := bx1 HQ.out
        have d2 := bx2 HQ.out
        have d3 := bx3 HQ.out
        have d4 := bx4 HQ.out
        go_wp2_with fail
        go_ret
        exact ⟨rfl, HB.out⟩
      · rw [if_neg hp] at hz
        have he : eqP p p0 = false := by
          cases hq : eqP p p0 with
          | false => rfl
          | true => exact absurd ((eqP_iff p p0).1 hq) hp
        subst hz
        clear hp
        obtain ⟨pa, pb, pc, pd, pe⟩ := p
        have heq := eqPt_zero pa pb pc pd pe
        rw [he] at heq
        clear he
        go_enter Tryz.func42, Tryz.ntmps42
        go_wp2_with fail
        refine HM.out.mono ?_
        rintro e w1 ⟨rfl, b1⟩
        replace HQ := Lib.hid (HQ.out.below b1 HQ.out.lt)
        replace HB := Lib.hid (HB.out.trans (b1.mono HB.out.size))
        clear b1 c0 c1 c2 c3 c4 d0 d1 d2 d3 d4
        have d0 := bx0 HQ.out
        have d1 := bx1 HQ.out
        have d2 := bx2 HQ.out
        have d3 := bx3 HQ.out
        have d4 := bx4 HQ.out
        go_wp2_with fail
        refine (HC.out w1).mono ?_
        rintro e w2 ⟨rfl, b2⟩
        replace HQ := Lib.hid (HQ.out.below b2 HQ.out.lt)
        replace HB := Lib.hid (HB.out.trans (b2.mono HB.out.size))
        clear b2 d0 d1 d2 d3 d4
        have d0 := bx0 HQ.out
        have d1 := bx1 HQ.out
        have d2 := bx2 HQ.out
        have d3 := bx3 HQ.out
        have d4 := bx4 HQ.out
        go_wp2_with fail
        go_ret
        exact ⟨rfl, HB.out⟩
    · rw [if_neg (fun hh => hmp hh.2)] at hz
      rw [show pcheckO p = 8 by unfold pcheckO; rw [if_neg hmp]] at hpm
      have HC := Lib.hid hpm
      subst hz
      clear hpm hms hmp
      go_enter Tryz.func42, Tryz.ntmps42
      go_wp2_with fail
      refine HM.out.mono ?_
      rintro e w1 ⟨rfl, b1⟩
      replace HQ := Lib.hid (HQ.out.below b1 HQ.out.lt)
      replace HB := Lib.hid (HB.out.trans (b1.mono HB.out.size))
      clear b1 c0 c1 c2 c3 c4 d0 d1 d2 d3 d4
      have d0 := bx0 HQ.out
      have d1 := bx1 HQ.out
      have d2 := bx2 HQ.out
      have d3 := bx3 HQ.out
      have d4 := bx4 HQ.out
      go_wp2_with fail
      refine (HC.out w1).mono ?_
      rintro e w2 ⟨rfl, b2⟩
      replace HQ := Lib.hid (HQ.out.below b2 HQ.out.lt)
      replace HB := Lib.hid (HB.out.trans (b2.mono HB.out.size))
      clear b2 d0 d1 d2 d3 d4
      have d0 := bx0 HQ.out
      have d1 := bx1 HQ.out
      have d2 := bx2 HQ.out
      have d3 := bx3 HQ.out
      have d4 := bx4 HQ.out
      go_wp2_with fail
      go_ret
      exact ⟨rfl, HB.out⟩
  · rw [if_neg (fun hh => hms hh.1)] at hz
    have HM := Lib.hid (HMY false ⟨fun h => (by cases h), fun h => absurd h hms⟩)
    subst hz
    clear HMY hpm hms
    go_enter Tryz.func42, Tryz.ntmps42
    go_wp2_with fail
    refine HM.out.mono ?_
    rintro e w1 ⟨rfl, b1⟩
    replace HQ := Lib.hid (HQ.out.below b1 HQ.out.lt)
    replace HB := Lib.hid (HB.out.trans (b1.mono HB.out.size))
    clear b1 c0 c1 c2 c3 c4 d0 d1 d2 d3 d4
    have d0 := bx0 HQ.out
    have d1 := bx1 HQ.out
    have d2 := bx2 HQ.out
    have d3 := bx3 HQ.out
    have d4 := bx4 HQ.out
    go_wp2_with fail
    go_ret
    exact ⟨rfl, HB.out⟩
set_option maxHeartbeats 1000000 in
theorem stWith_any (x : SAt) (S : StL) (y : DAt) (D : DkL) (a : Option Addr) (n c : Nat) (w : World) : Calls Tryz.prog 51 #[stV x S, dval y D, .slice a n c] w fun e w' => e = .returned (.agg #[.slice y.ba D.1.length y.bc, .slice y.wa D.2.length y.wc, .slice a n c, .int .u32 (S.2.2.1 : Int), .int .u32 (S.2.2.2 : Int)]) ∧ Below w.heap.size w w' := by
  obtain ⟨w0, hw0, b0, z0, x0, y0, q0⟩ := three_al w (stC x S) #[.slice y.ba D.1.length y.bc, .slice y.wa D.2.length y.wc] stZ 29 25 29
  obtain ⟨g, hg⟩ : ∃ g, w.heap.size = g := ⟨_, rfl⟩
  obtain ⟨g1, hg1⟩ : ∃ g1, g + 1 = g1 := ⟨_, rfl⟩
  obtain ⟨g2, hg2⟩ : ∃ g2, g1 + 1 = g2 := ⟨_, rfl⟩
  rw [hg] at x0 y0 q0 b0
  rw [show g + 2 = g1 + 1 by omega] at q0
  rw [hg1] at y0
  rw [hg2] at q0
  have HG := Lib.hid hg
  have HB := Lib.hid b0
  have e0 : w0.cell? ⟨g1, 0, none⟩ = some (.slice y.ba D.1.length y.bc) := y0.cell 0
  have e1 : w0.cell? ⟨g1, 1, none⟩ = some (.slice y.wa D.2.length y.wc) := y0.cell 1
  have c0 := stC0 x0
  have c1 := stC1 x0
  have c2 := stC2 x0
  have c3 := stC3 x0
  have c4 := stC4 x0
  have hfx := fun i => x0.frozen i
  have HX := Lib.hid x0
  have HQ := Lib.hid q0
  have HNE := Lib.hid (show g2 ≠ g by omega)
  have HGE := Lib.hid (show g ≤ g2 by omega)
  obtain ⟨x2, k2, b2⟩ := box_two x0 (by decide) (Nat.zero_le _) b0 (Nat.le_refl _) (.slice y.ba D.1.length y.bc) (.slice y.wa D.2.length y.wc)
  have q2 := (q0.far (p := ⟨g, 0, none⟩) HNE.out (.slice y.ba D.1.length y.bc)).far (p := ⟨g, 1, none⟩) HNE.out (.slice y.wa D.2.length y.wc)
  obtain ⟨w2, hw2⟩ : ∃ w2, (w0.setCell ⟨g, 0, none⟩ (.slice y.ba D.1.length y.bc)).setCell ⟨g, 1, none⟩ (.slice y.wa D.2.length y.wc) = w2 := ⟨_, rfl⟩
  rw [hw2] at x2 k2 b2 q2
  have cc := bx2 x2
  have hf2 := fun i => x2.frozen i
  have q3 := q2.far (p := ⟨g, 2, none⟩) HNE.out (.slice a n c)
  obtain ⟨x3, k3, b3⟩ := box_at x2 (by decide) (Nat.zero_le _) b2 (Nat.le_refl _) 2 (.slice a n c)
  obtain ⟨w3, hw3⟩ : ∃ w3, w2.setCell ⟨g, 2, none⟩ (.slice a n c) = w3 := ⟨_, rfl⟩
  rw [hw3] at x3 k3 b3 q3
  replace x3 : Blk w3 g 29 #[.slice y.ba D.1.length y.bc, .slice y.wa D.2.length y.wc, .slice a n c, .int .u32 (S.2.2.1 : Int), .int .u32 (S.2.2.2 : Int)] := x3
  have p0 := bx0 x3
  have p1 := bx1 x3
  have p2 := bx2 x3
  have p3 := bx3 x3
  have p4 := bx4 x3
  have r0 := stZ0 q3
  have r1 := stZ1 q3
  have r2 := stZ2 q3
  have r3 := stZ3 q3
  have r4 := stZ4 q3
  have hfy := fun i => q3.frozen i
  have H2 := Lib.hid (box_five q3 (by decide) (Nat.zero_le _) b3 HGE.out (.slice y.ba D.1.length y.bc) (.slice y.wa D.2.length y.wc) (.slice a n c) (.int .u32 (S.2.2.1 : Int)) (.int .u32 (S.2.2.2 : Int)))
  simp only [stC, stZ] at hw0
  simp only [dval]
  clear x0 y0 q0 b0 z0 x2 k2 b2 q2 x3 k3 b3 q3 HX HQ
  go_enter Tryz.func51, Tryz.ntmps51
  go_wp2_with fail
  clear p0 p1 p2 p3 p4 r0 r1 r2 r3 r4 hfy hfx c0 c1 c2 c3 c4 e0 e1 hw2 hw3 cc hf2
  obtain ⟨xf, _, bf⟩ := H2.out
  obtain ⟨wf, hwf⟩ : ∃ wf, set5 w3 g2 (.slice y.ba D.1.length y.bc) (.slice y.wa D.2.length y.wc) (.slice a n c) (.int .u32 (S.2.2.1 : Int)) (.int .u32 (S.2.2.2 : Int)) = wf := ⟨_, rfl⟩
  rw [hwf] at xf bf
  simp only [set5] at hwf
  rw [hwf]
  have e0 := bx0 xf
  have e1 := bx1 xf
  have e2 := bx2 xf
  have e3 := bx3 xf
  have e4 := bx4 xf
  refine bodyPost_ret (v := .agg #[.slice y.ba D.1.length y.bc, .slice y.wa D.2.length y.wc, .slice a n c, .int .u32 (S.2.2.1 : Int), .int .u32 (S.2.2.2 : Int)]) (by simp [results, Tryz.f51, go_sem, e0, e1, e2, e3, e4]) rfl ?_
  exact ⟨rfl, by rw [HG.out]; exact bf⟩
end Go.Proofs.YtdpmdlibgabjaaaGreat
