/-
  What the document's own Key answers is what mix.Key answers.
-/
import Derived.Test.YtoednighmdoooaaMixRefB
namespace Go.Proofs.Ytoednighmdoooaa
open Go.RowKit Go.Shelf
set_option maxRecDepth 100000

theorem bytesW_at (x : W4) (j : Nat) (hj : j < 16) : (bytesW x 4)[j]'(by rw [bytesW_length]; omega) = byteAt (nthW x (j / 4)).toNat (j % 4) := by
  have : j = 0 ∨ j = 1 ∨ j = 2 ∨ j = 3 ∨ j = 4 ∨ j = 5 ∨ j = 6 ∨ j = 7 ∨ j = 8 ∨ j = 9 ∨ j = 10 ∨ j = 11 ∨ j = 12 ∨ j = 13 ∨ j = 14 ∨ j = 15 := by omega
  rcases this with rfl | rfl | rfl | rfl | rfl | rfl | rfl | rfl | rfl | rfl | rfl | rfl | rfl | rfl | rfl | rfl <;> rfl
theorem clW_get (x : W4) (p : Nat) (hp : p < 4) : (cl x)[p]? = some (.int .u32 ((nthW x p).toNat : Int)) := by
  have : p = 0 ∨ p = 1 ∨ p = 2 ∨ p = 3 := by omega
  rcases this with rfl | rfl | rfl | rfl <;> rfl
/-- What the document's Key leaves: sixteen bytes in a row of its own. -/
def KeyOwn (x : W4) (w : World) (e : Ending) (w' : World) : Prop := ∃ v, e = .returned v ∧ w'.ownsRow w.heap.size 5 1 v 16 (vals (bytesW x 4)) ∧ Below w.heap.size w w'
theorem own_base {w : World} {B B' : Nat} {e : TypeId} {size : Nat} {v : Value} {n : Nat} {xs : List Value} (h : w.ownsRow B e size v n xs) (hB : B' ≤ B) : w.ownsRow B' e size v n xs := by
  refine ⟨h.1, ?_⟩
  rcases h.2 with h2 | ⟨g, cap, cur, hv, hb, r⟩
  · exact .inl h2
  · exact .inr ⟨g, cap, cur, hv, Nat.le_trans hB hb, r⟩
set_option maxHeartbeats 4000000 in
theorem rkey_own (a : Option Addr) (len cap : Nat) (s : List UInt8) (w : World) (hA : Bsl w w.heap.size a len cap s) (hlen : len ≤ 100000) :
    Calls Try.prog 42 #[.slice a len cap] w (KeyOwn (fourW s) w) := by
  obtain ⟨x, hx⟩ : ∃ x, fourW s = x := ⟨_, rfl⟩
  have hf := rfour_any a len cap s w hA hlen
  rw [hx] at hf ⊢
  clear hx
  have HF := Lib.hid hf; clear hf hA
  go_enter Try.func42, Try.ntmps42
  go_wp2_with fail
  refine HF.out.mono ?_
  rintro e w1 ⟨rfl, b1⟩
  obtain ⟨g, hg⟩ : ∃ g, w1.heap.size = g := ⟨_, rfl⟩
  obtain ⟨w2, hw2⟩ : ∃ w2, w1.alloc (.cells (cl x) 78) = w2 := ⟨_, rfl⟩
  have hx2 : Blk w2 g 78 (cl x) := by rw [← hw2, ← hg]; exact Blk.new w1 _ _
  have hb2 : Below w.heap.size w w2 := by rw [← hw2]; exact b1.alloc b1.size _
  have HX2 := Lib.hid hx2; clear hx2
  have HB2 := Lib.hid hb2; clear hb2 b1
  go_wp2_with fail

  have HW2 := Lib.hid hw2; clear hw2
  have HG := Lib.hid hg; clear hg
  go_loopw [4, 5] (fun v i wr => ∃ j : Nat, j ≤ 16 ∧ i = .int .i64 j ∧ wr.ownsRow w2.heap.size 5 1 v j (vals ((bytesW x 4).take j)) ∧ Below w2.heap.size w2 wr) (fun _ i _ => 16 - (intOf i).toNat)
  case atStart => exact ⟨0, by omega, rfl, World.ownsRow_nil _ _ _ _, Below.refl _ _⟩
  case round =>
    obtain ⟨j, hj, rfl, ho, hbe⟩ := hrel
    have HO := Lib.hid ho; clear ho
    by_cases hlt : j < 16
    · obtain ⟨p, hp⟩ : ∃ p, j / 4 = p := ⟨_, rfl⟩
      obtain ⟨q, hq⟩ : ∃ q, j % 4 = q := ⟨_, rfl⟩
      have cx := (HX2.out.below hbe HX2.out.lt).cell p
      rw [clW_get x p (by omega)] at cx
      have hbj := bytesW_at x j hlt
      rw [hp, hq] at hbj
      obtain ⟨n, hn⟩ : ∃ n : Nat, (nthW x p).toNat = n := ⟨_, rfl⟩
      have hnl : n < 4294967296 := by rw [← hn]; exact (nthW x p).isLt
      rw [hn] at cx hbj
      have HBJ := Lib.hid hbj; clear hbj
      have d0 : (0 : Int) ≤ j := by omega
      have d1 : (j : Int) < 16 := by omega
      have d2 : (j : Int) / 4 = (p : Int) := by omega
      have d3 : (p : Int) < 4 := by omega
      have d4 : (0 : Int) ≤ p := by omega
      have d5 : (j : Int) % 4 = (q : Int) := by omega
      have n0 : (0 : Int) ≤ n := by omega
      have n1 : (n : Int) ≤ 4294967295 := by omega
      have q4 : q < 4 := by omega
      have HP := Lib.hid hp; clear hp hn
      have HQ := Lib.hid hq; clear hq
      have HBE := Lib.hid hbe; clear hbe
      obtain ⟨wo, hwo⟩ : ∃ wo : World, wr = wo := ⟨_, rfl⟩
      rw [hwo] at cx HO HBE ⊢
      clear hwo
      obtain ⟨vo, hvo⟩ : ∃ vo : Value, u4 = vo := ⟨_, rfl⟩
      rw [hvo] at HO ⊢
      clear hvo
      go_wp2_with fail
      go_loop [6, 7] (fun v i => ∃ k : Nat, k ≤ q ∧ i = .int .i64 k ∧ v = .int .u32 ((n / 256 ^ k : Nat) : Int)) (fun _ i => 4 - (intOf i).toNat)
      case atStart => exact ⟨0, Nat.zero_le _, rfl, by simp⟩
      case round =>
        obtain ⟨k, hk, rfl, rfl⟩ := hrel
        obtain ⟨m, hm⟩ : ∃ m : Nat, n / 256 ^ k = m := ⟨_, rfl⟩
        have hml : m < 4294967296 := by rw [← hm]; exact Nat.lt_of_le_of_lt (Nat.div_le_self _ _) hnl
        rw [hm]
        have m0 : (0 : Int) ≤ m := by omega
        have m1 : (m : Int) ≤ 4294967295 := by omega
        have k0 : (0 : Int) ≤ k := by omega
        have k1 : (k : Int) ≤ 4 := by omega
        by_cases hkq : k < q
        · have hs : n / 256 ^ (k + 1) = m / 256 := by rw [Nat.pow_succ, ← Nat.div_div_eq_div_mul, hm]
          have HS := Lib.hid hs; clear hs hm
          have k2 : (k : Int) < q := by omega
          go_wp2
          go_round
          case rel => exact ⟨k + 1, by omega, by go_num, by rw [HS.out]; congr 1⟩
          case measure => simp [intOf]; omega
        · obtain rfl : k = q := by omega
          have hy : byteAt n k = UInt8.ofNat (m % 256) := by unfold byteAt; rw [hm]
          have k2 : ¬ (k : Int) < k := by omega
          have HY := Lib.hid hy; clear hy hm
          obtain ⟨y, hyy⟩ : ∃ y : UInt8, UInt8.ofNat (m % 256) = y := ⟨_, rfl⟩
          have hyn : (m : Int) % 256 = (y.toNat : Int) := by rw [← hyy]; simp
          have HYY := Lib.hid hyy; clear hyy
          have hsl : Bsl (wo.alloc (.cells #[.int .u8 (y.toNat : Int)] 5)) (wo.alloc (.cells #[.int .u8 (y.toNat : Int)] 5)).heap.size (some ⟨wo.heap.size, 0, none⟩) 1 1 [y] :=
            ⟨rfl, Nat.le_refl _, by unfold maxLen; omega, fun e => (by cases e), fun _ => ⟨_, _, rfl, by simp, fun i hi => by
              have : i = 0 := by simpa using hi
              subst this
              exact cell_of_row _ _ _ _ 5 (0, 0) (World.alloc_heap_new wo _)⟩⟩
          have HSL := Lib.hid hsl; clear hsl
          have y0 : (0 : Int) ≤ (y.toNat : Int) := by omega
          have y1 : (y.toNat : Int) ≤ 255 := by have := y.toNat_lt; omega
          have hsz : w2.heap.size ≤ (wo.alloc (.cells #[.int .u8 (y.toNat : Int)] 5)).heap.size := by simp; have := HBE.out.size; omega
          have HBA := Lib.hid (HBE.out.alloc HBE.out.size (.cells #[.int .u8 (y.toNat : Int)] 5))
          have HOA := Lib.hid (HO.out.alloc (.cells #[.int .u8 (y.toNat : Int)] 5))
          have HSZ := Lib.hid hsz; clear hsz
          go_wp2_with (at_builtin; refine wpList_append_bsl rfl (.tmp 26) (.tmp 30) rfl w2.heap.size vo j _ rfl HOA.out _ (some ⟨wo.heap.size, 0, none⟩) 1 1 [y] rfl HSL.out (by omega) HSZ.out ?_; intro v' w3 hown' hg')
          have hb3 : Below w2.heap.size w2 w3 := HBA.out.grown hg' HBA.out.size (fun k e => (HOA.out.lt k e).1)
          have HO3 := Lib.hid hown'; clear hown'
          have HB3 := Lib.hid hb3; clear hb3 hg'
          go_wp2_with fail
          go_roundw
          case rel =>
            refine ⟨j + 1, by omega, by go_num, ?_, HB3.out⟩
            have e : (bytesW x 4).take (j + 1) = (bytesW x 4).take j ++ [y] := by
              rw [List.take_succ_eq_append_getElem (by rw [bytesW_length]; omega), HBJ.out, HY.out, HYY.out]
            rw [e]
            exact HO3.out
          case measure => simp [intOf]; omega
    · obtain rfl : j = 16 := by omega
      rw [List.take_of_length_le (by rw [bytesW_length]; exact Nat.le_refl _)] at HO
      have HBE := Lib.hid hbe; clear hbe
      go_wp2_with fail
      go_ret
      exact ⟨_, rfl, own_base HO.out HB2.out.size, HB2.out.trans (HBE.out.mono HB2.out.size)⟩
theorem rkey_any (a : Option Addr) (len cap : Nat) (s : List UInt8) (w : World) (hA : Bsl w w.heap.size a len cap s) (hlen : len ≤ 100000) :
    Calls Try.prog 42 #[.slice a len cap] w (KeyPost (fourW s) w) :=
  (rkey_own a len cap s w hA hlen).mono fun e w' h => by
    obtain ⟨v, rfl, ho, hb⟩ := h
    obtain ⟨g, cap', rfl, hgb, hgl, hgc, hgm, hgs, hgh⟩ := bsl_of_own ho (by omega)
    exact ⟨g, cap', rfl, hgb, hgl, hgc, hgm, hgh, hb⟩
end Go.Proofs.Ytoednighmdoooaa
