/-
  sign's isKey, isRight, beside and join answer as the chapter asks; join's answer is new memory.
-/
import Derived.Test.YtoednighmdoooaaNodes
namespace Go.Proofs.Ytoednighmdoooaa
open Go.RowKit Go.Shelf
set_option maxRecDepth 100000

theorem isKey_any (a : Option Addr) (len cap : Nat) (w : World) : Calls Try.prog 19 #[.slice a len cap] w fun e w' => e = .returned (.bool ((len : Int) == 16)) ∧ w = w' := by
  go_enter Try.func19, Try.ntmps19
  go_wp2_with fail
  go_ret
  exact ⟨rfl, rfl⟩
theorem and_one (a : Nat) (h : a < 8) : bits .and .i64 (a : Int) 1 = ((a % 2 : Nat) : Int) := by
  have : a = 0 ∨ a = 1 ∨ a = 2 ∨ a = 3 ∨ a = 4 ∨ a = 5 ∨ a = 6 ∨ a = 7 := by omega
  rcases this with rfl | rfl | rfl | rfl | rfl | rfl | rfl | rfl <;> rfl
theorem xor_one (a : Nat) (h : a < 8) : bits .xor .i64 (a : Int) 1 = ((sib a : Nat) : Int) := by
  have : a = 0 ∨ a = 1 ∨ a = 2 ∨ a = 3 ∨ a = 4 ∨ a = 5 ∨ a = 6 ∨ a = 7 := by omega
  rcases this with rfl | rfl | rfl | rfl | rfl | rfl | rfl | rfl <;> rfl
theorem sib_lt (a n : Nat) (h : a < 2 * n) : sib a < 2 * n := by unfold sib; split <;> omega
theorem isRight_any (a : Nat) (h : a < 8) (w : World) : Calls Try.prog 33 #[.int .i64 a] w fun e w' => e = .returned (.bool (((a % 2 : Nat) : Int) == 1)) ∧ w = w' := by
  have h1 := and_one a h
  go_enter Try.func33, Try.ntmps33
  go_wp2_with fail
  go_ret
  exact ⟨rfl, rfl⟩
theorem beside_any (g q cap : Nat) (at_ : Nat) (h8 : at_ < 8) (h : at_ < 2 * q) (v : Value) (w : World) (hc : w.cell? ⟨g, sib at_, none⟩ = some v) :
    Calls Try.prog 31 #[.slice (some ⟨g, 0, none⟩) (2 * q) cap, .int .i64 at_] w fun e w' => e = .returned v ∧ w = w' := by
  have h1 := xor_one at_ h8
  have h2 := sib_lt at_ q h
  obtain ⟨L, hL⟩ : ∃ L, 2 * q = L := ⟨_, rfl⟩
  obtain ⟨b, hb⟩ : ∃ b, sib at_ = b := ⟨_, rfl⟩
  rw [hL] at h2 ⊢
  rw [hb] at h1 h2 hc
  clear hL hb
  have b0 : (0 : Int) ≤ b := by omega
  have b1 : (b : Int) < L := by omega
  go_enter Try.func31, Try.ntmps31
  go_wp2_with fail
  go_ret
  exact ⟨rfl, rfl⟩
set_option maxHeartbeats 2000000 in
theorem join_any (h : Nat) (hh : h < 3) (a : Option Addr) (ca : Nat) (x : List UInt8) (b : Option Addr) (cb : Nat) (y : List UInt8) (w : World) (hA : Bsl w w.heap.size a 16 ca x) (hB : Bsl w w.heap.size b 16 cb y) :
    Calls Try.prog 34 #[.int .i64 h, .slice a 16 ca, .slice b 16 cb] w (NewL 16 (upL h x y) w) := by
  have e1 : ((128 : Int) + (h : Int)) = ((128 + h : Nat) : Int) := by omega
  have e2 : IntKind.u8.wrap ((128 : Int) + (h : Int)) = (((UInt8.ofNat (128 + h)).toNat : Nat) : Int) := by
    rw [e1, wrapU8 (128 + h) (by omega)]
    simp
    omega
  have e3 : IntKind.i64.wrap ((128 : Int) + (h : Int)) = (128 : Int) + (h : Int) := by
    rw [e1]; unfold IntKind.wrap; simp [IntKind.bits, IntKind.signed]; omega
  have hup : upL h x y = keyL ([UInt8.ofNat (128 + h)] ++ (x ++ y)) := rfl
  have hu : (UInt8.ofNat (128 + h)).toNat < 256 := UInt8.toNat_lt _
  obtain ⟨u, hu'⟩ : ∃ u, UInt8.ofNat (128 + h) = u := ⟨_, rfl⟩
  rw [hu'] at e2 hup hu
  rw [hup]
  clear hu' hup e1
  obtain ⟨w1, hw1⟩ : ∃ w1, w.alloc (.cells #[.int .u8 (u.toNat : Int)] 5) = w1 := ⟨_, rfl⟩
  have b1 : Below w.heap.size w w1 := by rw [← hw1]; exact (Below.refl _ w).alloc (Nat.le_refl _) _
  have h1 := one_bsl w u
  rw [hw1] at h1
  have hc := concat3 w1 _ _ _ _ _ _ _ _ _ _ _ _ h1 (hA.step b1) (hB.step b1) (by omega) (by omega)
  have HC := Lib.hid hc; clear hc h1 hA hB
  have HB1 := Lib.hid b1; clear b1
  have h0 : (0 : Int) ≤ h := by omega
  have h3 : (h : Int) < 3 := by omega
  obtain ⟨n, hn⟩ : ∃ n : Nat, u.toNat = n := ⟨_, rfl⟩
  rw [hn] at e2 hu hw1
  have HN := Lib.hid hn; clear hn
  go_enter Try.func34, Try.ntmps34
  go_wp2_with fail
  clear hw1
  refine HC.out.mono ?_
  rintro e w2 ⟨g2, c2, rfl, _, h2, b2⟩
  have HB2 := Lib.hid (HB1.out.trans (b2.mono HB1.out.size)); clear b2 HB1 HC
  have HK := Lib.hid (key_any _ _ _ _ w2 h2 (by omega)); clear h2
  go_wp2_with fail
  refine HK.out.mono ?_
  rintro e w3 h3'
  obtain ⟨g3, c3, rfl, hg3, h4, b4⟩ := KeyPost.newL h3'
  have HB4 := Lib.hid (HB2.out.trans (b4.mono HB2.out.size))
  have HQ := Lib.hid h4; clear h3' h4 b4 HK
  have HG := Lib.hid (Nat.le_trans HB2.out.size hg3); clear hg3
  go_wp2_with fail
  go_ret
  exact ⟨_, _, rfl, HG.out, HQ.out, HB4.out⟩
end Go.Proofs.Ytoednighmdoooaa
