/-
  What the document's own Turn, Back, Four, Sum and Key answer is what mix.Turn, Back, Four, Sum and Key answer.
-/
import Derived.Test.YtoednighmdoooaaArr
namespace Go.Proofs.Ytoednighmdoooaa
open Go.RowKit Go.Shelf
set_option maxRecDepth 100000

theorem rplus_any (x y : BitVec 32) (w : World) : Calls Try.prog 72 #[.int .u32 (x.toNat : Int), .int .u32 (y.toNat : Int)] w fun e w' => e = .returned (.int .u32 ((pl x y).toNat : Int)) ∧ w = w' := by
  have x0 : (0 : Int) ≤ (x.toNat : Int) := by omega
  have x1 : (x.toNat : Int) ≤ 4294967295 := by have := x.isLt; omega
  have y0 : (0 : Int) ≤ (y.toNat : Int) := by omega
  have y1 : (y.toNat : Int) ≤ 4294967295 := by have := y.isLt; omega
  have z0 : (0 : Int) ≤ ((pl x y).toNat : Int) := by omega
  have z1 : ((pl x y).toNat : Int) ≤ 4294967295 := by have := (pl x y).isLt; omega
  have e1 := add32 x y
  go_enter Try.func72, Try.ntmps72
  go_wp2
  go_ret
  exact ⟨rfl, rfl⟩
theorem rleft_any (x : BitVec 32) (n : Nat) (hn : n < 32) (w : World) : Calls Try.prog 73 #[.int .u32 (x.toNat : Int), .int .i64 n] w fun e w' => e = .returned (.int .u32 ((ro n x).toNat : Int)) ∧ w = w' := by
  have x0 : (0 : Int) ≤ (x.toNat : Int) := by omega
  have x1 : (x.toNat : Int) ≤ 4294967295 := by have := x.isLt; omega
  go_enter Try.func73, Try.ntmps73
  go_wp2_with fail
  go_loop [5, 6] (fun v i => ∃ k : Nat, k ≤ n ∧ i = .int .i64 k ∧ v = .int .i64 ((ro k x).toNat : Int)) (fun _ i => n - (intOf i).toNat)
  case atStart => exact ⟨0, Nat.zero_le _, rfl, by rw [ro_0]⟩
  case round =>
    obtain ⟨k, hk, rfl, rfl⟩ := hrel
    obtain ⟨v, hv⟩ : ∃ v : Nat, (ro k x).toNat = v := ⟨_, rfl⟩
    have hvl : v < 4294967296 := by rw [← hv]; exact (ro k x).isLt
    by_cases hlt : k < n
    · have hs := ro_succ k (by omega) x
      rw [hv] at hs ⊢
      have HS := Lib.hid hs; clear hs hv
      have v0 : (0 : Int) ≤ v := by omega
      have v1 : (v : Int) ≤ 4294967295 := by omega
      go_wp2
      go_round
      case rel => exact ⟨k + 1, by omega, by go_num, by rw [HS.out]; congr 1⟩
      case measure => simp [intOf]; omega
    · obtain rfl : k = n := by omega
      rw [hv]
      have v0 : (0 : Int) ≤ v := by omega
      have v1 : (v : Int) ≤ 4294967295 := by omega
      have HV := Lib.hid hv; clear hv
      go_wp2
      go_ret
      exact ⟨ret_int (by rw [HV.out]), rfl⟩

set_option maxHeartbeats 2000000 in
theorem rturn_any (x : W4) (w : World) : Calls Try.prog 62 #[ag x] w fun e w' => e = .returned (ag (turnW x)) ∧ Below w.heap.size w w' := by
  have r2 := xor32
  obtain ⟨a, b, c, d⟩ := x
  go_enter Try.func62, Try.ntmps62
  go_wp2_with fail
  refine (rplus_any _ _ _).mono ?_; rintro e w' ⟨rfl, rfl⟩
  go_wp2_with fail
  refine (rleft_any _ 15 (by omega) _).mono ?_; rintro e w' ⟨rfl, rfl⟩
  go_wp2_with fail
  refine (rplus_any _ _ _).mono ?_; rintro e w' ⟨rfl, rfl⟩
  go_wp2_with fail
  refine (rleft_any _ 11 (by omega) _).mono ?_; rintro e w' ⟨rfl, rfl⟩
  go_wp2_with fail
  refine (rplus_any _ _ _).mono ?_; rintro e w' ⟨rfl, rfl⟩
  go_wp2_with fail
  refine (rleft_any _ 9 (by omega) _).mono ?_; rintro e w' ⟨rfl, rfl⟩
  go_wp2_with fail
  refine (rplus_any _ _ _).mono ?_; rintro e w' ⟨rfl, rfl⟩
  go_wp2_with fail
  refine (rleft_any _ 6 (by omega) _).mono ?_; rintro e w' ⟨rfl, rfl⟩
  go_wp2_with fail
  exact bodyPost_ret (v := ag (turnW ⟨a, b, c, d⟩)) (by simp [results, Try.results62, go_sem, turnW, halfT]) rfl ⟨rfl, ((Below.refl _ w).alloc (Nat.le_refl _) _).alloc (by simp) _⟩
theorem rbyte_any (a : Option Addr) (len cap : Nat) (s : List UInt8) (i : Nat) (B : Nat) (w : World) (hA : Bsl w B a len cap s) (hi : i ≤ 1000000) (hl : len ≤ 1000000) :
    Calls Try.prog 71 #[.slice a len cap, .int .i64 i] w fun e w' => e = .returned (.int .u32 ((byteP s i).toNat : Int)) ∧ w = w' := by
  have hsl := hA.1
  have i0 : (0 : Int) ≤ i := by omega
  by_cases h1 : i < len
  · obtain ⟨b, off, rfl, hb, hc⟩ := hA.2.2.2.2 (by omega)
    have hcc := hc i (by omega)
    have e : byteP s i = s[i]'(by omega) := by unfold byteP; rw [dif_pos (by omega)]
    rw [e]
    obtain ⟨v, hv⟩ : ∃ v : Nat, (s[i]'(by omega)).toNat = v := ⟨_, rfl⟩
    rw [hv] at hcc ⊢
    have v0 : (0 : Int) ≤ v := by omega
    have v1 : (v : Int) ≤ 255 := by have := (s[i]'(by omega)).toNat_lt; omega
    have i1 : (i : Int) < len := by omega
    clear hv e hA hc hsl
    go_enter Try.func71, Try.ntmps71
    go_wp2
    go_ret
    exact ⟨rfl, rfl⟩
  · have i1 : ¬ (i : Int) < len := by omega
    by_cases h2 : i = len
    · have e : byteP s i = 1 := by unfold byteP; rw [dif_neg (by omega), if_pos (by omega)]
      rw [e]
      have i2 : ((i : Int) == len) = true := by simp; omega
      clear e hA hsl h1 h2
      go_enter Try.func71, Try.ntmps71
      go_wp2
      go_ret
      exact ⟨rfl, rfl⟩
    · have e : byteP s i = 0 := by unfold byteP; rw [dif_neg (by omega), if_neg (by omega)]
      rw [e]
      have i2 : ((i : Int) == len) = false := by simp; omega
      clear e hA hsl h1 h2
      go_enter Try.func71, Try.ntmps71
      go_wp2
      go_ret
      exact ⟨rfl, rfl⟩
theorem rword_any (a : Option Addr) (len cap : Nat) (s : List UInt8) (i : Nat) (B : Nat) (w : World) (hA : Bsl w B a len cap s) (hi : i + 3 ≤ 1000000) (hl : len ≤ 1000000) :
    Calls Try.prog 61 #[.slice a len cap, .int .i64 i] w fun e w' => e = .returned (.int .u32 ((wordP s i).toNat : Int)) ∧ w = w' := by
  rw [wordP_toNat]
  unfold quadP
  rw [leN4]
  have q0 := rbyte_any a len cap s i B w hA (by omega) hl
  have q1 := rbyte_any a len cap s (i + 1) B w hA (by omega) hl
  have q2 := rbyte_any a len cap s (i + 2) B w hA (by omega) hl
  have q3 := rbyte_any a len cap s (i + 3) B w hA (by omega) hl
  rw [show ((i + 1 : Nat) : Int) = (i : Int) + 1 by omega] at q1
  rw [show ((i + 2 : Nat) : Int) = (i : Int) + 2 by omega] at q2
  rw [show ((i + 3 : Nat) : Int) = (i : Int) + 3 by omega] at q3
  obtain ⟨b0, h0⟩ : ∃ b0 : Nat, (byteP s i).toNat = b0 := ⟨_, rfl⟩
  obtain ⟨b1, h1⟩ : ∃ b0 : Nat, (byteP s (i + 1)).toNat = b0 := ⟨_, rfl⟩
  obtain ⟨b2, h2⟩ : ∃ b0 : Nat, (byteP s (i + 2)).toNat = b0 := ⟨_, rfl⟩
  obtain ⟨b3, h3⟩ : ∃ b0 : Nat, (byteP s (i + 3)).toNat = b0 := ⟨_, rfl⟩
  have t0 := (byteP s i).toNat_lt
  have t1 := (byteP s (i + 1)).toNat_lt
  have t2 := (byteP s (i + 2)).toNat_lt
  have t3 := (byteP s (i + 3)).toNat_lt
  rw [h0] at t0 q0 ⊢
  rw [h1] at t1 q1 ⊢
  rw [h2] at t2 q2 ⊢
  rw [h3] at t3 q3 ⊢
  have u0 : (0 : Int) ≤ b0 := by omega
  have u1 : (0 : Int) ≤ b1 := by omega
  have u2 : (0 : Int) ≤ b2 := by omega
  have u3 : (0 : Int) ≤ b3 := by omega
  have v0 : (b0 : Int) ≤ 255 := by omega
  have v1 : (b1 : Int) ≤ 255 := by omega
  have v2 : (b2 : Int) ≤ 255 := by omega
  have v3 : (b3 : Int) ≤ 255 := by omega
  have i0 : (0 : Int) ≤ i := by omega
  have i1 : (i : Int) ≤ 1000000 := by omega
  have Q0 := Lib.hid q0; clear q0
  have Q1 := Lib.hid q1; clear q1
  have Q2 := Lib.hid q2; clear q2
  have Q3 := Lib.hid q3; clear q3
  clear h0 h1 h2 h3 hA
  go_enter Try.func61, Try.ntmps61
  go_wp2_with fail
  refine Q0.out.mono ?_; rintro e w' ⟨rfl, rfl⟩
  go_wp2_with fail
  refine Q1.out.mono ?_; rintro e w' ⟨rfl, rfl⟩
  go_wp2_with fail
  refine Q2.out.mono ?_; rintro e w' ⟨rfl, rfl⟩
  go_wp2_with fail
  refine Q3.out.mono ?_; rintro e w' ⟨rfl, rfl⟩
  go_wp2_with fail
  go_ret
  exact ⟨rfl, rfl⟩
end Go.Proofs.Ytoednighmdoooaa
