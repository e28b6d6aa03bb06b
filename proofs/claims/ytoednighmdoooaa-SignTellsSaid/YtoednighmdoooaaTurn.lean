/-
  mix.Turn and mix.Back, whatever four words they are handed, answer these words turned, there and back; nothing that was there is written.
-/
import Derived.Test.YtoednighmdoooaaMath
import Derived.Test.YtoednighmdoooaaMem
import Derived.RegionTactic
import Derived.Deep.RegionWith
import Derived.Laws.BitsAllLaws
import Derived.StillTailTactics
import Derived.Outline
namespace Go.Proofs.Ytoednighmdoooaa
open Go.RowKit Go.Shelf
set_option maxRecDepth 100000

theorem add32 (x y : BitVec 32) : ((x.toNat : Int) + (y.toNat : Int)) % 4294967296 = ((pl x y).toNat : Int) := by
  unfold pl
  rw [BitVec.toNat_add]
  show ((x.toNat : Int) + (y.toNat : Int)) % ((4294967296 : Nat) : Int) = _
  rw [Int.natCast_emod]
  rfl
theorem sub32 (x y : BitVec 32) : ((x.toNat : Int) - (y.toNat : Int)) % 4294967296 = ((mi x y).toNat : Int) := by
  unfold mi
  rw [BitVec.toNat_sub]
  have := x.isLt; have := y.isLt
  omega
theorem xor32 (x y : BitVec 32) : bits .xor .u32 (x.toNat : Int) (y.toNat : Int) = ((xo x y).toNat : Int) := by
  rw [u32_xor_nat _ _ x.isLt y.isLt]
  rfl
/-- What RotateLeft32 makes of its two shifts. -/
theorem rot32 (x : BitVec 32) (k l : Nat) (hk : 0 < k) (hl : l + k = 32) (hl0 : 0 < l) (m n : Int) (hm : m = (x.toNat : Int) * ((2 ^ k : Nat) : Int) % 4294967296) (hn : n = (x.toNat : Int) / ((2 ^ l : Nat) : Int)) : bits .or .u32 m n = ((ro k x).toNat : Int) := by
  have e1 : m = ((x.toNat * 2 ^ k % 4294967296 : Nat) : Int) := by rw [hm, Int.natCast_emod, Int.natCast_mul]; rfl
  have e2 : n = ((x.toNat / 2 ^ l : Nat) : Int) := by rw [hn, Int.natCast_ediv]
  have hx := x.isLt
  rw [e1, e2, u32_or_nat _ _ (Nat.mod_lt _ (by omega)) (Nat.lt_of_le_of_lt (Nat.div_le_self _ _) hx)]
  unfold ro
  rw [BitVec.rotateLeft_def, BitVec.toNat_or, BitVec.toNat_shiftLeft, BitVec.toNat_ushiftRight, Nat.mod_eq_of_lt (show k < 32 by omega), Nat.shiftLeft_eq, Nat.shiftRight_eq_div_pow, show 32 - k = l by omega]

theorem ret_int {k : IntKind} {a b : Int} (h : a = b) : Ending.returned (.int k a) = .returned (.int k b) := by rw [h]
theorem rot_any (x : BitVec 32) (z : Int) (k : Nat) (hk : (z = 15 ∧ k = 15) ∨ (z = 11 ∧ k = 11) ∨ (z = 9 ∧ k = 9) ∨ (z = 6 ∧ k = 6) ∨ (z = -15 ∧ k = 17) ∨ (z = -11 ∧ k = 21) ∨ (z = -9 ∧ k = 23) ∨ (z = -6 ∧ k = 26)) (w : World) :
    Calls Try.prog 80 #[.int .u32 (x.toNat : Int), .int .i64 z] w fun e w' => e = .returned (.int .u32 ((ro k x).toNat : Int)) ∧ w = w' := by
  have hx0 : (0 : Int) ≤ (x.toNat : Int) := by omega
  have hx1 : (x.toNat : Int) ≤ 4294967295 := by have := x.isLt; omega
  rcases hk with ⟨rfl, rfl⟩ | ⟨rfl, rfl⟩ | ⟨rfl, rfl⟩ | ⟨rfl, rfl⟩ | ⟨rfl, rfl⟩ | ⟨rfl, rfl⟩ | ⟨rfl, rfl⟩ | ⟨rfl, rfl⟩
  · have e1 : bits BinOp.and IntKind.u64 15 31 = 15 := by decide
    have e2 := rot32 x 15 17 (by omega) (by omega) (by omega) ((x.toNat : Int) * 32768 % 4294967296) ((x.toNat : Int) / 131072) (by simp) (by simp)
    go_enter Try.func80, Try.ntmps80
    go_wp2
    go_ret
    exact ⟨rfl, rfl⟩
  · have e1 : bits BinOp.and IntKind.u64 11 31 = 11 := by decide
    have e2 := rot32 x 11 21 (by omega) (by omega) (by omega) ((x.toNat : Int) * 2048 % 4294967296) ((x.toNat : Int) / 2097152) (by simp) (by simp)
    go_enter Try.func80, Try.ntmps80
    go_wp2
    go_ret
    exact ⟨rfl, rfl⟩
  · have e1 : bits BinOp.and IntKind.u64 9 31 = 9 := by decide
    have e2 := rot32 x 9 23 (by omega) (by omega) (by omega) ((x.toNat : Int) * 512 % 4294967296) ((x.toNat : Int) / 8388608) (by simp) (by simp)
    go_enter Try.func80, Try.ntmps80
    go_wp2
    go_ret
    exact ⟨rfl, rfl⟩
  · have e1 : bits BinOp.and IntKind.u64 6 31 = 6 := by decide
    have e2 := rot32 x 6 26 (by omega) (by omega) (by omega) ((x.toNat : Int) * 64 % 4294967296) ((x.toNat : Int) / 67108864) (by simp) (by simp)
    go_enter Try.func80, Try.ntmps80
    go_wp2
    go_ret
    exact ⟨rfl, rfl⟩
  · have e1 : bits BinOp.and IntKind.u64 (IntKind.u64.wrap (-15)) 31 = 17 := by decide
    have e2 := rot32 x 17 15 (by omega) (by omega) (by omega) ((x.toNat : Int) * 131072 % 4294967296) ((x.toNat : Int) / 32768) (by simp) (by simp)
    go_enter Try.func80, Try.ntmps80
    go_wp2
    go_ret
    exact ⟨rfl, rfl⟩
  · have e1 : bits BinOp.and IntKind.u64 (IntKind.u64.wrap (-11)) 31 = 21 := by decide
    have e2 := rot32 x 21 11 (by omega) (by omega) (by omega) ((x.toNat : Int) * 2097152 % 4294967296) ((x.toNat : Int) / 2048) (by simp) (by simp)
    go_enter Try.func80, Try.ntmps80
    go_wp2
    go_ret
    exact ⟨rfl, rfl⟩
  · have e1 : bits BinOp.and IntKind.u64 (IntKind.u64.wrap (-9)) 31 = 23 := by decide
    have e2 := rot32 x 23 9 (by omega) (by omega) (by omega) ((x.toNat : Int) * 8388608 % 4294967296) ((x.toNat : Int) / 512) (by simp) (by simp)
    go_enter Try.func80, Try.ntmps80
    go_wp2
    go_ret
    exact ⟨rfl, rfl⟩
  · have e1 : bits BinOp.and IntKind.u64 (IntKind.u64.wrap (-6)) 31 = 26 := by decide
    have e2 := rot32 x 26 6 (by omega) (by omega) (by omega) ((x.toNat : Int) * 67108864 % 4294967296) ((x.toNat : Int) / 64) (by simp) (by simp)
    go_enter Try.func80, Try.ntmps80
    go_wp2
    go_ret
    exact ⟨rfl, rfl⟩

/-- Four words as a value. -/
@[reducible] def ag (x : W4) : Value := .agg #[.int .u32 (x.a.toNat : Int), .int .u32 (x.b.toNat : Int), .int .u32 (x.c.toNat : Int), .int .u32 (x.d.toNat : Int)]

set_option maxHeartbeats 1000000 in
theorem turn_any (x : W4) (w : World) : Calls Try.prog 76 #[ag x] w fun e w' => e = .returned (ag (turnW x)) ∧ Below w.heap.size w w' := by
  have r1 := add32
  have r2 := xor32
  obtain ⟨a, b, c, d⟩ := x
  go_enter Try.func76, Try.ntmps76
  go_wp2_with (go_at_call 79; go_in)
  refine (rot_any _ 15 15 (by simp) _).mono ?_
  rintro e w' ⟨rfl, rfl⟩
  go_wp2_with (go_at_call 79; go_in)
  refine (rot_any _ 11 11 (by simp) _).mono ?_
  rintro e w' ⟨rfl, rfl⟩
  go_wp2_with fail
  go_end0
  go_wp2_with (go_at_call 79; go_in)
  refine (rot_any _ 9 9 (by simp) _).mono ?_
  rintro e w' ⟨rfl, rfl⟩
  go_wp2_with fail
  refine (rot_any _ 6 6 (by simp) _).mono ?_
  rintro e w' ⟨rfl, rfl⟩
  go_wp2_with fail
  go_end0
  go_wp2_with fail
  exact bodyPost_ret (v := ag (turnW ⟨a, b, c, d⟩)) (by simp [results, Try.results76, go_sem, turnW, halfT]) rfl ⟨rfl, ((Below.refl _ w).alloc (Nat.le_refl _) _).alloc (by simp) _⟩

/-- The cells of four words. -/
@[reducible] def cl (x : W4) : Array Value := #[.int .u32 (x.a.toNat : Int), .int .u32 (x.b.toNat : Int), .int .u32 (x.c.toNat : Int), .int .u32 (x.d.toNat : Int)]
end Go.Proofs.Ytoednighmdoooaa
