/-
  mix.Turn and mix.Back, whatever four words they are handed, answer these words turned, there and back; nothing that was there is written.
-/
import Derived.Test.YthndfdnfaeioeaaMath
import Derived.Test.YthndfdnfaeioeaaMem
import Derived.RegionTactic
import Derived.Deep.RegionWith
import Derived.Laws.BitsAllLaws
import Derived.StillTailTactics
import Derived.Outline
namespace Go.Proofs.Ythndfdnfaeioeaa
open Go.RowKit Go.Shelf
set_option maxRecDepth 100000

theorem add32 (x y : BitVec 32) : ((x.toNat : Int) + (y.toNat : Int)) % 4294967296 = ((pl x y).toNat : Int) := by
  unfold pl
  rw [BitVec.toNat_add]
  show ((x.toNat : Int) + (y.toNat : Int)) % ((4294967296 : Nat) : Int) = _
  rw [Int.natCast_emod]
  rfl
theorem sub32 (x y : BitVec 32) : ((x.toNat : Int) - (y.toNat : Int)) % 4294967296 = ((mi x y).toNat : Int) := by
  unfold mi
  rw [BitVec.toNat_sub]
  have := x.isLt; have := y.isLt
  omega
theorem xor32 (x y : BitVec 32) : bits .xor .u32 (x.toNat : Int) (y.toNat : Int) = ((xo x y).toNat : Int) := by
  rw [u32_xor_nat _ _ x.isLt y.isLt]
  rfl
/-- What RotateLeft32 makes of its two shifts. -/
theorem rot32 (x : BitVec 32) (k l : Nat) (hk : 0 < k) (hl : l + k = 32) (hl0 : 0 < l) (m n : Int) (hm : m = (x.toNat : Int) * ((2 ^ k : Nat) : Int) % 4294967296) (hn : n = (x.toNat : Int) / ((2 ^ l : Nat) : Int)) : bits .or .u32 m n = ((ro k x).toNat : Int) := by
  have e1 : m = ((x.toNat * 2 ^ k % 4294967296 : Nat) : Int) := by rw [hm, Int.natCast_emod, Int.natCast_mul]; rfl
  have e2 : n = ((x.toNat / 2 ^ l : Nat) : Int) := by rw [hn, Int.natCast_ediv]
  have hx := x.isLt
  rw [e1, e2, u32_or_nat _ _ (Nat.mod_lt _ (by omega)) (Nat.lt_of_le_of_lt (Nat.div_le_self _ _) hx)]
  unfold ro
  rw [BitVec.rotateLeft_def, BitVec.toNat_or, BitVec.toNat_shiftLeft, BitVec.toNat_ushiftRight, Nat.mod_eq_of_lt (show k < 32 by omega), Nat.shiftLeft_eq, Nat.shiftRight_eq_div_pow, show 32 - k = l by omega]

theorem ret_int {k : IntKind} {a b : Int} (h : a = b) : Ending.returned (.int k a) = .returned (.int k b) := by rw [h]
theorem rot_any (x : BitVec 32) (z : Int) (k : Nat) (hk : (z = 15 ∧ k = 15) ∨ (z = 11 ∧ k = 11) ∨ (z = 9 ∧ k = 9) ∨ (z = 6 ∧ k = 6) ∨ (z = -15 ∧ k = 17) ∨ (z = -11 ∧ k = 21) ∨ (z = -9 ∧ k = 23) ∨ (z = -6 ∧ k = 26)) (w : World) :
    Calls Try.prog 25 #[.int .u32 (x.toNat : Int), .int .i64 z] w fun e w' => e = .returned (.int .u32 ((ro k x).toNat : Int)) ∧ w = w' := by
  have hx0 : (0 : Int) ≤ (x.toNat : Int) := by omega
  have hx1 : (x.toNat : Int) ≤ 4294967295 := by have := x.isLt; omega
  rcases hk with ⟨rfl, rfl⟩ | ⟨rfl, rfl⟩ | ⟨rfl, rfl⟩ | ⟨rfl, rfl⟩ | ⟨rfl, rfl⟩ | ⟨rfl, rfl⟩ | ⟨rfl, rfl⟩ | ⟨rfl, rfl⟩
  · have e1 : bits BinOp.and IntKind.u64 15 31 = 15 := by decide
    have e2 := rot32 x 15 17 (by omega) (by omega) (by omega) ((x.toNat : Int) * 32768 % 4294967296) ((x.toNat : Int) / 131072) (by simp) (by simp)
    go_enter Try.func25, Try.ntmps25
    go_wp2
    go_ret
    exact ⟨rfl, rfl⟩
  · have e1 : bits BinOp.and IntKind.u64 11 31 = 11 := by decide
    have e2 := rot32 x 11 21 (by omega) (by omega) (by omega) ((x.toNat : Int) * 2048 % 4294967296) ((x.toNat : Int) / 2097152) (by simp) (by simp)
    go_enter Try.func25, Try.ntmps25
    go_wp2
    go_ret
    exact ⟨rfl, rfl⟩
  · have e1 : bits BinOp.and IntKind.u64 9 31 = 9 := by decide
    have e2 := rot32 x 9 23 (by omega) (by omega) (by omega) ((x.toNat : Int) * 512 % 4294967296) ((x.toNat : Int) / 8388608) (by simp) (by simp)
    go_enter Try.func25, Try.ntmps25
    go_wp2
    go_ret
    exact ⟨rfl, rfl⟩
  · have e1 : bits BinOp.and IntKind.u64 6 31 = 6 := by decide
    have e2 := rot32 x 6 26 (by omega) (by omega) (by omega) ((x.toNat : Int) * 64 % 4294967296) ((x.toNat : Int) / 67108864) (by simp) (by simp)
    go_enter Try.func25, Try.ntmps25
    go_wp2
    go_ret
    exact ⟨rfl, rfl⟩
  · have e1 : bits BinOp.and IntKind.u64 (IntKind.u64.wrap (-15)) 31 = 17 := by decide
    have e2 := rot32 x 17 15 (by omega) (by omega) (by omega) ((x.toNat : Int) * 131072 % 4294967296) ((x.toNat : Int) / 32768) (by simp) (by simp)
    go_enter Try.func25, Try.ntmps25
    go_wp2
    go_ret
    exact ⟨rfl, rfl⟩
  · have e1 : bits BinOp.and IntKind.u64 (IntKind.u64.wrap (-11)) 31 = 21 := by decide
    have e2 := rot32 x 21 11 (by omega) (by omega) (by omega) ((x.toNat : Int) * 2097152 % 4294967296) ((x.toNat : Int) / 2048) (by simp) (by simp)
    go_enter Try.func25, Try.ntmps25
    go_wp2
    go_ret
    exact ⟨rfl, rfl⟩
  · have e1 : bits BinOp.and IntKind.u64 (IntKind.u64.wrap (-9)) 31 = 23 := by decide
    have e2 := rot32 x 23 9 (by omega) (by omega) (by omega) ((x.toNat : Int) * 8388608 % 4294967296) ((x.toNat : Int) / 512) (by simp) (by simp)
    go_enter Try.func25, Try.ntmps25
    go_wp2
    go_ret
    exact ⟨rfl, rfl⟩
  · have e1 : bits BinOp.and IntKind.u64 (IntKind.u64.wrap (-6)) 31 = 26 := by decide
    have e2 := rot32 x 26 6 (by omega) (by omega) (by omega) ((x.toNat : Int) * 67108864 % 4294967296) ((x.toNat : Int) / 64) (by simp) (by simp)
    go_enter Try.func25, Try.ntmps25
    go_wp2
    go_ret
    exact ⟨rfl, rfl⟩

/-- Four words as a value. -/
@[reducible] def ag (x : W4) : Value := .agg #[.int .u32 (x.a.toNat : Int), .int .u32 (x.b.toNat : Int), .int .u32 (x.c.toNat : Int), .int .u32 (x.d.toNat : Int)]

set_option maxHeartbeats 1000000 in
theorem turn_any (x : W4) (w : World) : Calls Try.prog 17 #[ag x] w fun e w' => e = .returned (ag (turnW x)) ∧ Below w.heap.size w w' := by
  have r1 := add32
  have r2 := xor32
  obtain ⟨a, b, c, d⟩ := x
  go_enter Try.func17, Try.ntmps17
  go_wp2_with (go_at_call 27; go_in)
  refine (rot_any _ 15 15 (by simp) _).mono ?_
  rintro e w' ⟨rfl, rfl⟩
  go_wp2_with (go_at_call 27; go_in)
  refine (rot_any _ 11 11 (by simp) _).mono ?_
  rintro e w' ⟨rfl, rfl⟩
  go_wp2_with fail
  go_end0
  go_wp2_with (go_at_call 27; go_in)
  refine (rot_any _ 9 9 (by simp) _).mono ?_
  rintro e w' ⟨rfl, rfl⟩
  go_wp2_with fail
  refine (rot_any _ 6 6 (by simp) _).mono ?_
  rintro e w' ⟨rfl, rfl⟩
  go_wp2_with fail
  go_end0
  go_wp2_with fail
  exact bodyPost_ret (v := ag (turnW ⟨a, b, c, d⟩)) (by simp [results, Try.results17, go_sem, turnW, halfT]) rfl ⟨rfl, ((Below.refl _ w).alloc (Nat.le_refl _) _).alloc (by simp) _⟩

/-- The cells of four words. -/
@[reducible] def cl (x : W4) : Array Value := #[.int .u32 (x.a.toNat : Int), .int .u32 (x.b.toNat : Int), .int .u32 (x.c.toNat : Int), .int .u32 (x.d.toNat : Int)]
set_option maxHeartbeats 1000000 in
theorem halfB_any (z1 z2 : Int) (k m : Nat) (hk : (z1 = 9 ∧ z2 = 6 ∧ k = 23 ∧ m = 26) ∨ (z1 = 15 ∧ z2 = 11 ∧ k = 17 ∧ m = 21)) (B : Nat) (x : W4) (w : World) (hb : Blk w B 23 (cl x)) :
    Calls Try.prog 24 #[.int .i64 z1, .int .i64 z2, .pointer (some ⟨B, 0, none⟩)] w fun e w' => e = .returned (.tuple #[]) ∧ Blk w' B 23 (cl (halfB k m x)) ∧ w.grownBy w' (some B) := by
  have hmx : Try.prog.follows Departure.mixedOrders = true := by kernel_rfl
  have r1 := sub32
  have r2 := xor32
  obtain ⟨a, b, c, d⟩ := x
  have n1 : IntKind.i64.wrap (-z1) = -z1 := by rcases hk with ⟨rfl, rfl, rfl, rfl⟩ | ⟨rfl, rfl, rfl, rfl⟩ <;> decide
  have n2 : IntKind.i64.wrap (-z2) = -z2 := by rcases hk with ⟨rfl, rfl, rfl, rfl⟩ | ⟨rfl, rfl, rfl, rfl⟩ <;> decide
  have q1 : ∀ (x : BitVec 32) (w : World), Calls Try.prog 25 #[.int .u32 (x.toNat : Int), .int .i64 (-z1)] w fun e w' => e = .returned (.int .u32 ((ro k x).toNat : Int)) ∧ w' = w := fun x w =>
    (rot_any x _ _ (by rcases hk with ⟨rfl, rfl, rfl, rfl⟩ | ⟨rfl, rfl, rfl, rfl⟩ <;> simp) w).mono fun _ _ h => ⟨h.1, h.2.symm⟩
  have q2 : ∀ (x : BitVec 32) (w : World), Calls Try.prog 25 #[.int .u32 (x.toNat : Int), .int .i64 (-z2)] w fun e w' => e = .returned (.int .u32 ((ro m x).toNat : Int)) ∧ w' = w := fun x w =>
    (rot_any x _ _ (by rcases hk with ⟨rfl, rfl, rfl, rfl⟩ | ⟨rfl, rfl, rfl, rfl⟩ <;> simp) w).mono fun _ _ h => ⟨h.1, h.2.symm⟩
  have Q1 := Lib.hid q1; clear q1
  have Q2 := Lib.hid q2; clear q2
  have HK := Lib.hid hk; clear hk
  obtain ⟨w1, hw1⟩ : ∃ w1, w.drew = w1 := ⟨_, rfl⟩
  have hb1 : Blk w1 B 23 _ := hw1 ▸ hb.drew
  have hg1 : w.grownBy w1 (some B) := by rw [← hw1]; exact only_drew (World.grownBy.refl w _)
  have HW := Lib.hid hw1; clear hw1
  have HG := Lib.hid hg1; clear hg1
  have HB := Lib.hid hb1; clear hb1
  clear hb
  have c0 := HB.out.cell 0
  have c1 := HB.out.cell 1
  have c2 := HB.out.cell 2
  have c3 := HB.out.cell 3
  have f := fun i => HB.out.frozen i
  go_enter Try.func24, Try.ntmps24
  go_wp2_with fail
  refine region_tail 9 hmx (by kernel_rfl) HW.out ?_
  simp only [List.take_succ_cons, List.take_zero, List.drop_succ_cons, List.drop_zero]
  repeat still_step
  still_call (Q2.out _ _)
  repeat still_step
  refine wpStill_nil ?_
  go_wp2_with fail
  obtain ⟨w2, hw2⟩ : ∃ w2, ((w1.setCell ⟨B, 1, none⟩ (.int .u32 ((xo (ro m b) c).toNat : Int))).setCell ⟨B, 2, none⟩ (.int .u32 ((mi c d).toNat : Int))).drew = w2 := ⟨_, rfl⟩
  have hb2 : Blk w2 B 23 #[.int .u32 (a.toNat : Int), .int .u32 ((xo (ro m b) c).toNat : Int), .int .u32 ((mi c d).toNat : Int), .int .u32 (d.toNat : Int)] := hw2 ▸ ((HB.out.set_ 1 _).set_ 2 _).drew
  have hg2 : w.grownBy w2 (some B) := by rw [← hw2]; exact only_drew (only_setCell (only_setCell HG.out (.inl rfl) _) (.inl rfl) _)
  have HW2 := Lib.hid hw2; clear hw2
  have HG2 := Lib.hid hg2; clear hg2
  have HB2 := Lib.hid hb2; clear hb2
  clear c0 c1 c2 c3 f HB HG
  have c0 := HB2.out.cell 0
  have c1 := HB2.out.cell 1
  have c2 := HB2.out.cell 2
  have c3 := HB2.out.cell 3
  have f := fun i => HB2.out.frozen i
  refine region_tail 9 hmx (by kernel_rfl) HW2.out ?_
  simp only [List.take_succ_cons, List.take_zero, List.drop_succ_cons, List.drop_zero]
  repeat still_step
  still_call (Q1.out _ _)
  repeat still_step
  refine wpStill_nil ?_
  go_wp2_with fail
  go_end0
  exact ⟨rfl, (HB2.out.set_ 3 _).set_ 0 _, only_setCell (only_setCell HG2.out (.inl rfl) _) (.inl rfl) _⟩

set_option maxHeartbeats 1000000 in
theorem back_any (x : W4) (w : World) : Calls Try.prog 12 #[ag x] w fun e w' => e = .returned (ag (backW x)) ∧ Below w.heap.size w w' := by
  have hb0 : Blk ((w.alloc (.cells (cl x) 23)).alloc (.cells #[.int .u32 0, .int .u32 0, .int .u32 0, .int .u32 0] 23)) w.heap.size 23 (cl x) := (Blk.new w _ _).alloc _
  have hr0 := Blk.new (w.alloc (.cells (cl x) 23)) 23 #[.int .u32 0, .int .u32 0, .int .u32 0, .int .u32 0]
  have hB0 : Below w.heap.size w ((w.alloc (.cells (cl x) 23)).alloc (.cells #[.int .u32 0, .int .u32 0, .int .u32 0, .int .u32 0] 23)) := ((Below.refl _ w).alloc (Nat.le_refl _) _).alloc (by simp) _
  rw [World.size_alloc] at hr0
  have HB0 := Lib.hid hb0; clear hb0
  have HR0 := Lib.hid hr0; clear hr0
  have HBe := Lib.hid hB0; clear hB0
  obtain ⟨a, b, c, d⟩ := x
  go_enter Try.func12, Try.ntmps12
  go_wp2_with fail
  refine (halfB_any _ _ 23 26 (by simp) _ _ _ HB0.out).mono ?_
  rintro e w1 ⟨rfl, hb1, hg1⟩
  have HB1 := Lib.hid hb1; clear hb1
  have hr1 := HR0.out.grown hg1 (by simp)
  have HR1 := Lib.hid hr1; clear hr1
  have hbe1 := below_only HBe.out (Nat.le_refl _) hg1 HBe.out.size
  have HBe1 := Lib.hid hbe1; clear hbe1 hg1
  go_wp2_with fail
  refine (halfB_any _ _ 17 21 (by simp) _ _ _ HB1.out).mono ?_
  rintro e w2 ⟨rfl, hb2, hg2⟩
  have hr2 := HR1.out.grown hg2 (by simp)
  have HBe2 := Lib.hid (below_only HBe1.out (Nat.le_refl _) hg2 HBe1.out.size)
  clear hg2
  have HB2 := Lib.hid hb2; clear hb2
  have HR2 := Lib.hid hr2; clear hr2
  have c0 := HB2.out.cell 0
  have c1 := HB2.out.cell 1
  have c2 := HB2.out.cell 2
  have c3 := HB2.out.cell 3
  have d0 := HR2.out.cell 0
  have d1 := HR2.out.cell 1
  have d2 := HR2.out.cell 2
  have d3 := HR2.out.cell 3
  have f := fun i => HR2.out.frozen i
  go_wp2_with fail
  have hR := HR2.out.set4 (.int .u32 ((halfB 17 21 (halfB 23 26 ⟨a, b, c, d⟩)).a.toNat : Int)) (.int .u32 ((halfB 17 21 (halfB 23 26 ⟨a, b, c, d⟩)).b.toNat : Int)) (.int .u32 ((halfB 17 21 (halfB 23 26 ⟨a, b, c, d⟩)).c.toNat : Int)) (.int .u32 ((halfB 17 21 (halfB 23 26 ⟨a, b, c, d⟩)).d.toNat : Int))
  have e0 := hR.cell 0
  have e1 := hR.cell 1
  have e2 := hR.cell 2
  have e3 := hR.cell 3
  have E := below_set4 HBe2.out (g := w.heap.size + 1) (by omega) (.int .u32 ((halfB 17 21 (halfB 23 26 ⟨a, b, c, d⟩)).a.toNat : Int)) (.int .u32 ((halfB 17 21 (halfB 23 26 ⟨a, b, c, d⟩)).b.toNat : Int)) (.int .u32 ((halfB 17 21 (halfB 23 26 ⟨a, b, c, d⟩)).c.toNat : Int)) (.int .u32 ((halfB 17 21 (halfB 23 26 ⟨a, b, c, d⟩)).d.toNat : Int))
  clear hR
  exact bodyPost_ret (v := ag (backW ⟨a, b, c, d⟩)) (by simp [results, Try.results12, go_sem, e0, e1, e2, e3, backW]) rfl ⟨rfl, E⟩
end Go.Proofs.Ythndfdnfaeioeaa
