/-
  Two arrays of four words are compared as one: equal just where each word is.
-/
import Derived.Test.YtoednighmdoooaaKey
import Derived.ChangeKeysEq
namespace Go.Proofs.Ytoednighmdoooaa
open Go.RowKit Go.Shelf
set_option maxRecDepth 100000

/-- Are the four words the same? -/
def eqW (x y : W4) : Bool := x.a == y.a && (x.b == y.b && (x.c == y.c && x.d == y.d))
theorem eqW_iff (x y : W4) : eqW x y = true ↔ x = y := by
  obtain ⟨a, b, c, d⟩ := x
  obtain ⟨a', b', c', d'⟩ := y
  simp [eqW]
theorem eqW_self (x : W4) : eqW x x = true := (eqW_iff x x).2 rfl
theorem natcast_beq (x y : BitVec 32) : (((x.toNat : Nat) : Int) == ((y.toNat : Nat) : Int)) = (x == y) := by
  rw [Bool.eq_iff_iff]
  simp only [beq_iff_eq]
  constructor
  · intro h
    exact BitVec.eq_of_toNat_eq (by omega)
  · intro h; rw [h]
theorem u22 : Try.prog.underlying 76 = some (.int .u32) := by kernel_rfl
theorem p22 (cs : Array Value) (i : Nat) (v : Value) (h : cs[i]? = some v) (w : World) : (part 76 cs i).run Try.prog w = .ok v w := run_part_plain w (by kernel_rfl) h
theorem z22 (w : World) : (Go.sizeOf 76).run Try.prog w = .ok 1 w := by kernel_rfl
theorem eql4 (x y : W4) (w : World) : (Op.equalIn 10000 78 (ag x) (ag y)).run Try.prog w = .ok (eqW x y) w := by
  have hu : Try.prog.underlying 78 = some (.array 4 76) := by kernel_rfl
  unfold Op.equalIn
  simp only [Sem.run_bind, run_underlying hu, Result.andThen_ok, z22]
  rw [Std.Legacy.Range.forIn_eq_forIn_range']
  have hr : List.range' (0 : Nat) 4 1 = [0, 1, 2, 3] := rfl
  have h0 : ∀ (v : BitVec 32) (z : BitVec 32) (w : World), (Op.equalIn 9999 76 (.int .u32 (v.toNat : Int)) (.int .u32 (z.toNat : Int))).run Try.prog w = .ok (v == z) w := fun v z w => by rw [run_equalIn_int w 9998 76 .u32 .u32 _ _ u22, natcast_beq]
  simp only [Std.Legacy.Range.size, Nat.sub_zero, Nat.add_sub_cancel, Nat.div_one, hr, List.forIn_cons, List.forIn_nil, Sem.run_bind]
  rw [p22 _ _ (.int .u32 (x.a.toNat : Int)) rfl, Result.andThen_ok, p22 _ _ (.int .u32 (y.a.toNat : Int)) rfl, Result.andThen_ok, h0, Result.andThen_ok]
  cases ha : (x.a == y.a)
  · simp [eqW, ha]
  · simp only [Bool.not_true, Bool.false_eq_true, if_false, Sem.run_pure, Result.andThen_ok, Sem.run_bind]
    rw [p22 _ _ (.int .u32 (x.b.toNat : Int)) rfl, Result.andThen_ok, p22 _ _ (.int .u32 (y.b.toNat : Int)) rfl, Result.andThen_ok, h0, Result.andThen_ok]
    cases hb : (x.b == y.b)
    · simp [eqW, ha, hb]
    · simp only [Bool.not_true, Bool.false_eq_true, if_false, Sem.run_pure, Result.andThen_ok, Sem.run_bind]
      rw [p22 _ _ (.int .u32 (x.c.toNat : Int)) rfl, Result.andThen_ok, p22 _ _ (.int .u32 (y.c.toNat : Int)) rfl, Result.andThen_ok, h0, Result.andThen_ok]
      cases hc : (x.c == y.c)
      · simp [eqW, ha, hb, hc]
      · simp only [Bool.not_true, Bool.false_eq_true, if_false, Sem.run_pure, Result.andThen_ok, Sem.run_bind]
        rw [p22 _ _ (.int .u32 (x.d.toNat : Int)) rfl, Result.andThen_ok, p22 _ _ (.int .u32 (y.d.toNat : Int)) rfl, Result.andThen_ok, h0, Result.andThen_ok]
        cases hd : (x.d == y.d)
        · simp [eqW, ha, hb, hc, hd]
        · simp [eqW, ha, hb, hc, hd]

/-- The run of == over words, as the walk meets it. -/
theorem eql4_lit (a b c d a' b' c' d' : BitVec 32) (w : World) : (Op.equalIn 10000 78 (.agg #[.int .u32 (a.toNat : Int), .int .u32 (b.toNat : Int), .int .u32 (c.toNat : Int), .int .u32 (d.toNat : Int)]) (.agg #[.int .u32 (a'.toNat : Int), .int .u32 (b'.toNat : Int), .int .u32 (c'.toNat : Int), .int .u32 (d'.toNat : Int)])).run Try.prog w = .ok (eqW ⟨a, b, c, d⟩ ⟨a', b', c', d'⟩) w := eql4 ⟨a, b, c, d⟩ ⟨a', b', c', d'⟩ w
end Go.Proofs.Ytoednighmdoooaa
