/-
  Texts of one seat, one behind the other.
-/
import Derived.Laws.CopyOwn
import Derived.RegionTactic
import Derived.Deep.RegionWith
import Derived.Laws.BitsAllLaws
import Derived.StillTailTactics
import Derived.Outline
import Derived.Deep.RegionHeld3
import Derived.Lib.AppendZeros
import Derived.Deep.CutRange
import Derived.Deep.DeepCutAuto
import Derived.ChangeKeysEq
import Derived.Test.YtldnelimemjaiaaGreatDoorPkLR2
/-
  label.Slot, isUpTo, isRoot, mayBe, bytesOf and numberAt, whatever they are handed; nothing that was there is written.
-/
namespace Go.Proofs.YtldnelimemjaiaaGreatDoor
open Go.RowKit Go.Shelf
set_option maxRecDepth 100000

theorem lSlot_any (g : Nat) (_hg : g < 4294967296) (w : World) : Calls Tryz.prog 11 #[.int .u32 (g : Int)] w fun e w' => e = .returned (.int .i64 ((g % 4 : Nat) : Int)) ∧ w = w' := by
  have i0 : (0 : Int) ≤ (g : Int) := by omega
  have i1 : (g : Int) ≤ 4294967295 := by omega
  have e1 : ((g % 4 : Nat) : Int) = (g : Int) % 4 := by omega
  rw [e1]
  have i2 : (0 : Int) ≤ (g : Int) % 4 := by omega
  have i3 : (g : Int) % 4 ≤ 3 := by omega
  go_enter Tryz.func11, Tryz.ntmps11
  go_wp2_with fail
  go_ret
  exact ⟨rfl, rfl⟩
theorem lUpTo_any (n m : Nat) (w : World) : Calls Tryz.prog 27 #[.int .u32 (n : Int), .int .u32 (m : Int)] w fun e w' => e = .returned (.bool (decide (1 ≤ n ∧ n ≤ m))) ∧ w = w' := by
  by_cases h : 1 ≤ n
  · have i1 : (1 : Int) ≤ (n : Int) := by omega
    by_cases h2 : n ≤ m
    · rw [decide_eq_true (And.intro h h2)]
      have i2 : (n : Int) ≤ (m : Int) := by omega
      go_enter Tryz.func27, Tryz.ntmps27
      go_wp2_with fail
      go_ret
      exact ⟨rfl, rfl⟩
    · rw [decide_eq_false (fun hh : 1 ≤ n ∧ n ≤ m => h2 hh.2)]
      have i2 : ¬ (n : Int) ≤ (m : Int) := by omega
      go_enter Tryz.func27, Tryz.ntmps27
      go_wp2_with fail
      go_ret
      exact ⟨rfl, rfl⟩
  · rw [decide_eq_false (fun hh : 1 ≤ n ∧ n ≤ m => h hh.1)]
    have i1 : ¬ (1 : Int) ≤ (n : Int) := by omega
    go_enter Tryz.func27, Tryz.ntmps27
    go_wp2_with fail
    go_ret
    exact ⟨rfl, rfl⟩
/-- May a root be? -/
def rootB (p : Pt) : Bool := decide (p ≠ p0 ∧ MayP p)
theorem lRoot_any (p : Pt) (w : World) : Calls Tryz.prog 28 #[ptV p] w fun e w' => e = .returned (.bool (rootB p)) ∧ Below w.heap.size w w' := by
  have hm := Check_any p (w.alloc (.cells (ptC p).toArray 28))
  have hb1 : Below w.heap.size w (w.alloc (.cells (ptC p).toArray 28)) := (Below.refl _ w).alloc (Nat.le_refl _) _
  have HB := Lib.hid hb1; clear hb1
  obtain ⟨a, b, c, d, e⟩ := p
  have heq := eqPt_zero a b c d e
  by_cases h0 : eqP (a, b, c, d, e) p0 = true
  · have hr : rootB (a, b, c, d, e) = false := decide_eq_false fun hh => hh.1 ((eqP_iff _ _).1 h0)
    rw [hr]
    rw [h0] at heq
    clear hm h0 hr
    go_enter Tryz.func28, Tryz.ntmps28
    go_wp2_with fail
    go_ret
    exact ⟨rfl, HB.out⟩
  · have h0' : eqP (a, b, c, d, e) p0 = false := by simpa using h0
    rw [h0'] at heq
    have hne : (a, b, c, d, e) ≠ p0 := fun hh => h0 ((eqP_iff _ _).2 hh)
    rw [pcheckO] at hm
    by_cases h1 : MayP (a, b, c, d, e)
    · have hr : rootB (a, b, c, d, e) = true := decide_eq_true ⟨hne, h1⟩
      rw [hr]
      rw [if_pos h1] at hm
      have HM := Lib.hid hm
      clear hm h0 h0' hr hne h1
      go_enter Tryz.func28, Tryz.ntmps28
      go_wp2_with (go_at_call 57; refine HM.out.mono ?_; rintro ev w1 ⟨rfl, b1⟩; have HB1 := Lib.hid (HB.out.trans (b1.mono (by simp [ptC]))); clear b1)
      go_ret
      exact ⟨rfl, HB1.out⟩
    · have hr : rootB (a, b, c, d, e) = false := decide_eq_false fun hh => h1 hh.2
      rw [hr]
      rw [if_neg h1] at hm
      have HM := Lib.hid hm
      clear hm h0 h0' hr hne h1
      go_enter Tryz.func28, Tryz.ntmps28
      go_wp2_with (go_at_call 57; refine HM.out.mono ?_; rintro ev w1 ⟨rfl, b1⟩; have HB1 := Lib.hid (HB.out.trans (b1.mono (by simp [ptC]))); clear b1)
      go_ret
      exact ⟨rfl, HB1.out⟩
theorem mayL_parts (l : Lb) : decide (MayL l) = (decide (1 ≤ l.1 ∧ l.1 ≤ 16777215) && (decide (1 ≤ l.2.1 ∧ l.2.1 ≤ 65535) && rootB l.2.2)) := by
  rw [Bool.eq_iff_iff]
  simp only [rootB, Bool.and_eq_true, decide_eq_true_eq]
  exact Iff.rfl
theorem lMay_any (l : Lb) (w : World) : Calls Tryz.prog 14 #[lbV l] w fun e w' => e = .returned (.bool (decide (MayL l))) ∧ Below w.heap.size w w' := by
  obtain ⟨w0, hw0⟩ : ∃ w0, w.alloc (.cells (lbC l).toArray 30) = w0 := ⟨_, rfl⟩
  have hb1 : Below w.heap.size w w0 := by rw [← hw0]; exact (Below.refl _ w).alloc (Nat.le_refl _) _
  have hk : Blk w0 w.heap.size 30 (lbC l).toArray := by rw [← hw0]; exact Blk.new w _ _
  have HB := Lib.hid hb1; clear hb1
  rw [mayL_parts]
  have h1 := lUpTo_any l.1 16777215
  have h2 := lUpTo_any l.2.1 65535
  have h3 := lRoot_any l.2.2 w0
  obtain ⟨r1, hr1⟩ : ∃ r, decide (1 ≤ l.1 ∧ l.1 ≤ 16777215) = r := ⟨_, rfl⟩
  obtain ⟨r2, hr2⟩ : ∃ r, decide (1 ≤ l.2.1 ∧ l.2.1 ≤ 65535) = r := ⟨_, rfl⟩
  obtain ⟨r3, hr3⟩ : ∃ r, rootB l.2.2 = r := ⟨_, rfl⟩
  rw [hr1] at h1 ⊢
  rw [hr2] at h2 ⊢
  rw [hr3] at h3 ⊢
  clear hr1 hr2 hr3
  obtain ⟨g, e, a, b, c, d, f⟩ := l
  obtain ⟨c0, c1, c2, c3, c4, c5, c6⟩ := hk.seven
  simp only [lbC] at hw0
  clear hk
  have H1 := Lib.hid h1
  have H2 := Lib.hid h2
  have H3 := Lib.hid h3
  clear h1 h2 h3
  cases r1 with
  | false =>
    go_enter Tryz.func14, Tryz.ntmps14
    go_wp2_with (go_at_call 27; refine (H1.out _).mono ?_; rintro ev w1 ⟨rfl, rfl⟩)
    go_ret
    exact ⟨rfl, HB.out⟩
  | true =>
    cases r2 with
    | false =>
      go_enter Tryz.func14, Tryz.ntmps14
      go_wp2_with (first
        | (go_at_call 27; refine (H1.out _).mono ?_; rintro ev w1 ⟨rfl, rfl⟩; clear H1)
        | (go_at_call 27; refine (H2.out _).mono ?_; rintro ev w1 ⟨rfl, rfl⟩))
      go_ret
      exact ⟨rfl, HB.out⟩
    | true =>
      go_enter Tryz.func14, Tryz.ntmps14
      go_wp2_with (first
        | (go_at_call 27; refine (H1.out _).mono ?_; rintro ev w1 ⟨rfl, rfl⟩; clear H1)
        | (go_at_call 27; refine (H2.out _).mono ?_; rintro ev w1 ⟨rfl, rfl⟩; clear H2)
        | (go_at_call 28; refine H3.out.mono ?_; rintro ev w1 ⟨rfl, b1⟩; have HB1 := Lib.hid (HB.out.trans (b1.mono HB.out.size)); clear b1))
      go_ret
      exact ⟨by simp, HB1.out⟩
theorem lBytes_any (n : Nat) (hn : n < 4294967296) (w : World) : Calls Tryz.prog 35 #[.int .u32 (n : Int)] w fun e w' => ∃ g, e = .returned (.slice (some ⟨g, 0, none⟩) 4 4) ∧ w.heap.size ≤ g ∧ Bsl w' w'.heap.size (some ⟨g, 0, none⟩) 4 4 (leB 4 n) ∧ Below w.heap.size w w' := by
  have hp := put_ok n 4 (by omega) (by omega) (by omega) w
  have i0 : (0 : Int) ≤ (n : Int) := by omega
  have i1 : (n : Int) ≤ 4294967295 := by omega
  have HP := Lib.hid hp
  clear hp
  go_enter Tryz.func35, Tryz.ntmps35
  go_wp2_with (go_at_call 64; refine HP.out.mono ?_; rintro ev w1 ⟨rfl, h1, b1, z1⟩; have HH := Lib.hid h1; have HB := Lib.hid b1; have HZ := Lib.hid z1; clear h1 b1 z1)
  go_ret
  exact ⟨w.heap.size + 1, rfl, by omega, bsl_of_holds (leB_length 4 n) (Nat.le_refl _) (by unfold maxLen; omega) HZ.out HH.out, HB.out⟩
theorem lNum_any {w : World} {a : Option Addr} {len cap : Nat} {s : List UInt8} (h : Bsl w w.heap.size a len cap s) (i : Nat) (hi : i + 4 ≤ len) :
    Calls Tryz.prog 47 #[.slice a len cap, .int .i64 (i : Int)] w fun e w' => e = .returned (.int .u32 ((leN ((s.drop i).take 4) : Nat) : Int)) ∧ Below w.heap.size w w' := by
  have hg := get_bsl h i 4 (by omega) (by omega) hi
  have hl := leN_le s i 4
  obtain ⟨n, hn⟩ : ∃ n, leN ((s.drop i).take 4) = n := ⟨_, rfl⟩
  rw [hn] at hg hl ⊢
  have i0 : (0 : Int) ≤ (n : Int) := by omega
  have i1 : (n : Int) ≤ 4294967295 := by omega
  have HG := Lib.hid hg
  clear hg h hn hl
  go_enter Tryz.func47, Tryz.ntmps47
  go_wp2_with (go_at_call 70; refine HG.out.mono ?_; rintro ev w1 ⟨rfl, b1⟩; have HB := Lib.hid b1; clear b1)
  go_ret
  exact ⟨rfl, HB.out⟩
end Go.Proofs.YtldnelimemjaiaaGreatDoor
/-
  copy of bytes over a part of a row that is known whole, into a slice that may be longer than what is copied; parts of slices.
-/
namespace Go.Proofs.YtldnelimemjaiaaGreatDoor
open Go.RowKit Go.Shelf
set_option maxRecDepth 100000

theorem copyAt {P : Program} {ops : Array Oper} {Q : Exit → Act → World → Prop} {a : Act} {w : World} {rest : List Oper} {d : Option Tmp} {ty : TypeId} {x : Array Operand} {y : Array TypeId} {pos : String} {af : Array Edge} (h : wpList P ops Q (⟨d, .call { callee := .builtin .copy, args := x, argTypes := y }, ty, pos, af, none⟩ :: rest) a w) : wpList P ops Q (⟨d, .call { callee := .builtin .copy, args := x, argTypes := y }, ty, pos, af, none⟩ :: rest) a w := h
theorem infoB1 : (Tryz.prog.info? 5).map (·.size) = some 1 := by kernel_rfl
/-- s laid over t from o on. -/
def ovrL (t : List UInt8) (o : Nat) (s : List UInt8) : List UInt8 := t.take o ++ (s ++ t.drop (o + s.length))
theorem ovrL_length {t : List UInt8} {o : Nat} {s : List UInt8} (h : o + s.length ≤ t.length) : (ovrL t o s).length = t.length := by simp [ovrL]; omega
/-- copy(dst, src), where what is copied fits. -/
theorem wpList_copy_part {w : World} {ops : Array Oper} {rest : List Oper} {o : Oper} {a : Act} {Q : Exit → Act → World → Prop} (hgd : o.guard = none) (d s : Operand)
    (ho : o.op = .call { callee := .builtin .copy, args := #[d, s], argTypes := #[45, 45] })
    (g off m n cap : Nat) (hd : a.eval d = .slice (some ⟨g, off, none⟩) m cap) (t : List UInt8) (hg : Blk w g 5 (ar t))
    (B : Nat) (A : Option Addr) (c : Nat) (news : List UInt8) (hs : a.eval s = .slice A n c) (hb : Bsl w B A n c news) (hn : 0 < n) (hnm : n ≤ m) (hfit : off + n ≤ t.length)
    (h : ∀ w', Blk w' g 5 (ar (ovrL t off news)) → w.grownBy w' (some g) → w'.heap.size = w.heap.size → wpList Tryz.prog ops Q rest (a.put o.dst (.int .i64 n)) w') : wpList Tryz.prog ops Q (o :: rest) a w := by
  obtain ⟨h1, h2, h3, h4, h5⟩ := hb
  obtain ⟨b, of, rfl, _, hc⟩ := h5 hn
  have hl : (vals news).length = n := by simp [vals, h1]
  refine wpList_copy_own hgd d s 45 45 ho 5 Tryz.underlying45 infoB1 g off m cap ⟨b, of, none⟩ n c hd hs (ar t) 5 hg (vals news) (by rw [hl]; exact (Nat.min_eq_left hnm).symm) (fun j v hv => ?_) (by rw [hl, ar_size]; exact hfit) (fun v hv => ?_) ?_
  · obtain ⟨hj, rfl⟩ := vals_get hv
    have : (⟨b, of, none⟩ : Addr).add j = ⟨b, of + j, none⟩ := by unfold Addr.add; split <;> simp_all
    rw [this]
    exact hc j hj
  · obtain ⟨y, _, rfl⟩ := List.mem_map.1 hv
    rfl
  · have e : ((ar t).toList.take off ++ (vals news ++ (ar t).toList.drop (off + (vals news).length))).toArray = ar (ovrL t off news) := by
      rw [hl]
      simp [ar, ovrL, vals, h1]
    rw [e]
    have hx : (goInt (vals news).length) = .int .i64 n := by rw [hl]; rfl
    rw [hx]
    exact h _ (Blk.setRow hg) ⟨rfl, rfl, rfl, by simp [World.setRow], fun i hi hne => setRow_other w g i _ (fun e => hne (by rw [e]))⟩ (by simp [World.setRow])
/-- s[l:], where it is not empty. -/
theorem slice_from_l (W : World) (g off len cap l : Nat) (hl : l < len) (hc : len ≤ cap) : (Instr.slice 45 (.slice (some ⟨g, off, none⟩) len cap) (some (.int .i64 (l : Int))) none none).run Tryz.prog W = .ok (.slice (some ⟨g, off + l, none⟩) (len - l) (cap - l)) W := by
  rw [run_slice_l W 45 _ _ _ (by kernel_rfl) .i64 _ (by omega) (by omega)]
  have hz : (Go.sizeOf (Tryz.prog.elem 45)).run Tryz.prog W = .ok 1 W := by kernel_rfl
  rw [hz]
  simp [Result.andThen, sliced, Addr.add]
  rw [if_neg (by omega)]
  by_cases h0 : l = 0
  · subst h0; simp
  · rw [if_neg h0]
/-- make([]byte, n). -/
theorem mkBytes (n : Nat) (hn : n ≤ 1000000000000) (W : World) : (Instr.makeSlice 45 (.int .i64 n) (.int .i64 n)).run Tryz.prog W = .ok (.slice (some ⟨W.heap.size, 0, none⟩) n n) (W.alloc (.cells (ar (List.replicate n 0)) 5)) := by
  obtain ⟨i0, hi, hz0, hz1, hz2⟩ := info_parts infoU8
  have hr := run_make (P := Tryz.prog) W 45 5 i0 (.int .u8 0) Tryz.underlying45 hi hz0 .i64 .i64 n n (by omega) (Int.le_refl _) (by rw [hz2]; omega) (by omega)
  rw [hz1] at hr
  simp only [Int.toNat_natCast] at hr
  have e : madeCells (Value.int .u8 0).cells (n * 1) = ar (List.replicate n 0) := by
    apply Array.ext
    · simp [size_madeCells, ar, vals]
    · intro i h1 h2
      simp [madeCells, Value.cells, Nat.mod_one, ar, vals]
  rw [e] at hr
  exact hr
end Go.Proofs.YtldnelimemjaiaaGreatDoor
/-
  copy of bytes into a row that is known whole, as one operation of a region that draws its order.
-/
namespace Go.Proofs.YtldnelimemjaiaaGreatDoor
open Go.RowKit Go.Shelf
set_option maxRecDepth 100000

theorem wpI_copy_part {w : World} {ops : Array Oper} {o : Oper} {a : Act} {K : Act → World → Prop} {Q : Exit → Act → World → Prop} {E : Prop} (hgd : o.guard = none) (d s : Operand)
    (ho : o.op = .call { callee := .builtin .copy, args := #[d, s], argTypes := #[45, 45] })
    (g off m n cap : Nat) (hd : a.eval d = .slice (some ⟨g, off, none⟩) m cap) (t : List UInt8) (hg : Blk w g 5 (ar t))
    (B : Nat) (A : Option Addr) (c : Nat) (news : List UInt8) (hs : a.eval s = .slice A n c) (hb : Bsl w B A n c news) (hn : 0 < n) (hnm : n ≤ m) (hfit : off + n ≤ t.length)
    (h : ∀ w', Blk w' g 5 (ar (ovrL t off news)) → w.grownBy w' (some g) → w'.heap.size = w.heap.size → K (a.put o.dst (.int .i64 n)) w') : if Region.wanted o (yielded ops a.tmps) = true then Oper.wp Tryz.prog o a w K Q else E := by
  rw [if_pos (by simp [Region.wanted, hgd])]
  obtain ⟨h1, h2, h3, h4, h5⟩ := hb
  obtain ⟨b, of, rfl, _, hc⟩ := h5 hn
  have hl : (vals news).length = n := by simp [vals, h1]
  have hrun := run_copy_row (P := Tryz.prog) w 45 45 o.type 5 g off m cap ⟨b, of, none⟩ n c (ar t) 5 (vals news) Tryz.underlying45 infoB1 hg (by rw [hl]; exact (Nat.min_eq_left hnm).symm) (fun j v hv => by
    obtain ⟨hj, rfl⟩ := vals_get hv
    have : (⟨b, of, none⟩ : Addr).add j = ⟨b, of + j, none⟩ := by unfold Addr.add; split <;> simp_all
    rw [this]
    exact hc j hj) (by rw [hl, ar_size]; exact hfit) (fun v hv => by
    obtain ⟨y, _, rfl⟩ := List.mem_map.1 hv
    rfl)
  have e : ((ar t).toList.take off ++ vals news ++ (ar t).toList.drop (off + (vals news).length)).toArray = ar (ovrL t off news) := by
    rw [hl]
    simp [ar, ovrL, vals, h1]
  have hx : (goInt (vals news).length) = .int .i64 n := by rw [hl]; rfl
  rw [e, hx] at hrun
  unfold Oper.wp
  simp [execOp, ho, resolve, invoke, builtin, hd, hs, hrun, Result.andThen]
  exact (h _ (Blk.setRow hg) ⟨rfl, rfl, rfl, by simp [World.setRow], fun i hi hne => setRow_other w g i _ (fun e => hne (by rw [e]))⟩ (by simp [World.setRow]))
end Go.Proofs.YtldnelimemjaiaaGreatDoor
/-
  mix.Turn and mix.Back, whatever four words they are handed, answer these words turned, there and back; nothing that was there is written.
-/
namespace Go.Proofs.YtldnelimemjaiaaGreatDoor
open Go.RowKit Go.Shelf
set_option maxRecDepth 100000

theorem add32 (x y : BitVec 32) : ((x.toNat : Int) + (y.toNat : Int)) % 4294967296 = ((pl x y).toNat : Int) := by
  unfold pl
  rw [BitVec.toNat_add]
  show ((x.toNat : Int) + (y.toNat : Int)) % ((4294967296 : Nat) : Int) = _
  rw [Int.natCast_emod]
  rfl
theorem sub32 (x y : BitVec 32) : ((x.toNat : Int) - (y.toNat : Int)) % 4294967296 = ((mi x y).toNat : Int) := by
  unfold mi
  rw [BitVec.toNat_sub]
  have := x.isLt; have := y.isLt
  omega
theorem xor32 (x y : BitVec 32) : bits .xor .u32 (x.toNat : Int) (y.toNat : Int) = ((xo x y).toNat : Int) := by
  rw [u32_xor_nat _ _ x.isLt y.isLt]
  rfl
/-- What RotateLeft32 makes of its two shifts. -/
theorem rot32 (x : BitVec 32) (k l : Nat) (hk : 0 < k) (hl : l + k = 32) (hl0 : 0 < l) (m n : Int) (hm : m = (x.toNat : Int) * ((2 ^ k : Nat) : Int) % 4294967296) (hn : n = (x.toNat : Int) / ((2 ^ l : Nat) : Int)) : bits .or .u32 m n = ((ro k x).toNat : Int) := by
  have e1 : m = ((x.toNat * 2 ^ k % 4294967296 : Nat) : Int) := by rw [hm, Int.natCast_emod, Int.natCast_mul]; rfl
  have e2 : n = ((x.toNat / 2 ^ l : Nat) : Int) := by rw [hn, Int.natCast_ediv]
  have hx := x.isLt
  rw [e1, e2, u32_or_nat _ _ (Nat.mod_lt _ (by omega)) (Nat.lt_of_le_of_lt (Nat.div_le_self _ _) hx)]
  unfold ro
  rw [BitVec.rotateLeft_def, BitVec.toNat_or, BitVec.toNat_shiftLeft, BitVec.toNat_ushiftRight, Nat.mod_eq_of_lt (show k < 32 by omega), Nat.shiftLeft_eq, Nat.shiftRight_eq_div_pow, show 32 - k = l by omega]

theorem ret_int {k : IntKind} {a b : Int} (h : a = b) : Ending.returned (.int k a) = .returned (.int k b) := by rw [h]
theorem rot_any (x : BitVec 32) (z : Int) (k : Nat) (hk : (z = 15 ∧ k = 15) ∨ (z = 11 ∧ k = 11) ∨ (z = 9 ∧ k = 9) ∨ (z = 6 ∧ k = 6) ∨ (z = -15 ∧ k = 17) ∨ (z = -11 ∧ k = 21) ∨ (z = -9 ∧ k = 23) ∨ (z = -6 ∧ k = 26)) (w : World) :
    Calls Tryz.prog 113 #[.int .u32 (x.toNat : Int), .int .i64 z] w fun e w' => e = .returned (.int .u32 ((ro k x).toNat : Int)) ∧ w = w' := by
  have hx0 : (0 : Int) ≤ (x.toNat : Int) := by omega
  have hx1 : (x.toNat : Int) ≤ 4294967295 := by have := x.isLt; omega
  rcases hk with ⟨rfl, rfl⟩ | ⟨rfl, rfl⟩ | ⟨rfl, rfl⟩ | ⟨rfl, rfl⟩ | ⟨rfl, rfl⟩ | ⟨rfl, rfl⟩ | ⟨rfl, rfl⟩ | ⟨rfl, rfl⟩
  · have e1 : bits BinOp.and IntKind.u64 15 31 = 15 := by decide
    have e2 := rot32 x 15 17 (by omega) (by omega) (by omega) ((x.toNat : Int) * 32768 % 4294967296) ((x.toNat : Int) / 131072) (by simp) (by simp)
    go_enter Tryz.func113, Tryz.ntmps113
    go_wp2
    go_ret
    exact ⟨rfl, rfl⟩
  · have e1 : bits BinOp.and IntKind.u64 11 31 = 11 := by decide
    have e2 := rot32 x 11 21 (by omega) (by omega) (by omega) ((x.toNat : Int) * 2048 % 4294967296) ((x.toNat : Int) / 2097152) (by simp) (by simp)
    go_enter Tryz.func113, Tryz.ntmps113
    go_wp2
    go_ret
    exact ⟨rfl, rfl⟩
  · have e1 : bits BinOp.and IntKind.u64 9 31 = 9 := by decide
    have e2 := rot32 x 9 23 (by omega) (by omega) (by omega) ((x.toNat : Int) * 512 % 4294967296) ((x.toNat : Int) / 8388608) (by simp) (by simp)
    go_enter Tryz.func113, Tryz.ntmps113
    go_wp2
    go_ret
    exact ⟨rfl, rfl⟩
  · have e1 : bits BinOp.and IntKind.u64 6 31 = 6 := by decide
    have e2 := rot32 x 6 26 (by omega) (by omega) (by omega) ((x.toNat : Int) * 64 % 4294967296) ((x.toNat : Int) / 67108864) (by simp) (by simp)
    go_enter Tryz.func113, Tryz.ntmps113
    go_wp2
    go_ret
    exact ⟨rfl, rfl⟩
  · have e1 : bits BinOp.and IntKind.u64 (IntKind.u64.wrap (-15)) 31 = 17 := by decide
    have e2 := rot32 x 17 15 (by omega) (by omega) (by omega) ((x.toNat : Int) * 131072 % 4294967296) ((x.toNat : Int) / 32768) (by simp) (by simp)
    go_enter Tryz.func113, Tryz.ntmps113
    go_wp2
    go_ret
    exact ⟨rfl, rfl⟩
  · have e1 : bits BinOp.and IntKind.u64 (IntKind.u64.wrap (-11)) 31 = 21 := by decide
    have e2 := rot32 x 21 11 (by omega) (by omega) (by omega) ((x.toNat : Int) * 2097152 % 4294967296) ((x.toNat : Int) / 2048) (by simp) (by simp)
    go_enter Tryz.func113, Tryz.ntmps113
    go_wp2
    go_ret
    exact ⟨rfl, rfl⟩
  · have e1 : bits BinOp.and IntKind.u64 (IntKind.u64.wrap (-9)) 31 = 23 := by decide
    have e2 := rot32 x 23 9 (by omega) (by omega) (by omega) ((x.toNat : Int) * 8388608 % 4294967296) ((x.toNat : Int) / 512) (by simp) (by simp)
    go_enter Tryz.func113, Tryz.ntmps113
    go_wp2
    go_ret
    exact ⟨rfl, rfl⟩
  · have e1 : bits BinOp.and IntKind.u64 (IntKind.u64.wrap (-6)) 31 = 26 := by decide
    have e2 := rot32 x 26 6 (by omega) (by omega) (by omega) ((x.toNat : Int) * 67108864 % 4294967296) ((x.toNat : Int) / 64) (by simp) (by simp)
    go_enter Tryz.func113, Tryz.ntmps113
    go_wp2
    go_ret
    exact ⟨rfl, rfl⟩

/-- Four words as a value. -/
@[reducible] def ag (x : W4) : Value := .agg #[.int .u32 (x.a.toNat : Int), .int .u32 (x.b.toNat : Int), .int .u32 (x.c.toNat : Int), .int .u32 (x.d.toNat : Int)]

set_option maxHeartbeats 1000000 in
theorem turn_any (x : W4) (w : World) : Calls Tryz.prog 108 #[ag x] w fun e w' => e = .returned (ag (turnW x)) ∧ Below w.heap.size w w' := by
  have r1 := add32
  have r2 := xor32
  obtain ⟨a, b, c, d⟩ := x
  go_enter Tryz.func108, Tryz.ntmps108
  go_wp2_with (go_at_call 112; go_in)
  refine (rot_any _ 15 15 (by simp) _).mono ?_
  rintro e w' ⟨rfl, rfl⟩
  go_wp2_with (go_at_call 112; go_in)
  refine (rot_any _ 11 11 (by simp) _).mono ?_
  rintro e w' ⟨rfl, rfl⟩
  go_wp2_with fail
  go_end0
  go_wp2_with (go_at_call 112; go_in)
  refine (rot_any _ 9 9 (by simp) _).mono ?_
  rintro e w' ⟨rfl, rfl⟩
  go_wp2_with fail
  refine (rot_any _ 6 6 (by simp) _).mono ?_
  rintro e w' ⟨rfl, rfl⟩
  go_wp2_with fail
  go_end0
  go_wp2_with fail
  exact bodyPost_ret (v := ag (turnW ⟨a, b, c, d⟩)) (by simp [results, Tryz.results108, go_sem, turnW, halfT]) rfl ⟨rfl, ((Below.refl _ w).alloc (Nat.le_refl _) _).alloc (by simp) _⟩

/-- The cells of four words. -/
@[reducible] def cl (x : W4) : Array Value := #[.int .u32 (x.a.toNat : Int), .int .u32 (x.b.toNat : Int), .int .u32 (x.c.toNat : Int), .int .u32 (x.d.toNat : Int)]
end Go.Proofs.YtldnelimemjaiaaGreatDoor
/-
  mix.turns, mix.word and mix.take: so many turns; a word of a piece; a piece taken in; nothing that was there is written.
-/
namespace Go.Proofs.YtldnelimemjaiaaGreatDoor
open Go.RowKit Go.Shelf
set_option maxRecDepth 100000

set_option maxHeartbeats 1000000 in
theorem turns_any (x : W4) (n : Nat) (hn : n ≤ 1000) (w : World) : Calls Tryz.prog 95 #[ag x, .int .i64 n] w fun e w' => e = .returned (ag (turnsW n x)) ∧ Below w.heap.size w w' := by
  have hb0 : Blk ((w.alloc (.cells (cl x) 96)).alloc (.cells #[.int .u32 0, .int .u32 0, .int .u32 0, .int .u32 0] 96)) w.heap.size 96 (cl x) := (Blk.new w _ _).alloc _
  have hr0 := Blk.new (w.alloc (.cells (cl x) 96)) 96 #[.int .u32 0, .int .u32 0, .int .u32 0, .int .u32 0]
  have hB0 : Below w.heap.size w ((w.alloc (.cells (cl x) 96)).alloc (.cells #[.int .u32 0, .int .u32 0, .int .u32 0, .int .u32 0] 96)) := ((Below.refl _ w).alloc (Nat.le_refl _) _).alloc (by simp) _
  rw [World.size_alloc] at hr0
  have HB0 := Lib.hid hb0; clear hb0
  have HR0 := Lib.hid hr0; clear hr0
  have HBe := Lib.hid hB0; clear hB0
  have hn' : (n : Int) ≤ 1000 := by omega
  go_enter Tryz.func95, Tryz.ntmps95
  go_wp2_with fail
  go_loopw [6] (fun i wr => ∃ k : Nat, k ≤ n ∧ i = .int .i64 k ∧ Blk wr w.heap.size 96 (cl (turnsW k x)) ∧ Blk wr (w.heap.size + 1) 96 #[.int .u32 0, .int .u32 0, .int .u32 0, .int .u32 0] ∧ Below w.heap.size w wr) (fun i _ => n - (intOf i).toNat)
  case atStart => exact ⟨0, Nat.zero_le _, rfl, HB0.out, HR0.out, HBe.out⟩
  case round =>
    obtain ⟨k, hk, rfl, hb, hr, hbe⟩ := hrel
    have c0 := hb.cell 0
    have c1 := hb.cell 1
    have c2 := hb.cell 2
    have c3 := hb.cell 3
    have HB := Lib.hid hb; clear hb
    have HR := Lib.hid hr; clear hr
    have HE := Lib.hid hbe; clear hbe
    by_cases hlt : k < n
    · go_wp2_with fail
      refine (turn_any _ _).mono ?_
      rintro e w1 ⟨rfl, b1⟩
      have hb1 := HB.out.below b1 HB.out.lt
      have f := fun i => hb1.frozen i
      have d0 := hb1.cell 0
      have d1 := hb1.cell 1
      have d2 := hb1.cell 2
      have d3 := hb1.cell 3
      have HB1 := Lib.hid hb1; clear hb1
      have hr1 := HR.out.below b1 HR.out.lt
      have HR1 := Lib.hid hr1; clear hr1
      have he1 := HE.out.trans (b1.mono HE.out.size)
      have HE1 := Lib.hid he1; clear he1 b1
      clear c0 c1 c2 c3
      go_wp2_with fail
      go_roundw
      case rel => exact ⟨k + 1, by omega, by go_num, HB1.out.set4 _ _ _ _, (((HR1.out.far (by simp) _).far (by simp) _).far (by simp) _).far (by simp) _, below_set4 HE1.out (Nat.le_refl _) _ _ _ _⟩
      case measure => simp [intOf]; omega
    · obtain rfl : k = n := by omega
      have d0 := HR.out.cell 0
      have d1 := HR.out.cell 1
      have d2 := HR.out.cell 2
      have d3 := HR.out.cell 3
      have f := fun i => HR.out.frozen i
      go_wp2_with fail
      have hR := HR.out.set4 (.int .u32 ((turnsW k x).a.toNat : Int)) (.int .u32 ((turnsW k x).b.toNat : Int)) (.int .u32 ((turnsW k x).c.toNat : Int)) (.int .u32 ((turnsW k x).d.toNat : Int))
      have e0 := hR.cell 0
      have e1 := hR.cell 1
      have e2 := hR.cell 2
      have e3 := hR.cell 3
      have E := below_set4 HE.out (g := w.heap.size + 1) (by omega) (.int .u32 ((turnsW k x).a.toNat : Int)) (.int .u32 ((turnsW k x).b.toNat : Int)) (.int .u32 ((turnsW k x).c.toNat : Int)) (.int .u32 ((turnsW k x).d.toNat : Int))
      clear hR
      exact bodyPost_ret (v := ag (turnsW k x)) (by simp [results, Tryz.results95, go_sem, e0, e1, e2, e3]) rfl ⟨rfl, E⟩

/-- The number of four bytes of a piece. -/
theorem word_any (b off cap i : Nat) (s : List UInt8) (hs : s.length = 8) (hc8 : 8 ≤ cap) (hcm : cap ≤ 9223372036854775807) (hi : i + 4 ≤ 8) (w : World) (hb : b < w.heap.size)
    (hc : ∀ i (h : i < s.length), w.cell? ⟨b, off + i, none⟩ = some (.int .u8 ((s[i]).toNat : Int))) :
    Calls Tryz.prog 107 #[.slice (some ⟨b, off, none⟩) 8 cap, .int .i64 i] w fun e w' => e = .returned (.int .u32 (leN ((s.drop i).take 4) : Nat)) ∧ Below w.heap.size w w' := by
  have hlt : leN ((s.drop i).take 4) < 4294967296 := by
    have h1 := leN_lt ((s.drop i).take 4)
    have h2 : ((s.drop i).take 4).length = 4 := by simp; omega
    rw [h2] at h1
    exact h1
  have hg := get_ok b off 8 cap i 4 s hs hc8 hcm (by omega) (by omega) (by omega) w hb hc
  have HG := Lib.hid hg; clear hg hc hs
  obtain ⟨m, hm⟩ : ∃ m : Nat, leN ((s.drop i).take 4) = m := ⟨_, rfl⟩
  rw [hm] at hlt HG ⊢
  clear hm
  have h0 : (0 : Int) ≤ m := by omega
  have h1 : (m : Int) ≤ 4294967295 := by omega
  go_enter Tryz.func107, Tryz.ntmps107
  go_wp2_with fail
  refine HG.out.mono ?_
  rintro e w1 ⟨rfl, b1⟩
  go_wp2_with fail
  go_ret
  exact ⟨rfl, b1⟩

set_option maxHeartbeats 2000000 in
theorem take_any (x : W4) (b off cap : Nat) (s : List UInt8) (hs : s.length = 8) (hc8 : 8 ≤ cap) (hcm : cap ≤ 9223372036854775807) (w : World) (hb : b < w.heap.size)
    (hc : ∀ i (h : i < s.length), w.cell? ⟨b, off + i, none⟩ = some (.int .u8 ((s[i]).toNat : Int))) :
    Calls Tryz.prog 94 #[ag x, .slice (some ⟨b, off, none⟩) 8 cap] w fun e w' => e = .returned (ag (stepW x (BitVec.ofNat 32 (leN (s.take 4))) (BitVec.ofNat 32 (leN ((s.drop 4).take 4))))) ∧ Below w.heap.size w w' := by
  have r2 := xor32
  have hb0 : Blk ((w.alloc (.cells (cl x) 96)).alloc (.cells #[.int .u32 0, .int .u32 0, .int .u32 0, .int .u32 0] 96)) w.heap.size 96 (cl x) := (Blk.new w _ _).alloc _
  have hr0 := Blk.new (w.alloc (.cells (cl x) 96)) 96 #[.int .u32 0, .int .u32 0, .int .u32 0, .int .u32 0]
  have hB0 : Below w.heap.size w ((w.alloc (.cells (cl x) 96)).alloc (.cells #[.int .u32 0, .int .u32 0, .int .u32 0, .int .u32 0] 96)) := ((Below.refl _ w).alloc (Nat.le_refl _) _).alloc (by simp) _
  rw [World.size_alloc] at hr0
  have wd : ∀ (z : Int) (i : Nat), z = i → i + 4 ≤ 8 → ∀ W, Below w.heap.size w W → Calls Tryz.prog 107 #[.slice (some ⟨b, off, none⟩) 8 cap, .int .i64 z] W fun e w' => e = .returned (.int .u32 ((BitVec.ofNat 32 (leN ((s.drop i).take 4))).toNat : Int)) ∧ Below W.heap.size W w' := fun z i hz hi W hW => by
    subst hz
    have e1 : (BitVec.ofNat 32 (leN ((s.drop i).take 4))).toNat = leN ((s.drop i).take 4) := by
      rw [BitVec.toNat_ofNat]
      have h1 := leN_lt ((s.drop i).take 4)
      have h2 : ((s.drop i).take 4).length = 4 := by simp; omega
      rw [h2] at h1
      exact Nat.mod_eq_of_lt h1
    rw [e1]
    exact word_any b off cap i s hs hc8 hcm hi W (Nat.lt_of_lt_of_le hb hW.size) (fun j hj => (hW.cell (p := ⟨b, off + j, none⟩) hb).trans (hc j hj))
  obtain ⟨m, hm⟩ : ∃ m, BitVec.ofNat 32 (leN (s.take 4)) = m := ⟨_, rfl⟩
  obtain ⟨n, hn⟩ : ∃ n, BitVec.ofNat 32 (leN ((s.drop 4).take 4)) = n := ⟨_, rfl⟩
  have wd0 := wd 0 0 rfl (by omega)
  have wd4 := wd 4 4 rfl (by omega)
  rw [List.drop_zero, hm] at wd0
  rw [hn] at wd4
  rw [hm, hn]
  clear hc hs wd hm hn
  have WD0 := Lib.hid wd0; clear wd0
  have WD4 := Lib.hid wd4; clear wd4
  obtain ⟨w0, hw0⟩ : ∃ w0, ((w.alloc (.cells (cl x) 96)).alloc (.cells #[.int .u32 0, .int .u32 0, .int .u32 0, .int .u32 0] 96)) = w0 := ⟨_, rfl⟩
  rw [hw0] at hb0 hr0 hB0
  have HW0 := Lib.hid hw0; clear hw0
  obtain ⟨a, bb, c, d⟩ := x
  have c0 := hb0.cell 0
  have f := fun i => hb0.frozen i
  have HB0 := Lib.hid hb0; clear hb0
  have HR0 := Lib.hid hr0; clear hr0
  have HBe := Lib.hid hB0; clear hB0
  go_enter Tryz.func94, Tryz.ntmps94
  go_wp2_with fail
  rw [HW0.out]
  go_region_with (first | (go_at_call 107; (refine (WD0.out _ ?_).mono ?_); exact HBe.out.drew; rintro e w1 ⟨rfl, b1⟩; have fr1 := (HB0.out.drew.below b1 HB0.out.lt).frozen 0; have cr1 := (HB0.out.drew.below b1 HB0.out.lt).cell 0))
  all_goals
    obtain ⟨w2, hw2⟩ : ∃ w2, w1.setCell ⟨w.heap.size, 0, none⟩ (.int .u32 ((xo a m).toNat : Int)) = w2 := ⟨_, rfl⟩
    have hb2 : Blk w2 w.heap.size 96 (cl ⟨xo a m, bb, c, d⟩) := hw2 ▸ (HB0.out.drew.below b1 HB0.out.lt).set_ 0 _
    have hr2 : Blk w2 (w.heap.size + 1) 96 #[.int .u32 0, .int .u32 0, .int .u32 0, .int .u32 0] := hw2 ▸ (HR0.out.drew.below b1 HR0.out.lt).far (by simp) _
    have he2 : Below w.heap.size w w2 := hw2 ▸ (HBe.out.drew.trans (b1.mono HBe.out.size)).setCell (p := ⟨w.heap.size, 0, none⟩) (Nat.le_refl _) _
    have HW2 := Lib.hid hw2; clear hw2
    clear b1 fr1 cr1 c0 f
    have c2 := hb2.cell 2
    have f := fun i => hb2.frozen i
    have HB2 := Lib.hid hb2; clear hb2
    have HR2 := Lib.hid hr2; clear hr2
    have HE2 := Lib.hid he2; clear he2
    rw [HW2.out]
    go_wp2_with fail
    go_region_with (first | (go_at_call 107; (refine (WD4.out _ ?_).mono ?_); exact HE2.out.drew; rintro e w3 ⟨rfl, b3⟩; have fr1 := (HB2.out.drew.below b3 HB2.out.lt).frozen 2; have cr1 := (HB2.out.drew.below b3 HB2.out.lt).cell 2))
    all_goals
      obtain ⟨w4, hw4⟩ : ∃ w4, w3.setCell ⟨w.heap.size, 2, none⟩ (.int .u32 ((xo c n).toNat : Int)) = w4 := ⟨_, rfl⟩
      have hb4 : Blk w4 w.heap.size 96 (cl ⟨xo a m, bb, xo c n, d⟩) := hw4 ▸ (HB2.out.drew.below b3 HB2.out.lt).set_ 2 _
      have hr4 : Blk w4 (w.heap.size + 1) 96 #[.int .u32 0, .int .u32 0, .int .u32 0, .int .u32 0] := hw4 ▸ (HR2.out.drew.below b3 HR2.out.lt).far (by simp) _
      have he4 : Below w.heap.size w w4 := hw4 ▸ (HE2.out.drew.trans (b3.mono HE2.out.size)).setCell (p := ⟨w.heap.size, 2, none⟩) (Nat.le_refl _) _
      have HW4 := Lib.hid hw4; clear hw4
      clear b3 fr1 cr1 c2 f
      have c0 := hb4.cell 0
      have c1 := hb4.cell 1
      have c2 := hb4.cell 2
      have c3 := hb4.cell 3
      have HB4 := Lib.hid hb4; clear hb4
      have HR4 := Lib.hid hr4; clear hr4
      have HE4 := Lib.hid he4; clear he4
      rw [HW4.out]
      go_wp2_with fail
      refine (turns_any ⟨xo a m, bb, xo c n, d⟩ 4 (by omega) _).mono ?_
      rintro e w5 ⟨rfl, b5⟩
      have hr5 := HR4.out.below b5 HR4.out.lt
      have he5 := HE4.out.trans (b5.mono HE4.out.size)
      have f := fun i => hr5.frozen i
      have d0 := hr5.cell 0
      have d1 := hr5.cell 1
      have d2 := hr5.cell 2
      have d3 := hr5.cell 3
      have HR5 := Lib.hid hr5; clear hr5
      have HE5 := Lib.hid he5; clear he5 b5
      obtain ⟨y, hy⟩ : ∃ y, turnsW 4 ⟨xo a m, bb, xo c n, d⟩ = y := ⟨_, rfl⟩
      rw [hy]
      have HY := Lib.hid hy; clear hy
      go_wp2_with fail
      have hR := HR5.out.set4 (.int .u32 (y.a.toNat : Int)) (.int .u32 (y.b.toNat : Int)) (.int .u32 (y.c.toNat : Int)) (.int .u32 (y.d.toNat : Int))
      have e0 := hR.cell 0
      have e1 := hR.cell 1
      have e2 := hR.cell 2
      have e3 := hR.cell 3
      have E := below_set4 HE5.out (g := w.heap.size + 1) (by omega) (.int .u32 (y.a.toNat : Int)) (.int .u32 (y.b.toNat : Int)) (.int .u32 (y.c.toNat : Int)) (.int .u32 (y.d.toNat : Int))
      clear hR
      exact bodyPost_ret (v := ag y) (by simp [results, Tryz.results94, go_sem, e0, e1, e2, e3]) rfl ⟨by rw [← HY.out]; rfl, E⟩
end Go.Proofs.YtldnelimemjaiaaGreatDoor
/-
  A region that draws its order, at the wide fence, is walked as it is everywhere, where nothing in it is deferred.
-/
namespace Go.Proofs.YtldnelimemjaiaaGreatDoor
open Go
set_option maxRecDepth 100000

section
variable {P : Program} {Q : Exit → Act → World → Prop} {md : Region.Mode} {m : Nat}

theorem rowsIn_of_rows_w {row : String} {args : Array Value} {w : World} {R : Value → World → Prop} (h : Rows P row args w R) : RowsIn Fence.wide m P row args w R :=
  fun c cs _ => let ⟨v, w', r, s⟩ := h c cs; ⟨v, w', r, stepsIn_wide.2 s⟩

theorem uponIn_of_upon_w {o : Oper} {a : Act} {K K' : Act → World → Prop} (hK : ∀ a w, K a w → K' a w) {r : Result Next} (h : o.upon P a K Q r) : o.uponIn Fence.wide m P a K' Q r := by
  cases r with
  | ok x w' =>
    cases x <;> simp only [Oper.upon, Oper.uponIn] at h ⊢
    case value => exact hK _ _ h
    case skip => exact hK _ _ h
    case defer => exact hK _ _ h
    case enter f args =>
      refine ⟨fun h => by simp [Fence.wide] at h, CallsIn.mono (callsIn_wide.2 h) fun e w'' he => ?_⟩
      cases e <;> first | exact hK _ _ he | exact he
    case row row args => exact ⟨fun h => by simp [Fence.wide] at h, (rowsIn_of_rows_w h).mono fun _ _ he => hK _ _ he⟩
  | halt x w' => cases x <;> simp only [Oper.upon, Oper.uponIn] at h ⊢ <;> exact h

theorem wpAnyIn_of_wpAny_w {ops : List Oper} (hnd : noDefer ops = true) (hlo : ¬ LetsOut Q) : ∀ (fuel : Nat) (listed : Array Bool) (a : Act) (w : World), wpAny P md ops.toArray Q fuel listed a w → wpAnyIn Fence.wide m P md ops.toArray Q fuel listed a w
  | 0, _, _, _, h => h
  | fuel + 1, listed, a, w, h => by
    refine ⟨h.1, fun i hi => ?_⟩
    have hop := h.2 i hi
    have ih : ∀ a w, wpAny P md ops.toArray Q fuel (listed.setIfInBounds i true) a w → wpAnyIn Fence.wide m P md ops.toArray Q fuel (listed.setIfInBounds i true) a w := fun a w => wpAnyIn_of_wpAny_w hnd hlo fuel _ a w
    unfold wpOp at hop
    unfold wpOpIn
    cases ho : ops.toArray[i]? with
    | none => rw [ho] at hop; exact ih _ _ hop
    | some o =>
      rw [ho] at hop
      have hmem : o ∈ ops := by
        rw [List.getElem?_toArray] at ho
        exact List.mem_of_getElem? ho
      simp only at hop ⊢
      split
      · rename_i hw
        rw [if_pos hw] at hop
        rcases hop with hop | ⟨_, hl⟩
        · refine ⟨fun _ _ => trivial, ?_⟩
          show Oper.uponIn _ _ _ _ _ _ _ (Sem.run P (o.semAt none a.eval) w)
          rw [Oper.semAt_none]
          exact uponIn_of_upon_w ih hop
        · exact absurd hl hlo
      · rename_i hw
        rw [if_neg hw] at hop
        exact ⟨fun _ _ => trivial, ih _ _ hop⟩

/-- A region that draws its order, in a function that stands in a fence: as everywhere, where nothing is deferred. -/
theorem region_wide {ops : List Oper} {id : Nat} {a : Act} {w : World} (hm : P.follows .mixedOrders = true) (hnd : noDefer ops = true) (hlo : ¬ LetsOut Q)
    (h : wpAny P .any ops.toArray Q ops.length (Array.replicate ops.length false) a w.drew) : (Code.region id ops.toArray true).wpIn Fence.wide m P Q a w :=
  wpIn_region_any hm (by simpa using wpAnyIn_of_wpAny_w (m := m) hnd hlo _ _ _ _ h)

/-- Reads, and one write at the end: the reads in the text's order, then the write. -/
theorem region_wide_tail {ops : List Oper} {id : Nat} {a : Act} {w : World} (n : Nat) (hm : P.follows .mixedOrders = true) (hnd : noDefer ops = true) (hlo : ¬ LetsOut Q) (hB : Region.lexTailB .any ops.toArray n = true)
    (h : wpStill P ops.toArray w.drew (fun a' => wpList P ops.toArray Q (ops.drop n) a' w.drew) (ops.take n) a) : (Code.region id ops.toArray true).wpIn Fence.wide m P Q a w := by
  refine region_wide hm hnd hlo ?_
  simp only [Region.lexTailB, Bool.and_eq_true, decide_eq_true_eq] at hB
  obtain ⟨⟨⟨⟨hsel, hn⟩, hs⟩, hc⟩, hlex⟩ := hB
  have hn' : n < ops.length := by simpa using hn
  have ht : (ops.take n).length = n := by simp; omega
  have hst : HeadInv .any ops.toArray n (Array.replicate ops.toArray.size false) :=
    ⟨by simp, fun j oj _ hl => (by rw [getD_replicate_false] at hl; cases hl), fun t _ ht => getD_in (by simpa using ht) (getD_replicate_false _ _)⟩
  have H := wpAnyL_lex (md := .any) (g := ops.toArray.size - n) hsel hs hc hn (ops.take n) 0 _ a (fun j hj => by rw [ht] at hj; simp [hj]) (by omega) hst (by rw [ht]; exact hlex) h
  have G := wpAny_of_head (Q' := Q) (g := ops.toArray.size - n) (fun listed a' hL => by
    have := wpAny_of_seq (md := .any) (Q' := Q) (ops.drop n) n listed a' w.drew (fun j => by simp) (by simpa using hL.1) hL.2
    simpa using this) _ _ _ H
  have e : (ops.take n).length + (ops.toArray.size - n) = ops.length := by simp; omega
  rw [e] at G
  simpa using G
/-- The same, the world behind the draw under a name. -/
theorem region_wide_named {ops : List Oper} {id : Nat} {a : Act} {w w1 : World} (n : Nat) (hm : P.follows .mixedOrders = true) (hnd : noDefer ops = true) (hlo : ¬ LetsOut Q) (hB : Region.lexTailB .any ops.toArray n = true) (hw : w.drew = w1)
    (h : wpStill P ops.toArray w1 (fun a' => wpList P ops.toArray Q (ops.drop n) a' w1) (ops.take n) a) : (Code.region id ops.toArray true).wpIn Fence.wide m P Q a w := by
  subst hw
  exact region_wide_tail n hm hnd hlo hB h
end
end Go.Proofs.YtldnelimemjaiaaGreatDoor
/-
  slices.Chunk of a slice of bytes by eights, of a length that eights make up, hands the loop its windows in their order.
-/
namespace Go.Proofs.YtldnelimemjaiaaGreatDoor
open Go.RowKit Go.Shelf
set_option maxRecDepth 100000
attribute [local go_sem] Oper.semAt_some

/-- What the walk goes on reading: the box of the slice, and that of the size. -/
def ReachC (Bs Bn : Nat) (A : Option Addr) (q cap : Nat) (W : World) : Prop :=
  W.cell? ⟨Bs, 0, none⟩ = some (.slice A (8 * q) cap) ∧ W.cell? ⟨Bn, 0, none⟩ = some (.int .i64 8)

theorem chunk_in (F : Fence) (n : Nat) (h : F.fn 93) (hro : F.round = none) (a : Option Addr) (len cap : Nat) (w : World) :
    CallsIn F n Tryz.prog 93 #[.slice a len cap, .int .i64 8] w fun e w' => e = .returned (.func (.func 106) #[] #[.pointer (some ⟨w.heap.size, 0, none⟩), .pointer (some ⟨w.heap.size + 1, 0, none⟩)]) ∧
      w' = (w.alloc (.cells #[.slice a len cap] 45)).alloc (.cells #[.int .i64 8] 3) := by
  refine callsIn_of_wp Tryz.func93 rfl h ?_ hro
  simp only [Tryz.ntmps93, List.size_toArray, List.length_cons, List.length_nil, Nat.reduceAdd, Nat.reduceSub, Array.replicate_succ, Array.replicate_zero, List.push_toArray, List.append_toArray, List.nil_append, List.cons_append]
  gi_wp2
  go_ret
  exact ⟨rfl, rfl⟩

/-- s[l:], where it is not empty. -/
theorem slice_l (W : World) (g off len cap l : Nat) (hl : l < len) (hc : len ≤ cap) : (Instr.slice 45 (.slice (some ⟨g, off, none⟩) len cap) (some (.int .i64 (l : Int))) none none).run Tryz.prog W = .ok (.slice (some ⟨g, off + l, none⟩) (len - l) (cap - l)) W := by
  rw [run_slice_l W 45 _ _ _ (by kernel_rfl) .i64 _ (by omega) (by omega)]
  have hz : (Go.sizeOf (Tryz.prog.elem 45)).run Tryz.prog W = .ok 1 W := by kernel_rfl
  rw [hz]
  simp [Result.andThen, sliced, Addr.add]
  rw [if_neg (by omega)]
  by_cases h0 : l = 0
  · subst h0; simp
  · rw [if_neg h0]
/-- The window of number x. -/
@[reducible] def win (b off : Nat) (x : Nat) : Array Value := #[.slice (some ⟨b, off + 8 * x, none⟩) 8 8]

set_option maxHeartbeats 2000000 in
theorem chunk1_in (n : Nat) (hn : 1 ≤ n) (l Bs Bn b off q cap : Nat) (A : Option Addr) (hA : 0 < q → A = some ⟨b, off, none⟩) (hqc : 8 * q ≤ cap) (hcm : cap ≤ 9223372036854775807) (J Jx : List (Fin q) → World → Prop)
    (hY : ∀ pre x W, J pre W → pre.length < q → YieldAt Fence.wide (n - 1) Tryz.prog l (win b off x.val) W fun e W' =>
      (e = .returned (.bool true) ∧ J (pre ++ [x]) W' ∧ (ReachC Bs Bn A q cap W → ReachC Bs Bn A q cap W')) ∨ (e = .returned (.bool false) ∧ Jx (pre ++ [x]) W'))
    (hJd : ∀ pre W, J pre W → J pre W.drew)
    (W : World) (hR : ReachC Bs Bn A q cap W) (h0 : J [] W) :
    CallsIn Fence.wide n Tryz.prog 106 #[.func (.yield l) #[] #[], .pointer (some ⟨Bs, 0, none⟩), .pointer (some ⟨Bn, 0, none⟩)] W fun e W' => (∃ v, e = .returned v) ∧
      ((∃ ys, ys.map (·.val) = List.range q ∧ J ys W') ∨ (∃ pre, pre.map (·.val) = List.range pre.length ∧ Jx pre W')) := by
  refine callsIn_of_wp Tryz.func106 rfl trivial ?_ rfl
  simp only [Tryz.ntmps106, List.size_toArray, List.length_cons, List.length_nil, Nat.reduceAdd, Nat.reduceSub, Array.replicate_succ, Array.replicate_zero, List.push_toArray, List.append_toArray, List.nil_append, List.cons_append]
  have hmx : Tryz.prog.follows Departure.mixedOrders = true := by kernel_rfl
  have HR := Lib.hid hR
  clear hR
  gi_wp2
  gi_loopw [4] (fun i wr => ∃ pre : List (Fin q), pre.map (·.val) = List.range pre.length ∧ pre.length ≤ q ∧ i = .int .i64 ((8 * pre.length : Nat) : Int) ∧ J pre wr ∧ ReachC Bs Bn A q cap wr)
    (fun i _ => 8 * q - (intOf i).toNat)
  case atStart => exact ⟨[], rfl, Nat.zero_le _, rfl, h0, HR.out⟩
  case round =>
    obtain ⟨pre, hC, hle, rfl, hJs, hRs⟩ := hrel
    obtain ⟨k, hk⟩ : ∃ k, pre.length = k := ⟨_, rfl⟩
    have hb1 := hRs.1
    have hb2 := hRs.2
    obtain ⟨m, hm⟩ : ∃ m : Nat, 8 * k = m := ⟨_, rfl⟩
    obtain ⟨L, hL⟩ : ∃ L : Nat, 8 * q = L := ⟨_, rfl⟩
    rw [hL] at hb1
    rw [hk, hm]
    by_cases hlt : k < q
    · rw [hA (by omega)] at hb1
      have hmL : m < L := by omega
      have hm8 : m + 8 ≤ L := by omega
      have hLc : L ≤ cap := by omega
      have HRs := Lib.hid hRs; clear hRs
      have HM := Lib.hid hm; clear hm
      have HL := Lib.hid hL; clear hL
      have HK := Lib.hid hk; clear hk
      have h8 : ((m : Int) < (L : Int)) := by omega
      have h80 : (0 : Int) ≤ (m : Int) := by omega
      have h8m : (L : Int) ≤ 9223372036854775807 := by omega
      have hsl := fun W => slice_l W b off L cap m hmL hLc
      have hmin : min (8 : Int) ((L - m : Nat) : Int) = 8 := by omega
      gi_wp2
      refine region_wide_tail 6 hmx (by kernel_rfl) (fun h => by obtain ⟨_, _, ⟨v, hv⟩, _⟩ := h; cases hv) (by kernel_rfl) ?_
      simp only [List.take_succ_cons, List.take_zero, List.drop_succ_cons, List.drop_zero]
      repeat still_step
      refine wpStill_nil ?_
      obtain ⟨fn, tmps, assign, body, hy, hR⟩ := hY pre ⟨k, hlt⟩ wr.drew (hJd _ _ hJs) (by rw [HK.out]; exact hlt)
      have hw : win b off k = #[.slice (some ⟨b, off + m, none⟩) 8 8] := by rw [win, HM.out]
      dsimp only at hy
      rw [hw] at hy
      clear hw
      have HC := Lib.hid hC; clear hC
      go_wp2
      gi_wp2
      refine hR.mono ?_
      rintro e W3 (⟨rfl, hJ3, hk3⟩ | ⟨rfl, hJx3⟩)
      · have hr3 := hk3 HRs.out
        have hb3 := hr3.2
        have HR3 := Lib.hid hr3; clear hr3 hk3
        gi_wp2
        go_roundw
        case rel => exact ⟨pre ++ [⟨k, hlt⟩], by simp [HC.out, List.range_succ, HK.out], by simp; rw [HK.out]; omega, by simp [HK.out]; have := HM.out; omega, hJ3, HR3.out⟩
        case measure => simp [intOf]; have := HM.out; have := HL.out; omega
      · gi_wp2
        refine bodyPost_ret (results_none rfl _ _ _) rfl ?_
        exact ⟨⟨_, rfl⟩, .inr ⟨_, by simp [HC.out, List.range_succ, HK.out], hJx3⟩⟩
    · have hkq : k = q := by omega
      have hmL : m = L := by omega
      rw [hmL]
      have HRs := Lib.hid hRs; clear hRs
      have HM := Lib.hid hm; clear hm
      have HL := Lib.hid hL; clear hL
      have HK := Lib.hid hk; clear hk
      have HKQ := Lib.hid hkq; clear hkq
      have HC := Lib.hid hC; clear hC
      clear hmL
      gi_wp2
      go_end0
      exact ⟨⟨_, rfl⟩, .inl ⟨pre, by rw [HC.out, HK.out, HKQ.out], hJs⟩⟩

theorem reachC_putObj {Bs Bn : Nat} {A : Option Addr} {q cap : Nat} {W : World} (l : Nat) (o o' : Obj) (h : W.heap[l]? = some o) (ho : o.isCells = false) (hR : ReachC Bs Bn A q cap W) : ReachC Bs Bn A q cap (W.putObj l o') := by
  have hk : ∀ r, some l = some r → ∃ o : Obj, W.heap[r]? = some o ∧ o.isCells = false := fun r e => by cases e; exact ⟨_, h, ho⟩
  exact ⟨cell_kept hR.1 (grownBy_putObj' W l o') hk, cell_kept hR.2 (grownBy_putObj' W l o') hk⟩

theorem stopsC (n : Nat) (hn : 1 ≤ n) (Bs Bn b off q cap : Nat) (A : Option Addr) (hA : 0 < q → A = some ⟨b, off, none⟩) (hqc : 8 * q ≤ cap) (hcm : cap ≤ 9223372036854775807) (w : World) (hBs : Bs < w.heap.size) (hBn : Bn < w.heap.size) (hR : ReachC Bs Bn A q cap w) :
    SeqStopsK Fence.wide n Tryz.prog 106 #[.pointer (some ⟨Bs, 0, none⟩), .pointer (some ⟨Bn, 0, none⟩)] (fun x : Fin q => win b off x.val) (fun W W' => ReachC Bs Bn A q cap W → ReachC Bs Bn A q cap W')
      (fun ys => ys.map (·.val) = List.range q) (fun pre => pre.map (·.val) = List.range pre.length) q w := fun l J Jx W hW hJ _ hY h0 =>
  chunk1_in n hn l Bs Bn b off q cap A hA hqc hcm J Jx hY (fun s W1 h => hJ s W1 W1.drew none h (only_drew (World.grownBy.refl W1 none)) (fun r e => by cases e)) W
    ⟨(hW.cell (p := ⟨Bs, 0, none⟩) hBs).trans hR.1, (hW.cell (p := ⟨Bn, 0, none⟩) hBn).trans hR.2⟩ h0
end Go.Proofs.YtldnelimemjaiaaGreatDoor
/-
  mix.Four, whatever bytes it is handed, answers the four words of these bytes; nothing that was there is written.
-/
namespace Go.Proofs.YtldnelimemjaiaaGreatDoor
open Go.RowKit Go.Shelf
set_option maxRecDepth 100000
attribute [local go_sem] Oper.semAt_some

/-- b[:h], b nil or not. -/
theorem slice_to (W : World) (a : Option Addr) (len cap h : Nat) (hc : h ≤ cap) : (Instr.slice 45 (.slice a len cap) none (some (.int .i64 (h : Int))) none).run Tryz.prog W = .ok (.slice a h cap) W := by
  rw [run_slice_h W 45 _ _ _ (by kernel_rfl) .i64 _ (by omega) (by omega)]
  have hz : (Go.sizeOf (Tryz.prog.elem 45)).run Tryz.prog W = .ok 1 W := by kernel_rfl
  rw [hz]
  cases a <;> simp [Result.andThen, sliced, Addr.add]
/-- b[l:], b nil or not. -/
theorem slice_from (a : Option Addr) (len cap l : Nat) (hl : l ≤ len) (hc : len ≤ cap) : ∃ A', (∀ W : World, (Instr.slice 45 (.slice a len cap) (some (.int .i64 (l : Int))) none none).run Tryz.prog W = .ok (.slice A' (len - l) (cap - l)) W) ∧ (l < len → ∀ b off, a = some ⟨b, off, none⟩ → A' = some ⟨b, off + l, none⟩) := by
  have hz : ∀ W : World, (Go.sizeOf (Tryz.prog.elem 45)).run Tryz.prog W = .ok 1 W := fun W => by kernel_rfl
  cases a with
  | none =>
    refine ⟨none, fun W => ?_, fun _ b off h => by cases h⟩
    rw [run_slice_l W 45 _ _ _ (by kernel_rfl) .i64 _ (by omega) (by omega), hz]
    simp [Result.andThen, sliced]
    try omega
  | some x =>
    refine ⟨if cap = l then some x else some (if l = 0 then x else x.add l), fun W => ?_, fun h b off e => ?_⟩
    · rw [run_slice_l W 45 _ _ _ (by kernel_rfl) .i64 _ (by omega) (by omega), hz]
      have e0 : (if l = 0 then x else x.add l) = x.add l := by
        by_cases h0 : l = 0
        · subst h0; simp [Addr.add]
        · rw [if_neg h0]
      simp [Result.andThen, sliced, e0]
    · cases e
      rw [if_neg (by omega)]
      by_cases h0 : l = 0
      · subst h0; simp
      · rw [if_neg h0]; unfold Addr.add; rw [if_neg h0]

/-- Eight bytes of a text, one byte 1 and noughts behind it. -/
def octP (s : List UInt8) (j : Nat) : List UInt8 := [byteP s j, byteP s (j + 1), byteP s (j + 2), byteP s (j + 3), byteP s (j + 4), byteP s (j + 5), byteP s (j + 6), byteP s (j + 7)]
theorem octP_get (s : List UInt8) (j i : Nat) (h : i < (octP s j).length) : (octP s j)[i] = byteP s (j + i) := by
  have h8 : i < 8 := h
  have : i = 0 ∨ i = 1 ∨ i = 2 ∨ i = 3 ∨ i = 4 ∨ i = 5 ∨ i = 6 ∨ i = 7 := by omega
  rcases this with rfl | rfl | rfl | rfl | rfl | rfl | rfl | rfl <;> rfl
theorem octP_lo (s : List UInt8) (j : Nat) : (octP s j).take 4 = quadP s j := rfl
theorem octP_hi (s : List UInt8) (j : Nat) : ((octP s j).drop 4).take 4 = quadP s (j + 4) := rfl

/-- The words behind these pieces, whichever they are. -/
def foldP (s : List UInt8) (pre : List Nat) : W4 := pre.foldl (fun x k => stepW x (wordP s (8 * k)) (wordP s (8 * k + 4))) ⟨1, 2, 3, 4⟩
theorem foldP_snoc (s : List UInt8) (pre : List Nat) (k : Nat) : foldP s (pre ++ [k]) = stepW (foldP s pre) (wordP s (8 * k)) (wordP s (8 * k + 4)) := by simp [foldP]
theorem foldP_range (s : List UInt8) : ∀ k, foldP s (List.range k) = behind s k
  | 0 => rfl
  | k + 1 => by rw [List.range_succ, foldP_snoc, foldP_range s k]; rfl

theorem vals_length (s : List UInt8) : (vals s).length = s.length := by simp [vals]
/-- What copy lays at the beginning of eight noughts, and one byte 1 behind it. -/
theorem octP_laid (s : List UInt8) (L r : Nat) (hr : r < 8) (hs : s.length = L + r) :
    ((splice (List.replicate 8 (Value.int .u8 0)) 0 (vals (s.drop L))).toArray).setIfInBounds r (.int .u8 1) = (vals (octP s L)).toArray := by
  have hcl : (vals (s.drop L)).length = r := by rw [vals_length, List.length_drop]; omega
  obtain ⟨Z, hZ⟩ : ∃ Z, List.replicate 8 (Value.int .u8 0) = Z := ⟨_, rfl⟩
  have hZl : Z.length = 8 := by rw [← hZ]; rfl
  have hZg : ∀ i (h : i < Z.length), Z[i] = .int .u8 0 := by subst hZ; intro i h; exact List.getElem_replicate _
  rw [hZ]
  clear hZ
  have hlen : (splice Z 0 (vals (s.drop L))).length = 8 := by rw [length_splice _ _ _ (by omega), hZl]
  have ho : (vals (octP s L)).length = 8 := by rw [vals_length]; rfl
  apply Array.ext
  · rw [Array.size_setIfInBounds, List.size_toArray, List.size_toArray, hlen, ho]
  intro i h1 h2
  have hi8 : i < (octP s L).length := by rw [List.size_toArray, vals_length] at h2; exact h2
  have hi9 : i < 8 := hi8
  have hR : ((vals (octP s L)).toArray)[i] = .int .u8 ((byteP s (L + i)).toNat : Int) := by
    have hget := octP_get s L i hi8
    show (List.map (fun x : UInt8 => Value.int .u8 (x.toNat : Int)) (octP s L))[i]'(by rw [List.length_map]; exact hi8) = _
    rw [List.getElem_map, hget]
  refine Eq.trans ?_ hR.symm
  rw [Array.getElem_setIfInBounds (by rw [List.size_toArray, hlen]; exact hi9)]
  by_cases e : r = i
  · subst e
    rw [if_pos rfl]
    unfold byteP
    rw [dif_neg (by omega), if_pos (by omega)]
    rfl
  · rw [if_neg e]
    simp only [List.getElem_toArray, splice, List.take_zero, List.nil_append, Nat.zero_add]
    by_cases hlt : i < r
    · rw [List.getElem_append_left (by rw [hcl]; exact hlt)]
      simp only [vals, List.getElem_map, List.getElem_drop]
      unfold byteP
      rw [dif_pos (by omega)]
    · rw [List.getElem_append_right (by rw [hcl]; omega)]
      simp only [List.getElem_drop, hZg]
      unfold byteP
      rw [dif_neg (by omega), if_neg (by omega)]
      rfl

/-- What the loop of Four keeps: the block of x, that of the result, and what lay below. -/
def FourI (s : List UInt8) (g q : Nat) (w : World) (pre : List (Fin q)) (W : World) : Prop :=
  (Blk W (g + 1) 96 (cl (foldP s (pre.map (·.val)))) ∧ Blk W g 96 #[.int .u32 0, .int .u32 0, .int .u32 0, .int .u32 0]) ∧ Below g w W

theorem keepsOthers_below {W W' : World} (h : Below W.heap.size W W') : KeepsOthers W W' := ⟨h.size, fun k _ hk _ => (h.block k (Array.getElem?_eq_some_iff.1 hk).1).trans hk⟩
theorem keepsOthers_set4 (W : World) (g : Nat) (v0 v1 v2 v3 : Value) : KeepsOthers W ((((W.setCell ⟨g, 0, none⟩ v0).setCell ⟨g, 1, none⟩ v1).setCell ⟨g, 2, none⟩ v2).setCell ⟨g, 3, none⟩ v3) :=
  (((KeepsOthers.setCell _ _ _).trans (KeepsOthers.setCell _ _ _)).trans (KeepsOthers.setCell _ _ _)).trans (KeepsOthers.setCell _ _ _)
theorem cell_set4 {W : World} {g : Nat} {p : Addr} (hp : p.block ≠ g) (v0 v1 v2 v3 : Value) : ((((W.setCell ⟨g, 0, none⟩ v0).setCell ⟨g, 1, none⟩ v1).setCell ⟨g, 2, none⟩ v2).setCell ⟨g, 3, none⟩ v3).cell? p = W.cell? p := by
  have hne : ∀ i, (⟨g, i, none⟩ : Addr) ≠ p := fun i e => hp (by rw [← e])
  rw [World.cell?_setCell_other _ _ _ _ (hne 3), World.cell?_setCell_other _ _ _ _ (hne 2), World.cell?_setCell_other _ _ _ _ (hne 1), World.cell?_setCell_other _ _ _ _ (hne 0)]
theorem reachC_step {Bs Bn g : Nat} {A : Option Addr} {q cap : Nat} {W W1 : World} (hBs : Bs ≠ g) (hBn : Bn ≠ g) (hb : Below W.heap.size W W1) (v0 v1 v2 v3 : Value) (hR : ReachC Bs Bn A q cap W) :
    ReachC Bs Bn A q cap ((((W1.setCell ⟨g, 0, none⟩ v0).setCell ⟨g, 1, none⟩ v1).setCell ⟨g, 2, none⟩ v2).setCell ⟨g, 3, none⟩ v3) := by
  have h1 := World.block_lt_of_cell? W _ hR.1
  have h2 := World.block_lt_of_cell? W _ hR.2
  exact ⟨(cell_set4 (p := ⟨Bs, 0, none⟩) hBs _ _ _ _).trans ((hb.cell h1).trans hR.1), (cell_set4 (p := ⟨Bn, 0, none⟩) hBn _ _ _ _).trans ((hb.cell h2).trans hR.2)⟩
theorem blk_own {β : Type} (B : Nat) (t : TypeId) (f : β → Array Value) : Own (fun s W => Blk W B t (f s)) := fun s X Y row hs hg hrow =>
  Blk.grown hs hg (fun e' => by obtain ⟨o, ho, hc⟩ := hrow B e'.symm; rw [show X.heap[B]? = _ from hs] at ho; cases ho; cases hc)

set_option maxHeartbeats 2000000 in
theorem four_in (m : Nat) (hn : 3 ≤ m) (a : Option Addr) (len cap : Nat) (s : List UInt8) (w : World) (hA : Bsl w w.heap.size a len cap s) (hlen : len ≤ 4294967295) :
    CallsIn Fence.wide m Tryz.prog 65 #[.slice a len cap] w fun e W' => e = .returned (ag (fourW s)) ∧ Below w.heap.size w W' := by
  have hro : Fence.wide.round = none := rfl
  have hmx : Tryz.prog.follows Departure.mixedOrders = true := by kernel_rfl
  obtain ⟨q, hq⟩ : ∃ q, len / 8 = q := ⟨_, rfl⟩
  obtain ⟨r, hr⟩ : ∃ r, len % 8 = r := ⟨_, rfl⟩
  obtain ⟨L, hL⟩ : ∃ L, 8 * q = L := ⟨_, rfl⟩
  have hLl : L ≤ len := by omega
  have hlc := hA.2.1
  have hcm := hA.2.2.1
  have e1 : (len : Int) % 8 = (r : Int) := by omega
  have e2 : (len : Int) - (r : Int) = (L : Int) := by omega
  have hto := fun W => slice_to W a len cap L (by omega)
  obtain ⟨A', hfrom, hA'⟩ := slice_from a len cap L hLl hlc
  have i0 : (0 : Int) ≤ len := by omega
  have i1 : (len : Int) ≤ 4294967295 := by omega
  have i2 : (0 : Int) ≤ (r : Int) := by omega
  have i3 : (r : Int) ≤ 7 := by omega
  have HA := Lib.hid hA; clear hA
  have HA' := Lib.hid hA'; clear hA'
  have HQ := Lib.hid hq; clear hq
  have HR := Lib.hid hr; clear hr
  have HL := Lib.hid hL; clear hL
  have HFrom := Lib.hid hfrom; clear hfrom
  refine callsIn_of_wp_marks Tryz.func65 rfl trivial ?_ hro
  simp only [Tryz.ntmps65, List.size_toArray, List.length_cons, List.length_nil, Nat.reduceAdd, Nat.reduceSub, Array.replicate_succ, Array.replicate_zero, List.push_toArray, List.append_toArray, List.nil_append, List.cons_append]
  have hd : 1 ≤ m := by omega
  gi_wp2_with (refine ⟨trivial, ?_⟩; (gi_at_call 93; refine (chunk_in Fence.wide (m - 1) trivial hro _ _ _ _).mono ?_; rintro e w' ⟨rfl, rfl⟩))
  obtain ⟨g, hg⟩ : ∃ g, w.heap.size = g := ⟨_, rfl⟩
  obtain ⟨W0, hW0⟩ : ∃ W0, ((((w.alloc (Obj.cells #[Value.int IntKind.u32 0, Value.int IntKind.u32 0, Value.int IntKind.u32 0, Value.int IntKind.u32 0] 96)).alloc (Obj.cells #[Value.int IntKind.u32 1, Value.int IntKind.u32 2, Value.int IntKind.u32 3, Value.int IntKind.u32 4] 96)).alloc (Obj.cells #[Value.slice a L cap] 45)).alloc (Obj.cells #[Value.int IntKind.i64 8] 3)) = W0 := ⟨_, rfl⟩
  have hsz : W0.heap.size = g + 4 := by rw [← hW0]; simp [hg]
  have hB0 : Below g w W0 := by rw [← hW0, ← hg]; exact ((((Below.refl _ w).alloc (Nat.le_refl _) _).alloc (by simp) _).alloc (by simp; omega) _).alloc (by simp; omega) _
  have b0 : Blk W0 g 96 #[.int .u32 0, .int .u32 0, .int .u32 0, .int .u32 0] := by rw [← hW0, ← hg]; exact (((Blk.new w _ _).alloc _).alloc _).alloc _
  have b1 : Blk W0 (g + 1) 96 (cl ⟨1, 2, 3, 4⟩) := by
    have := ((Blk.new (w.alloc (Obj.cells #[Value.int IntKind.u32 0, Value.int IntKind.u32 0, Value.int IntKind.u32 0, Value.int IntKind.u32 0] 96)) 96 (cl ⟨1, 2, 3, 4⟩)).alloc (Obj.cells #[Value.slice a L cap] 45)).alloc (Obj.cells #[Value.int IntKind.i64 8] 3)
    rw [World.size_alloc, hg] at this
    rw [← hW0]
    exact this
  have b2 : Blk W0 (g + 2) 45 #[.slice a L cap] := by
    have := (Blk.new ((w.alloc (Obj.cells #[Value.int IntKind.u32 0, Value.int IntKind.u32 0, Value.int IntKind.u32 0, Value.int IntKind.u32 0] 96)).alloc (Obj.cells (cl ⟨1, 2, 3, 4⟩) 96)) 45 #[.slice a L cap]).alloc (Obj.cells #[Value.int IntKind.i64 8] 3)
    rw [World.size_alloc, World.size_alloc, hg] at this
    rw [← hW0]
    exact this
  have b3 : Blk W0 (g + 3) 3 #[.int .i64 8] := by
    have := (Blk.new (((w.alloc (Obj.cells #[Value.int IntKind.u32 0, Value.int IntKind.u32 0, Value.int IntKind.u32 0, Value.int IntKind.u32 0] 96)).alloc (Obj.cells (cl ⟨1, 2, 3, 4⟩) 96)).alloc (Obj.cells #[Value.slice a L cap] 45)) 3 #[.int .i64 8])
    rw [World.size_alloc, World.size_alloc, World.size_alloc, hg] at this
    rw [← hW0]
    exact this
  obtain ⟨b, off, hbo⟩ : ∃ b off, 0 < len → a = some ⟨b, off, none⟩ ∧ b < g ∧ ∀ i (h : i < s.length), w.cell? ⟨b, off + i, none⟩ = some (.int .u8 ((s[i]).toNat : Int)) := by
    rcases Nat.eq_zero_or_pos len with h0 | h0
    · exact ⟨0, 0, fun h => by omega⟩
    · obtain ⟨b, off, h1, h2, h3⟩ := HA.out.2.2.2.2 h0
      exact ⟨b, off, fun _ => ⟨h1, by omega, h3⟩⟩
  have hqL : 8 * q = L := HL.out
  rw [hW0, hg]
  have hR : ReachC (g + 2) (g + 3) a q cap W0 := ⟨by rw [hqL]; exact b2.cell 0, b3.cell 0⟩
  refine wpIn_rangeFunc_ownG hro hd (gf := 106) (lb := #[.pointer (some ⟨g + 1 + 1, 0, none⟩), .pointer (some ⟨g + 1 + 1 + 1, 0, none⟩)]) rfl trivial (enters_of Tryz.func106 (by kernel_rfl) rfl)
    (stopsC (m - 1) (by omega) (g + 1 + 1) (g + 1 + 1 + 1) b off q cap a (fun h => (hbo (by omega)).1) (by omega) (by unfold maxLen at hcm; omega) W0 (by omega) (by omega) hR) (fun h k r => k (h r)) (fun W l o o' _ h ho _ => reachC_putObj l o o' h ho) (Below.refl _ _) (fun _ => rfl)
    (FourI s g q w) (fun _ _ _ => False) ?hI (fun _ _ _ _ _ hs _ _ => hs) ⟨⟨b1, b0⟩, hB0⟩
    (fun x => { tmps := #[Value.slice a len cap, undef, Value.pointer (some { block := g, off := 0 }), Value.pointer (some { block := g + 1, off := 0 }), Value.int IntKind.i64 ↑L, .slice (some ⟨b, off + 8 * x.val, none⟩) 8 8, undef, Value.agg #[Value.int IntKind.u32 1, Value.int IntKind.u32 2, Value.int IntKind.u32 3, Value.int IntKind.u32 4], Value.slice a len cap, Value.int IntKind.i64 ↑len, Value.slice a len cap, Value.int IntKind.i64 ↑len, Value.int IntKind.i64 ↑r, Value.int IntKind.i64 ↑L, Value.slice a len cap, Value.int IntKind.i64 ↑L, Value.slice a L cap, Value.func (Fn.func 106) #[] #[Value.pointer (some { block := g + 1 + 1, off := 0 }), Value.pointer (some { block := g + 1 + 1 + 1, off := 0 })], .slice (some ⟨b, off + 8 * x.val, none⟩) 8 8, undef, undef, undef, undef, undef, undef, undef, undef, undef, undef, undef, undef, undef, undef, undef, undef, undef, undef, undef, undef, undef], defers := [] }) ?assign ?body ?done ?stop
  case hI => exact OwnFrom.and (OwnFrom.and ((blk_own _ _ _).from _) ((blk_own _ _ _).from _)) (ownFrom_below (by omega) (by omega))
  case assign =>
    intro l x W K hK
    gi_wp2
    exact hK
  case body =>
    rintro l pre x W ⟨⟨hx, hr0⟩, hB⟩ _
    have c0 := hx.cell 0
    have c1 := hx.cell 1
    have c2 := hx.cell 2
    have c3 := hx.cell 3
    have hbt := hbo (by have := x.isLt; omega)
    have htk := take_any (foldP s (pre.map (·.val))) b (off + 8 * x.val) 8 (octP s (8 * x.val)) rfl (by omega) (by omega) W (Nat.lt_of_lt_of_le hbt.2.1 (by rw [← hg]; exact hB.size)) (fun i hi => by
      have hi8 : i < 8 := hi
      have hxq := x.isLt
      have hls : s.length = len := HA.out.1
      rw [octP_get, Nat.add_assoc, hB.cell (p := ⟨b, off + (8 * x.val + i), none⟩) hbt.2.1, hbt.2.2 (8 * x.val + i) (by omega)]
      unfold byteP
      rw [dif_pos (by omega)])
    rw [octP_lo, octP_hi] at htk
    have HX := Lib.hid hx; clear hx
    have HR0 := Lib.hid hr0; clear hr0
    have HB := Lib.hid hB; clear hB
    have HT := Lib.hid htk; clear htk
    have HBO := Lib.hid hbo; clear hbo
    have HBT := Lib.hid hbt; clear hbt
    have hd2 : 1 ≤ m - 1 - 1 := by omega
    gi_wp2
    refine ⟨trivial, ?_⟩
    refine (CallsIn.inRound l (callsIn_wide.2 HT.out)).mono ?_
    rintro e W1 ⟨rfl, bb⟩
    have hx1 := HX.out.below bb HX.out.lt
    have hr1 := HR0.out.below bb HR0.out.lt
    have hb1 := HB.out.trans (bb.mono (by rw [← hg]; exact HB.out.size))
    have f := fun i => hx1.frozen i
    have d0 := hx1.cell 0
    have d1 := hx1.cell 1
    have d2 := hx1.cell 2
    have d3 := hx1.cell 3
    have HX1 := Lib.hid hx1; clear hx1
    have HR1 := Lib.hid hr1; clear hr1
    have HB1 := Lib.hid hb1; clear hb1
    have HBB := Lib.hid bb; clear bb
    clear c0 c1 c2 c3
    have hy : foldP s ((pre ++ [x]).map (·.val)) = stepW (foldP s (pre.map (·.val))) (BitVec.ofNat 32 (leN (quadP s (8 * x.val)))) (BitVec.ofNat 32 (leN (quadP s (8 * x.val + 4)))) := by rw [List.map_append, List.map_cons, List.map_nil, foldP_snoc]; rfl
    obtain ⟨y, hy'⟩ : ∃ y, stepW (foldP s (pre.map (·.val))) (BitVec.ofNat 32 (leN (quadP s (8 * x.val)))) (BitVec.ofNat 32 (leN (quadP s (8 * x.val + 4)))) = y := ⟨_, rfl⟩
    rw [hy'] at hy ⊢
    clear hy' HT
    have HY := Lib.hid hy; clear hy
    gi_wp2
    exact ⟨((keepsOthers_below HBB.out).trans (keepsOthers_set4 _ _ _ _ _ _)).from _, fun hr => reachC_step (by omega) (by omega) HBB.out _ _ _ _ hr,
      ⟨by rw [HY.out]; exact HX1.out.set4 _ _ _ _, (((HR1.out.far (by simp) _).far (by simp) _).far (by simp) _).far (by simp) _⟩, below_set4 HB1.out (by omega) _ _ _ _⟩
  case done =>
    rintro D ys W hD hC ⟨⟨hx, hr0⟩, hB⟩ hK
    have hC' : ys.map (·.val) = List.range q := hC
    rw [hC', foldP_range] at hx
    clear hC hC'
    have hD' : g + 4 ≤ D := by omega
    have HX := Lib.hid hx; clear hx
    have HR0 := Lib.hid hr0; clear hr0
    have HB := Lib.hid hB; clear hB
    have HK := Lib.hid hK; clear hK
    have HBO := Lib.hid hbo; clear hbo
    have hfr := HFrom.out
    have HSZ := Lib.hid hsz; clear hsz
    have HW0 := Lib.hid hW0; clear hW0
    have HG := Lib.hid hg; clear hg
    have HQL := Lib.hid hqL; clear hqL
    have HB0 := Lib.hid hB0; clear hB0 b0 b1 b2 b3 hR
    gi_wp2
    obtain ⟨t, ht⟩ : ∃ t, W.heap.size = t := ⟨_, rfl⟩
    obtain ⟨W1, hW1⟩ : ∃ W1, (W.alloc (Obj.cells #[Value.int IntKind.u8 0, Value.int IntKind.u8 0, Value.int IntKind.u8 0, Value.int IntKind.u8 0, Value.int IntKind.u8 0, Value.int IntKind.u8 0, Value.int IntKind.u8 0, Value.int IntKind.u8 0] 124)).drew = W1 := ⟨_, rfl⟩
    have hbt : Blk W1 t 124 (List.replicate 8 (Value.int .u8 0)).toArray := by rw [← hW1, ← ht]; exact (Blk.new W _ _).drew
    have hx1 : Blk W1 (g + 1) 96 (cl (behind s q)) := by rw [← hW1]; exact (HX.out.alloc _).drew
    have hr1 : Blk W1 g 96 #[.int .u32 0, .int .u32 0, .int .u32 0, .int .u32 0] := by rw [← hW1]; exact (HR0.out.alloc _).drew
    have hgW : g ≤ W.heap.size := by rw [← HG.out]; exact HB.out.size
    have hb1 : Below g w W1 := by rw [← hW1]; exact (HB.out.alloc hgW _).drew
    have hk1 : W1.heap[D]? = some (.deferred (some [])) := by
      rw [← hW1]
      exact (Below.heap_alloc W _ D (Array.getElem?_eq_some_iff.1 HK.out).1).trans HK.out
    have hst : W1.heap.size = t + 1 := by rw [← hW1, ← ht]; simp
    have hgt : g + 1 < t := by rw [← ht]; exact HX.out.lt
    have hDt : D < t := by rw [← ht]; exact (Array.getElem?_eq_some_iff.1 HK.out).1
    rw [ht]
    have HW1 := Lib.hid hW1; clear hW1
    have HT := Lib.hid ht; clear ht
    have HBT := Lib.hid hbt; clear hbt
    have HX1 := Lib.hid hx1; clear hx1
    have HR1 := Lib.hid hr1; clear hr1
    have HB1 := Lib.hid hb1; clear hb1
    have HK1 := Lib.hid hk1; clear hk1
    have HST := Lib.hid hst; clear hst
    refine region_wide_named 4 hmx (by kernel_rfl) (fun h => by obtain ⟨_, _, h, _⟩ := h; cases h) (by kernel_rfl) HW1.out ?_
    simp only [List.take_succ_cons, List.take_zero, List.drop_succ_cons, List.drop_zero]
    repeat still_step
    refine wpStill_nil ?_
    have hls : s.length = L + r := by rw [HA.out.1]; have := HQ.out; have := HR.out; have := HQL.out; omega
    have hcl : (vals (s.drop L)).length = r := by rw [vals_length, List.length_drop]; omega
    refine wpList_copy_splice rfl (.tmp 22) (.tmp 25) 45 45 rfl 5 Tryz.underlying45 (by kernel_rfl) (some ⟨t, 0, none⟩) A' 8 8 (len - L) (cap - L) rfl rfl t 0 (List.replicate 8 (.int .u8 0)) 124 HBT.out (vals (s.drop L)) ?_ ?_ ?_ ?_ t W1 (Below.refl _ _) (Nat.le_refl _) ?_
    · rw [hcl]
      have : len - L = r := by have := HA.out.1; omega
      rw [this]
      show r = min r 8
      omega
    · intro hpos
      have hlp : L < len := by have := HA.out.1; omega
      obtain ⟨ea, hbg, hc⟩ := HBO.out (by omega)
      refine ⟨rfl, ⟨b, off + L, none⟩, HA'.out hlp b off ea, fun j v hv => ?_⟩
      obtain ⟨hj, rfl⟩ := vals_get hv
      have hj' : L + j < s.length := by rw [List.length_drop] at hj; omega
      have e1 : (⟨b, off + L, none⟩ : Addr).add j = ⟨b, off + (L + j), none⟩ := by
        unfold Addr.add
        by_cases h0 : j = 0
        · subst h0; simp
        · rw [if_neg h0]; simp; omega
      rw [e1, HB1.out.cell (p := ⟨b, off + (L + j), none⟩) hbg, hc (L + j) hj']
      simp only [List.getElem_drop]
    · rw [hcl]; simp; omega
    · intro v hv
      obtain ⟨y, _, rfl⟩ := List.mem_map.1 hv
      rfl
    · intro W2 hh hb2
      rw [hcl]
      have hbt2 : Blk W2 t 124 (splice (List.replicate 8 (Value.int .u8 0)) 0 (vals (s.drop L))).toArray := hh.out
      have hsp : (splice (List.replicate 8 (Value.int .u8 0)) 0 (vals (s.drop L))).length = 8 := by rw [length_splice _ _ _ (by rw [hcl]; simp; omega)]; rfl
      have hlr : ∃ u, W2.cell? ⟨t, r, none⟩ = some u := by
        rw [hbt2.cell r]
        exact ⟨_, Array.getElem?_eq_getElem (by rw [List.size_toArray, hsp]; omega)⟩
      obtain ⟨u, hu⟩ := hlr
      have hfz := hbt2.frozen r
      have hset := octP_laid s L r (by omega) hls
      have j0 : (r : Int) < 8 := by omega
      have hx2 := HX1.out.below hb2 hgt
      have hr2 := HR1.out.below hb2 (by omega)
      have hbw2 : Below g w W2 := HB1.out.trans (hb2.mono (by omega))
      have hk2 : W2.heap[D]? = some (.deferred (some [])) := (hb2.block D hDt).trans HK1.out
      have HX2 := Lib.hid hx2; clear hx2
      have HR2 := Lib.hid hr2; clear hr2
      have HBW2 := Lib.hid hbw2; clear hbw2
      have HK2 := Lib.hid hk2; clear hk2
      have HBT2 := Lib.hid hbt2; clear hbt2
      have HSET := Lib.hid hset; clear hset
      have HLS := Lib.hid hls; clear hls
      have HCL := Lib.hid hcl; clear hcl
      have HB2 := Lib.hid hb2; clear hb2
      clear hsp hh
      go_wp2
      gi_wp2
      obtain ⟨W3, hW3⟩ : ∃ W3, (W2.setCell ⟨t, r, none⟩ (Value.int IntKind.u8 1)).drew = W3 := ⟨_, rfl⟩
      have hbt3 : Blk W3 t 124 (vals (octP s L)).toArray := by rw [← hW3, ← HSET.out]; exact (HBT2.out.set_ r _).drew
      have hx3 : Blk W3 (g + 1) 96 (cl (behind s q)) := by rw [← hW3]; exact (HX2.out.far (by simp; omega) _).drew
      have hr3 : Blk W3 g 96 #[.int .u32 0, .int .u32 0, .int .u32 0, .int .u32 0] := by rw [← hW3]; exact (HR2.out.far (by simp; omega) _).drew
      have hb3 : Below g w W3 := by rw [← hW3]; exact (HBW2.out.setCell (p := ⟨t, r, none⟩) (by simp; omega) _).drew
      have hk3 : W3.heap[D]? = some (.deferred (some [])) := by rw [← hW3]; exact (Below.heap_setCell W2 ⟨t, r, none⟩ _ D (by simp; omega)).trans HK2.out
      have htk := take_any (behind s q) t 0 8 (octP s L) rfl (by omega) (by omega) W3 hbt3.lt (fun i hi => by
        have hi8 : i < 8 := hi
        rw [Nat.zero_add, hbt3.cell i, List.getElem?_toArray]
        show (List.map _ (octP s L))[i]? = _
        rw [List.getElem?_map, List.getElem?_eq_getElem hi]
        rfl)
      rw [octP_lo, octP_hi] at htk
      have hst : stepW (behind s q) (BitVec.ofNat 32 (leN (quadP s L))) (BitVec.ofNat 32 (leN (quadP s (L + 4)))) = behind s (q + 1) := by rw [← HQL.out]; rfl
      rw [hst] at htk
      have c0 := hx3.cell 0
      have c1 := hx3.cell 1
      have c2 := hx3.cell 2
      have c3 := hx3.cell 3
      have HW3 := Lib.hid hW3; clear hW3
      have HTK := Lib.hid htk; clear htk hst
      have HX3 := Lib.hid hx3; clear hx3
      have HR3 := Lib.hid hr3; clear hr3
      have HB3 := Lib.hid hb3; clear hb3
      have HK3 := Lib.hid hk3; clear hk3
      clear hbt3 hfz hu
      refine region_wide_named 2 hmx (by kernel_rfl) (fun h => by obtain ⟨_, _, h, _⟩ := h; cases h) (by kernel_rfl) HW3.out ?_
      simp only [List.take_succ_cons, List.take_zero, List.drop_succ_cons, List.drop_zero]
      repeat still_step
      refine wpStill_nil ?_
      go_wp2_with fail
      refine HTK.out.mono ?_
      rintro e W4 ⟨rfl, b4⟩
      obtain ⟨y, hy⟩ : ∃ y, behind s (q + 1) = y := ⟨_, rfl⟩
      rw [hy]
      have hx4 := HX3.out.below b4 HX3.out.lt
      have hr4 := HR3.out.below b4 HR3.out.lt
      have hb4 : Below g w W4 := HB3.out.trans (b4.mono (by rw [← HG.out]; exact HB3.out.size))
      have hk4 : W4.heap[D]? = some (.deferred (some [])) := (b4.block D (Array.getElem?_eq_some_iff.1 HK3.out).1).trans HK3.out
      have f := fun i => hx4.frozen i
      have d0 := hx4.cell 0
      have d1 := hx4.cell 1
      have d2 := hx4.cell 2
      have d3 := hx4.cell 3
      have hxl : ∀ x : BitVec 32, bits .xor .u32 (x.toNat : Int) (len : Int) = ((xo x (BitVec.ofNat 32 len)).toNat : Int) := fun x => by
        have e : (BitVec.ofNat 32 len).toNat = len := by rw [BitVec.toNat_ofNat]; exact Nat.mod_eq_of_lt (by omega)
        have := xor32 x (BitVec.ofNat 32 len)
        rwa [e] at this
      have HY := Lib.hid hy; clear hy
      have HX4 := Lib.hid hx4; clear hx4
      have HR4 := Lib.hid hr4; clear hr4
      have HB4 := Lib.hid hb4; clear hb4
      have HK4 := Lib.hid hk4; clear hk4
      clear b4 c0 c1 c2 c3
      go_wp2
      obtain ⟨W5, hW5⟩ : ∃ W5, ((((W4.setCell ⟨g + 1, 0, none⟩ (.int .u32 (y.a.toNat : Int))).setCell ⟨g + 1, 1, none⟩ (.int .u32 (y.b.toNat : Int))).setCell ⟨g + 1, 2, none⟩ (.int .u32 (y.c.toNat : Int))).setCell ⟨g + 1, 3, none⟩ (.int .u32 (y.d.toNat : Int))) = W5 := ⟨_, rfl⟩
      have hx5 : Blk W5 (g + 1) 96 (cl y) := hW5 ▸ HX4.out.set4 _ _ _ _
      have hr5 : Blk W5 g 96 #[.int .u32 0, .int .u32 0, .int .u32 0, .int .u32 0] := hW5 ▸ (((HR4.out.far (by simp) _).far (by simp) _).far (by simp) _).far (by simp) _
      have hb5 : Below g w W5 := hW5 ▸ below_set4 HB4.out (by omega) _ _ _ _
      have hk5 : W5.heap[D]? = some (.deferred (some [])) := hW5 ▸ (keepsOthers_set4 W4 (g + 1) _ _ _ _).same D _ HK4.out rfl
      rw [hW5]
      clear hW5 f d0 d1 d2 d3 e1 e2 hto hfr HX4 HR4 HB4 HK4
      have f := fun i => hx5.frozen i
      have d0 := hx5.cell 0
      have d1 := hx5.cell 1
      have d2 := hx5.cell 2
      have d3 := hx5.cell 3
      have HX5 := Lib.hid hx5; clear hx5
      have HR5 := Lib.hid hr5; clear hr5
      have HB5 := Lib.hid hb5; clear hb5
      have HK5 := Lib.hid hk5; clear hk5
      gi_wp2_with (fail)
      refine ⟨trivial, ?_⟩
      refine (callsIn_wide.2 (turns_any ⟨y.a, xo y.b (BitVec.ofNat 32 len), y.c, y.d⟩ 8 (by omega) _)).mono ?_
      rintro e W6 ⟨rfl, b6⟩
      have hz : turnsW 8 ⟨y.a, xo y.b (BitVec.ofNat 32 len), y.c, y.d⟩ = fourW s := by
        have h1 : s.length = len := HA.out.1
        have h2 : len / 8 = q := HQ.out
        unfold fourW
        rw [h1, h2, HY.out]
      rw [hz]
      obtain ⟨z, hz'⟩ : ∃ z, fourW s = z := ⟨_, rfl⟩
      rw [hz']
      have hr6 : Blk W6 g 96 _ := (HR5.out.far (p := ⟨g + 1, 1, none⟩) (by simp) (.int .u32 ((xo y.b (BitVec.ofNat 32 len)).toNat : Int))).below b6 (by simp; exact HR5.out.lt)
      have hb6 : Below g w W6 := (HB5.out.setCell (p := ⟨g + 1, 1, none⟩) (by simp) _).trans (b6.mono (by simp; rw [← HG.out]; exact HB5.out.size))
      have hk6 : W6.heap[D]? = some (.deferred (some [])) := (b6.block D (by simp; exact (Array.getElem?_eq_some_iff.1 HK5.out).1)).trans ((Below.heap_setCell W5 ⟨g + 1, 1, none⟩ _ D (by simp; omega)).trans HK5.out)
      have HZ := Lib.hid hz'; clear hz' hz
      clear f d0 d1 d2 d3 b6
      have f := fun i => hr6.frozen i
      have d0 := hr6.cell 0
      have d1 := hr6.cell 1
      have d2 := hr6.cell 2
      have d3 := hr6.cell 3
      have HR6 := Lib.hid hr6; clear hr6
      have HB6 := Lib.hid hb6; clear hb6
      have HK6 := Lib.hid hk6; clear hk6
      gi_wp2_with (fail)
      obtain ⟨W7, hW7⟩ : ∃ W7, ((((W6.setCell ⟨g, 0, none⟩ (.int .u32 (z.a.toNat : Int))).setCell ⟨g, 1, none⟩ (.int .u32 (z.b.toNat : Int))).setCell ⟨g, 2, none⟩ (.int .u32 (z.c.toNat : Int))).setCell ⟨g, 3, none⟩ (.int .u32 (z.d.toNat : Int))) = W7 := ⟨_, rfl⟩
      have hr7 : Blk W7 g 96 (cl z) := hW7 ▸ HR6.out.set4 _ _ _ _
      have hb7 : Below g w W7 := hW7 ▸ below_set4 HB6.out (Nat.le_refl _) _ _ _ _
      have hk7 : W7.heap[D]? = some (.deferred (some [])) := hW7 ▸ (keepsOthers_set4 W6 g _ _ _ _).same D _ HK6.out rfl
      rw [hW7]
      clear hW7 f d0 d1 d2 d3
      refine ⟨by simp, .inl ⟨_, _, rfl, run_takeDeferred hk7, ?_⟩⟩
      have hr8 : Blk (W7.putObj D (.deferred none)) g 96 (cl z) := hr7.grown (grownBy_putObj' W7 D (.deferred none)) (fun e => by injection e; omega)
      have e0 := hr8.cell 0
      have e1 := hr8.cell 1
      have e2 := hr8.cell 2
      have e3 := hr8.cell 3
      trace_state
      refine ⟨ag z, by simp [results, Tryz.f65, go_sem, e0, e1, e2, e3], ?_, ?_⟩
      · rw [HZ.out]
      · rw [HG.out]
        exact hb7.trans (belowK_b (w := w) (by rw [HG.out]; exact Nat.le_refl _) W7 D _ _ (by rw [HG.out]; omega) hk7 rfl rfl)
  case stop =>
    rintro D c pre W _ _ h _
    exact h.elim
end Go.Proofs.YtldnelimemjaiaaGreatDoor
/-
  mix.Four, mix.Sum and mix.Key, whatever bytes they are handed, answer the four words of these bytes, the first of them, and all of them as bytes; nothing that was there is written.
-/
namespace Go.Proofs.YtldnelimemjaiaaGreatDoor
open Go.RowKit Go.Shelf
set_option maxRecDepth 100000

theorem four_any (a : Option Addr) (len cap : Nat) (s : List UInt8) (w : World) (hA : Bsl w w.heap.size a len cap s) (hlen : len ≤ 4294967295) :
    Calls Tryz.prog 65 #[.slice a len cap] w fun e W' => e = .returned (ag (fourW s)) ∧ Below w.heap.size w W' :=
  callsIn_wide.1 (four_in 3 (Nat.le_refl _) a len cap s w hA hlen)

theorem sum_any (a : Option Addr) (len cap : Nat) (s : List UInt8) (w : World) (hA : Bsl w w.heap.size a len cap s) (hlen : len ≤ 4294967295) :
    Calls Tryz.prog 36 #[.slice a len cap] w fun e W' => e = .returned (.int .u32 ((fourW s).a.toNat : Int)) ∧ Below w.heap.size w W' := by
  have hf := four_any a len cap s w hA hlen
  have HF := Lib.hid hf; clear hf hA
  obtain ⟨x, hx⟩ : ∃ x, fourW s = x := ⟨_, rfl⟩
  rw [hx] at HF ⊢
  clear hx
  have hi : ∀ W : World, (Instr.index 96 (ag x) (.int .i64 0)).run Tryz.prog W = .ok (.int .u32 (x.a.toNat : Int)) W := fun W => by kernel_rfl
  go_enter Tryz.func36, Tryz.ntmps36
  go_wp2_with fail
  refine HF.out.mono ?_
  rintro e W1 ⟨rfl, b1⟩
  have HB := Lib.hid b1; clear b1
  go_wp2_with fail
  go_ret
  exact ⟨rfl, HB.out⟩

/-- The word of number k. -/
def nthW (x : W4) (k : Nat) : BitVec 32 := if k = 0 then x.a else if k = 1 then x.b else if k = 2 then x.c else x.d
theorem indexW (x : W4) (k : Nat) (hk : k < 4) (W : World) : (Instr.index 96 (ag x) (.int .i64 (k : Int))).run Tryz.prog W = .ok (.int .u32 ((nthW x k).toNat : Int)) W := by
  have : k = 0 ∨ k = 1 ∨ k = 2 ∨ k = 3 := by omega
  rcases this with rfl | rfl | rfl | rfl
  · exact (show (Instr.index 96 (ag x) (.int .i64 0)).run Tryz.prog W = .ok (.int .u32 (x.a.toNat : Int)) W by kernel_rfl)
  · exact (show (Instr.index 96 (ag x) (.int .i64 1)).run Tryz.prog W = .ok (.int .u32 (x.b.toNat : Int)) W by kernel_rfl)
  · exact (show (Instr.index 96 (ag x) (.int .i64 2)).run Tryz.prog W = .ok (.int .u32 (x.c.toNat : Int)) W by kernel_rfl)
  · exact (show (Instr.index 96 (ag x) (.int .i64 3)).run Tryz.prog W = .ok (.int .u32 (x.d.toNat : Int)) W by kernel_rfl)
/-- The bytes of the first k words. -/
def bytesW (x : W4) : Nat → List UInt8
  | 0 => []
  | k + 1 => bytesW x k ++ leB 4 (nthW x k).toNat
theorem bytesW_length (x : W4) : ∀ k, (bytesW x k).length = 4 * k
  | 0 => rfl
  | k + 1 => by rw [bytesW, List.length_append, bytesW_length x k, leB_length]; omega

/-- What Key leaves: sixteen bytes in new memory. -/
def KeyPost (x : W4) (w : World) (e : Ending) (W' : World) : Prop :=
  ∃ g cap, e = .returned (.slice (some ⟨g, 0, none⟩) 16 cap) ∧ w.heap.size ≤ g ∧ g < W'.heap.size ∧ 16 ≤ cap ∧ cap ≤ maxLen ∧ Holds W' g (bytesW x 4) ∧ Below w.heap.size w W'

end Go.Proofs.YtldnelimemjaiaaGreatDoor
/-
  slices.Grow of nil, and slices.Concat of lists of bytes: new memory that holds them all, one behind the other; nothing that was there is written.
-/
namespace Go.Proofs.YtldnelimemjaiaaGreatDoor
open Go.RowKit Go.Shelf
set_option maxRecDepth 100000

set_option maxHeartbeats 1000000 in
theorem grow_any (n : Nat) (h0 : 0 < n) (hn : n ≤ 100000) (w : World) : Calls Tryz.prog 63 #[.slice none 0 0, .int .i64 n] w fun e w' => ∃ v, e = .returned v ∧ w'.ownsRow w.heap.size 5 1 v 0 (vals []) ∧ Below w.heap.size w w' := by
  obtain ⟨i0, hi, hz0, hz1, hz2⟩ := info_parts infoU8
  have hr : ∀ ty, (Builtin.append_ #[45, 3] ty #[.slice none 0 0, .int .i64 n]).run Tryz.prog w =
      .ok (.slice (some ⟨w.heap.size, 0, none⟩) n (grownCap w n 0 5)) (w.drew.alloc (.cells (Builtin.zeroCells (Value.int .u8 0).cells n ++ Builtin.zeroCells (Value.int .u8 0).cells (grownCap w n 0 5 - n)) 5)) := fun ty =>
    Lib.run_append_nil_zeros w 45 3 ty 5 i0 (.int .u8 0) .i64 .i64 Tryz.underlying45 Tryz.underlying3 hi hz0 n h0 (by omega) (by omega) (by rw [hz2]; omega)
  have hG1 : n ≤ grownCap w n 0 5 := grownCap_ge w _ _ _
  have hG2 : grownCap w n 0 5 ≤ maxLen := grownCap_le_maxLen w n 0 5 (by unfold maxLen; omega)
  obtain ⟨G, hG⟩ : ∃ G, grownCap w n 0 5 = G := ⟨_, rfl⟩
  rw [hG] at hr hG1 hG2
  obtain ⟨cs, hcs⟩ : ∃ cs, Builtin.zeroCells (Value.int .u8 0).cells n ++ Builtin.zeroCells (Value.int .u8 0).cells (G - n) = cs := ⟨_, rfl⟩
  have hsz : cs.size = G := by
    rw [← hcs]
    simp [Builtin.zeroCells, Value.cells]
    omega
  rw [hcs] at hr
  have z5 : ∀ w, (Go.sizeOf 5).run Tryz.prog w = .ok 1 w := fun w => by kernel_rfl
  have n1 : ¬ ((n : Int) < 0) := by omega
  have n2 : (0 : Int) < n := by omega
  have n3 : (n : Int) ≤ 100000 := by omega
  have g0 : (G : Int) ≤ 9223372036854775807 := by unfold maxLen at hG2; omega
  have hown : (w.drew.alloc (.cells cs 5)).ownsRow w.heap.size 5 1 (.slice (some ⟨w.heap.size, 0, none⟩) 0 G) 0 (vals []) :=
    ⟨rfl, .inr ⟨w.heap.size, G, cs, rfl, Nat.le_refl _, by have := heap_alloc_new w.drew (.cells cs 5); simpa using this, Nat.zero_le _, hG2, by omega, by simp [vals]⟩⟩
  have hbel : Below w.heap.size w (w.drew.alloc (.cells cs 5)) := (Below.refl _ w).drew.alloc (by simp) _
  have HO := Lib.hid hown; clear hown
  have HB := Lib.hid hbel; clear hbel
  have HG2 := Lib.hid hG2; clear hG2
  clear hG hcs hsz hi hz0 hz1 hz2
  go_enter Tryz.func63, Tryz.ntmps63
  go_wp2_with (at_builtin; refine Lib.wpList_append_run _ rfl _ _ _ _ rfl _ _ rfl rfl _ _ (hr _) ?_)
  go_ret
  exact ⟨_, rfl, HO.out, HB.out⟩

/-- A list of bytes as it is handed in. -/
structure Part where
  a : Option Addr
  len : Nat
  cap : Nat
  s : List UInt8
/-- Lists, one behind the other. -/
def flat (ps : List Part) : List UInt8 := ps.flatMap (·.s)
theorem flat_take_succ (ps : List Part) (k : Nat) (h : k < ps.length) : flat (ps.take (k + 1)) = flat (ps.take k) ++ (ps[k]).s := by
  unfold flat
  rw [List.take_succ_eq_append_getElem h, List.flatMap_append]
  simp
theorem flat_take_le (ps : List Part) (k : Nat) : (flat (ps.take k)).length ≤ (flat ps).length := by
  have : flat ps = flat (ps.take k) ++ flat (ps.drop k) := by
    unfold flat
    rw [← List.flatMap_append, List.take_append_drop]
  rw [this, List.length_append]
  omega

/-- A new list that holds s. -/
def NewPost (s : List UInt8) (w : World) (e : Ending) (w' : World) : Prop :=
  ∃ g cap, e = .returned (.slice (some ⟨g, 0, none⟩) s.length cap) ∧ w.heap.size ≤ g ∧ g < w'.heap.size ∧ s.length ≤ cap ∧ cap ≤ maxLen ∧ Holds w' g s ∧ Below w.heap.size w w'

/-- The same, the call's own. -/
def OwnPost (s : List UInt8) (w : World) (e : Ending) (w' : World) : Prop := ∃ v, e = .returned v ∧ w'.ownsRow w.heap.size 5 1 v s.length (vals s) ∧ Below w.heap.size w w'

set_option maxHeartbeats 2000000 in
theorem concat_own (r c : Nat) (ps : List Part) (w : World) (hr : r < w.heap.size) (hl : ps.length ≤ 1000) (_hc : ps.length ≤ c)
    (hcell : ∀ i (h : i < ps.length), w.cell? ⟨r, i, none⟩ = some (.slice (ps[i]).a (ps[i]).len (ps[i]).cap)) (hb : ∀ i (h : i < ps.length), Bsl w w.heap.size (ps[i]).a (ps[i]).len (ps[i]).cap (ps[i]).s)
    (h0 : 0 < (flat ps).length) (hm : (flat ps).length ≤ 100000) :
    Calls Tryz.prog 34 #[.slice (some ⟨r, 0, none⟩) ps.length c] w (OwnPost (flat ps) w) := by
  obtain ⟨n, hn⟩ : ∃ n, ps.length = n := ⟨_, rfl⟩
  have HN := Lib.hid hn
  rw [hn] at hl ⊢
  clear hn
  have n0 : (0 : Int) ≤ n := by omega
  have n1 : (n : Int) ≤ 1000 := by omega
  have HC := Lib.hid hcell; clear hcell
  have HB := Lib.hid hb; clear hb
  have HM := Lib.hid hm; clear hm
  have H0 := Lib.hid h0; clear h0
  go_enter Tryz.func34, Tryz.ntmps34
  go_wp2_with fail
  go_loop [3, 11] (fun z i => ∃ k : Nat, k ≤ n ∧ i = .int .i64 k ∧ z = .int .i64 ((flat (ps.take k)).length : Nat)) (fun _ i => n - (intOf i).toNat)
  case atStart => exact ⟨0, Nat.zero_le _, rfl, rfl⟩
  case round =>
    obtain ⟨k, hk, rfl, rfl⟩ := hrel
    by_cases hlt : k < n
    · have hkp : k < ps.length := by rw [HN.out]; exact hlt
      have hce := HC.out k hkp
      have hbe := (HB.out k hkp).1
      have hsu := flat_take_succ ps k hkp
      have hle := flat_take_le ps (k + 1)
      rw [hsu, List.length_append, hbe] at hle
      have hsl : (flat (ps.take (k + 1))).length = (flat (ps.take k)).length + (ps[k]).len := by rw [hsu, List.length_append, hbe]
      obtain ⟨p, hp⟩ : ∃ p, ps[k] = p := ⟨_, rfl⟩
      rw [hp] at hce hle hsl
      obtain ⟨m, hm⟩ : ∃ m, (flat (ps.take k)).length = m := ⟨_, rfl⟩
      rw [hm] at hle hsl ⊢
      obtain ⟨pa, pl, pc, pss⟩ := p
      dsimp only at hce hle hsl
      have hmm := HM.out
      have m0 : (0 : Int) ≤ (m : Int) := by omega
      have m1 : (m : Int) + (pl : Int) ≤ 100000 := by omega
      have m2 : (0 : Int) ≤ (pl : Int) := by omega
      have m3 : ¬ ((m : Int) + (pl : Int) < 0) := by omega
      have k0 : (k : Int) < n := by omega
      have HSL := Lib.hid hsl; clear hsl
      clear hp hm hsu hbe hle hmm
      go_wp2_with fail
      go_round
      case rel => exact ⟨k + 1, by omega, by go_num, by rw [HSL.out]; go_num⟩
      case measure => simp [intOf]; omega
    · obtain rfl : k = n := by omega
      have ht : ps.take k = ps := List.take_of_length_le (by rw [HN.out]; exact Nat.le_refl _)
      rw [ht]
      obtain ⟨m, hm⟩ : ∃ m, (flat ps).length = m := ⟨_, rfl⟩
      have gr := grow_any m (by rw [← hm]; exact H0.out) (by rw [← hm]; exact HM.out) w
      rw [hm]
      have GR := Lib.hid gr; clear gr
      have HML := Lib.hid hm; clear hm ht
      go_wp2_with fail
      refine GR.out.mono ?_
      rintro e w1 ⟨v, rfl, ho, b1⟩
      have HO := Lib.hid ho; clear ho
      have HB1 := Lib.hid b1; clear b1
      go_wp2_with fail
      go_loopw [6, 27] (fun v i wr => ∃ j : Nat, j ≤ k ∧ i = .int .i64 j ∧ wr.ownsRow w.heap.size 5 1 v (flat (ps.take j)).length (vals (flat (ps.take j))) ∧ Below w.heap.size w wr) (fun _ i _ => k - (intOf i).toNat)
      case atStart => exact ⟨0, Nat.zero_le _, rfl, HO.out, HB1.out⟩
      case round =>
        obtain ⟨j, hj, rfl, ho2, hb2⟩ := hrel
        by_cases hlt2 : j < k
        · have hkp : j < ps.length := by rw [HN.out]; exact hlt2
          have hce := (hb2.cell (p := ⟨r, j, none⟩) hr).trans (HC.out j hkp)
          have hbs := ((HB.out j hkp).below hb2).more hb2.size
          have hbe := (HB.out j hkp).1
          have hsu := flat_take_succ ps j hkp
          have hle := flat_take_le ps (j + 1)
          rw [hsu, List.length_append, hbe] at hle
          obtain ⟨p, hp⟩ : ∃ p, ps[j] = p := ⟨_, rfl⟩
          rw [hp] at hce hle hsu hbs hbe
          obtain ⟨t, ht⟩ : ∃ t, flat (ps.take j) = t := ⟨_, rfl⟩
          rw [ht] at hle hsu ho2
          obtain ⟨pa, pl, pc, pss⟩ := p
          dsimp only at hce hle hsu hbs hbe
          have hmm := HM.out
          have k0 : (j : Int) < k := by omega
          have hnm : t.length + pl ≤ 100000 := by omega
          have HSU := Lib.hid hsu; clear hsu
          have HO2 := Lib.hid ho2; clear ho2
          have HB2 := Lib.hid hb2; clear hb2
          have HBS := Lib.hid hbs; clear hbs
          have HBE := Lib.hid hbe; clear hbe
          clear hp ht hle hmm
          go_wp2_with (at_builtin; refine wpList_append_bsl rfl (.tmp 31) (.tmp 32) rfl w.heap.size u6 t.length _ rfl HO2.out wr.heap.size pa pl pc pss rfl HBS.out hnm HB2.out.size ?_; intro v' W3 hown' hg')
          have hb3 : Below w.heap.size w W3 := HB2.out.grown hg' HB2.out.size (fun k e => (HO2.out.lt k e).1)
          have HO3 := Lib.hid hown'; clear hown'
          have HB3 := Lib.hid hb3; clear hb3 hg'
          go_wp2_with fail
          go_roundw
          case rel => exact ⟨j + 1, by omega, by go_num, by rw [HSU.out, List.length_append, HBE.out]; exact HO3.out, HB3.out⟩
          case measure => simp [intOf]; omega
        · obtain rfl : j = k := by omega
          have ht : ps.take j = ps := List.take_of_length_le (by rw [HN.out]; exact Nat.le_refl _)
          rw [ht] at ho2
          have HO2 := Lib.hid ho2
          have HB2 := Lib.hid hb2; clear hb2
          clear ho2 ht
          go_wp2_with fail
          go_ret
          exact ⟨_, rfl, HO2.out, HB2.out⟩
theorem concat_any (r c : Nat) (ps : List Part) (w : World) (hr : r < w.heap.size) (hl : ps.length ≤ 1000) (hc : ps.length ≤ c)
    (hcell : ∀ i (h : i < ps.length), w.cell? ⟨r, i, none⟩ = some (.slice (ps[i]).a (ps[i]).len (ps[i]).cap)) (hb : ∀ i (h : i < ps.length), Bsl w w.heap.size (ps[i]).a (ps[i]).len (ps[i]).cap (ps[i]).s)
    (h0 : 0 < (flat ps).length) (hm : (flat ps).length ≤ 100000) :
    Calls Tryz.prog 34 #[.slice (some ⟨r, 0, none⟩) ps.length c] w (NewPost (flat ps) w) := by
  refine (concat_own r c ps w hr hl hc hcell hb h0 hm).mono ?_
  rintro e w' ⟨v, rfl, ho, hb⟩
  obtain ⟨g, cap', rfl, hgb, hgl, hgc, hgm, hgs, hgh⟩ := bsl_of_own ho h0
  exact ⟨g, cap', rfl, hgb, hgl, hgc, hgm, hgh, hb⟩
end Go.Proofs.YtldnelimemjaiaaGreatDoor
/-
  label.blockOf, whatever label that may be it is handed, answers the label's block; nothing that was there is written.
-/
namespace Go.Proofs.YtldnelimemjaiaaGreatDoor
open Go.RowKit Go.Shelf
set_option maxRecDepth 100000

/-- A new list that holds a label's block. -/
def BlockPost (l : Lb) (w : World) (e : Ending) (w' : World) : Prop := ∃ g, e = .returned (.slice (some ⟨g, 0, none⟩) 256 256) ∧ w.heap.size ≤ g ∧ Bsl w' w'.heap.size (some ⟨g, 0, none⟩) 256 256 (blockL l) ∧ Below w.heap.size w w'
set_option maxHeartbeats 4000000 in
theorem lBlock_any (l : Lb) (hw : WfL l) (hm : MayL l) (w : World) (hz : Szs w) : Calls Tryz.prog 16 #[lbV l] w (BlockPost l w) := by
  have hmx : Tryz.prog.follows Departure.mixedOrders = true := by kernel_rfl
  obtain ⟨w0, hw0⟩ : ∃ w0, w.alloc (.cells (lbC l).toArray 30) = w0 := ⟨_, rfl⟩
  have hb0 : Below w.heap.size w w0 := by rw [← hw0]; exact (Below.refl _ w).alloc (Nat.le_refl _) _
  have hk : Blk w0 w.heap.size 30 (lbC l).toArray := by rw [← hw0]; exact Blk.new w _ _
  have hp := Write_any l.2.2 hw.2.2 w0 (hz.step hb0)
  rw [pwriteO, if_pos hm.2.2.2] at hp
  have hfl : flat [⟨none, 1, 1, [67]⟩, ⟨none, 4, 4, leB 4 l.1⟩, ⟨none, 4, 4, leB 4 l.2.1⟩, ⟨none, 16, 16, bytesP l.2.2⟩] = summedL l := by simp [flat, summedL]
  have hsl := summedL_length l
  have hbl : ovrL (ovrL (List.replicate 256 0) 0 (summedL l)) 25 (leB 4 (sumN (summedL l))) = blockL l := by
    have e1 : ovrL (List.replicate 256 0) 0 (summedL l) = summedL l ++ List.replicate 231 0 := by simp [ovrL, hsl]
    rw [e1, ovrL, leB_length, List.take_append_of_le_length (by omega), List.take_of_length_le (by omega), List.drop_append, List.drop_of_length_le (by omega), hsl]
    simp [blockL]
  have hwg := hw.1
  have hwe := hw.2.1
  obtain ⟨g, e, a, b, c, d, f⟩ := l
  obtain ⟨S, hS⟩ : ∃ S, summedL (g, e, a, b, c, d, f) = S := ⟨_, rfl⟩
  rw [hS] at hfl hsl hbl
  clear hS
  have c0 := hk.cell 0
  obtain ⟨c0, c1, c2, c3, c4, c5, c6⟩ := hk.seven
  simp only [lbC] at hw0
  have HF : Hid (∀ q0 q1 q2 q3 k3, flat [⟨q0, 1, 1, [67]⟩, ⟨q1, 4, 4, leB 4 g⟩, ⟨q2, 4, 4, leB 4 e⟩, ⟨q3, 16, k3, bytesP (a, b, c, d, f)⟩] = S) := Lib.hid fun _ _ _ _ _ => hfl
  have HSL := Lib.hid hsl
  have HBL := Lib.hid hbl
  have HP := Lib.hid hp
  have HB := Lib.hid hb0
  have HK := Lib.hid hk
  have HB1 := Lib.hid (lBytes_any g hwg)
  have HB2 := Lib.hid (lBytes_any e hwe)
  clear hp hb0 hk hfl hsl hbl hwg hwe hw hm hz
  go_enter Tryz.func16, Tryz.ntmps16
  go_wp2_with (go_at_call 33
               refine HP.out.mono ?_
               rintro ev w1 ⟨v1, rfl, o1, b1⟩
               rw [bytesP_length] at o1
               obtain ⟨A1, C1, rfl, s1⟩ := own_to o1
               have HS1 := Lib.hid s1
               have HB1w := Lib.hid (HB.out.trans (b1.mono HB.out.size))
               obtain ⟨c0, c1, c2, c3, c4, c5, c6⟩ := (HK.out.below b1 HK.out.lt).seven
               clear o1 s1 b1)
  go_cut [5] from 13 to 34 (fun v wx => ∃ Az Cz, v = .slice Az 25 Cz ∧ Bsl wx wx.heap.size Az 25 Cz S ∧ Below w.heap.size w wx)
  case first =>
    obtain ⟨wd, hwd⟩ : ∃ wd, w1.drew = wd := ⟨_, rfl⟩
    have HBd := Lib.hid (show Below w.heap.size w wd by rw [← hwd]; exact HB1w.out.drew)
    have bd : Below w1.heap.size w1 wd := by rw [← hwd]; exact (Below.refl _ _).drew
    have srd := HS1.out.step bd
    have d0 : wd.cell? ⟨w.heap.size, 0, none⟩ = some (.int .u32 (g : Int)) := (bd.cell (p := ⟨w.heap.size, 0, none⟩) (World.block_lt_of_cell? w1 _ c0)).trans c0
    have d1 : wd.cell? ⟨w.heap.size, 1, none⟩ = some (.int .u32 (e : Int)) := (bd.cell (p := ⟨w.heap.size, 1, none⟩) (World.block_lt_of_cell? w1 _ c1)).trans c1
    have C0 := fun X (hX : Below wd.heap.size wd X) => (hX.cell (p := ⟨w.heap.size, 0, none⟩) (World.block_lt_of_cell? wd _ d0)).trans d0
    have C1 := fun X (hX : Below wd.heap.size wd X) => (hX.cell (p := ⟨w.heap.size, 1, none⟩) (World.block_lt_of_cell? wd _ d1)).trans d1
    have hbwd : Below wd.heap.size wd wd := Below.refl _ _
    clear c0 c1 d0 d1 bd
    refine wpI_start (Below wd.heap.size wd) [1, 2, 4, 5, 7, 0, 3, 6, 8, 9, 10] hmx rfl hwd ?_
    clear hwd
    iterate 5 (
      refine wpI_read (v := ?_) hbwd rfl (by kernel_rfl) (by kernel_rfl) (by kernel_rfl) (fun _ _ _ h => h) (.inl ⟨by rfl, ?_⟩) ?_
      rotate_left
      · intro X hX
        have hXa := C0 X hX
        have hXb := C1 X hX
        clear hX
        go_simp
        with_reducible rfl
      try simp only [Act.put, List.setIfInBounds_toArray, List.set_cons_zero, List.set_cons_succ])
    clear C0 C1
    refine wpI_fork rfl rfl (by kernel_rfl) (fun K hK => ?_) (fun K hK => ?_)
    · go_simp
      have sn1 : Bsl (wd.alloc (.cells #[.int .u8 67] 5)) (wd.alloc (.cells #[.int .u8 67] 5)).heap.size (some ⟨wd.heap.size, 0, none⟩) 1 1 [67] := one_bsl wd 67
      have bn1 : Below wd.heap.size wd (wd.alloc (.cells #[.int .u8 67] 5)) := (Below.refl _ _).alloc (Nat.le_refl _) _
      obtain ⟨wx1, hx1⟩ : ∃ x, wd.alloc (.cells #[.int .u8 67] 5) = x := ⟨_, rfl⟩
      obtain ⟨p0_, hp0⟩ : ∃ p, wd.heap.size = p := ⟨_, rfl⟩
      rw [hx1] at sn1 bn1 ⊢
      rw [hp0] at sn1 ⊢
      clear hx1 hp0
      have srd_1 := srd.step bn1
      have hB1 := bn1
      refine hK _ _ hB1 ?_
      clear hK K
      try simp only [Act.put, List.setIfInBounds_toArray, List.set_cons_zero, List.set_cons_succ]
      refine wpI_lone rfl (by kernel_rfl) (fun K hK => ?_)
      go_simp
      refine (HB1.out wx1).mono ?_
      rintro ev wx2 ⟨p1_, rfl, zn2, sn2, bn2⟩
      clear zn2
      have srd_1_2 := srd_1.step bn2
      have sn1_2 := sn1.step bn2
      have hB2 := hB1.trans (bn2.mono hB1.size)
      refine hK _ _ hB2 ?_
      clear hK K
      try simp only [Act.put, List.setIfInBounds_toArray, List.set_cons_zero, List.set_cons_succ]
      refine wpI_lone rfl (by kernel_rfl) (fun K hK => ?_)
      go_simp
      refine (HB2.out wx2).mono ?_
      rintro ev wx3 ⟨p2_, rfl, zn3, sn3, bn3⟩
      clear zn3
      have srd_1_2_3 := srd_1_2.step bn3
      have sn1_2_3 := sn1_2.step bn3
      have sn2_3 := sn2.step bn3
      have hB3 := hB2.trans (bn3.mono hB2.size)
      refine hK _ _ hB3 ?_
      clear hK K
      try simp only [Act.put, List.setIfInBounds_toArray, List.set_cons_zero, List.set_cons_succ]
      refine wpI_lone rfl (by kernel_rfl) (fun K hK => ?_)
      go_simp
      have bq : Below wx3.heap.size wx3 (wx3.alloc (.cells #[.slice (some ⟨p0_, 0, none⟩) 1 1, .slice (some ⟨p1_, 0, none⟩) 4 4, .slice (some ⟨p2_, 0, none⟩) 4 4, .slice A1 16 C1] 45)) := (Below.refl _ _).alloc (Nat.le_refl _) _
      have xq := Blk.new wx3 45 #[.slice (some ⟨p0_, 0, none⟩) 1 1, .slice (some ⟨p1_, 0, none⟩) 4 4, .slice (some ⟨p2_, 0, none⟩) 4 4, .slice A1 16 C1]
      obtain ⟨wq, hq⟩ : ∃ x, wx3.alloc (.cells #[.slice (some ⟨p0_, 0, none⟩) 1 1, .slice (some ⟨p1_, 0, none⟩) 4 4, .slice (some ⟨p2_, 0, none⟩) 4 4, .slice A1 16 C1] 45) = x := ⟨_, rfl⟩
      obtain ⟨r, hr⟩ : ∃ p, wx3.heap.size = p := ⟨_, rfl⟩
      rw [hq] at bq xq ⊢
      have hbq := hB3.trans (bq.mono hB3.size)
      have hcc := concat_own r 4 [⟨some ⟨p0_, 0, none⟩, 1, 1, [67]⟩, ⟨some ⟨p1_, 0, none⟩, 4, 4, leB 4 g⟩, ⟨some ⟨p2_, 0, none⟩, 4, 4, leB 4 e⟩, ⟨A1, 16, C1, bytesP (a, b, c, d, f)⟩] wq (by rw [← hr]; exact xq.lt) (by simp) (by simp)
        (by intro i hi; rw [← hr]; match i, hi with | 0, _ => exact xq.cell 0 | 1, _ => exact xq.cell 1 | 2, _ => exact xq.cell 2 | 3, _ => exact xq.cell 3)
        (by intro i hi; match i, hi with | 0, _ => exact sn1_2_3.step bq | 1, _ => exact sn2_3.step bq | 2, _ => exact sn3.step bq | 3, _ => exact srd_1_2_3.step bq)
        (by simp [flat, leB_length, bytesP_length]) (by simp [flat, leB_length, bytesP_length])
      rw [HF.out] at hcc
      rw [hr]
      refine hK _ _ hbq ?_
      clear hK K hq hr xq bq
      try simp only [Act.put, List.setIfInBounds_toArray, List.set_cons_zero, List.set_cons_succ]
      refine wpI_lone rfl (by kernel_rfl) (fun K hK => ?_)
      go_simp
      refine hcc.mono ?_
      rintro ev wz ⟨v, rfl, oz, bz⟩
      rw [HSL.out] at oz
      obtain ⟨Az, Cz, rfl, sz⟩ := own_to oz
      have hbz := hbq.trans (bz.mono hbq.size)
      refine hK _ _ hbz ?_
      clear hK K hcc
      try simp only [Act.put, List.setIfInBounds_toArray, List.set_cons_zero, List.set_cons_succ]
      iterate 1 (
        refine wpI_read (v := ?_) hbz rfl (by kernel_rfl) (by kernel_rfl) (by kernel_rfl) (fun _ _ _ h => h) (.inl ⟨by rfl, ?_⟩) ?_
        rotate_left
        · intro X hX
          clear hX
          go_simp
          with_reducible rfl
        try simp only [Act.put, List.setIfInBounds_toArray, List.set_cons_zero, List.set_cons_succ])
      refine wpI_done (by kernel_rfl) ?_
      go_wp2_with fail
      go_meet
      exact ⟨Az, Cz, rfl, sz, HBd.out.trans (hbz.mono HBd.out.size)⟩
    · go_simp
      refine (HB1.out wd).mono ?_
      rintro ev wx4 ⟨p1_, rfl, zn4, sn4, bn4⟩
      clear zn4
      have srd_4 := srd.step bn4
      have hB4 := bn4
      refine hK _ _ hB4 ?_
      clear hK K
      try simp only [Act.put, List.setIfInBounds_toArray, List.set_cons_zero, List.set_cons_succ]
      refine wpI_fork rfl rfl (by kernel_rfl) (fun K hK => ?_) (fun K hK => ?_)
      · go_simp
        have sn5 : Bsl (wx4.alloc (.cells #[.int .u8 67] 5)) (wx4.alloc (.cells #[.int .u8 67] 5)).heap.size (some ⟨wx4.heap.size, 0, none⟩) 1 1 [67] := one_bsl wx4 67
        have bn5 : Below wx4.heap.size wx4 (wx4.alloc (.cells #[.int .u8 67] 5)) := (Below.refl _ _).alloc (Nat.le_refl _) _
        obtain ⟨wx5, hx5⟩ : ∃ x, wx4.alloc (.cells #[.int .u8 67] 5) = x := ⟨_, rfl⟩
        obtain ⟨p0_, hp0⟩ : ∃ p, wx4.heap.size = p := ⟨_, rfl⟩
        rw [hx5] at sn5 bn5 ⊢
        rw [hp0] at sn5 ⊢
        clear hx5 hp0
        have srd_4_5 := srd_4.step bn5
        have sn4_5 := sn4.step bn5
        have hB5 := hB4.trans (bn5.mono hB4.size)
        refine hK _ _ hB5 ?_
        clear hK K
        try simp only [Act.put, List.setIfInBounds_toArray, List.set_cons_zero, List.set_cons_succ]
        refine wpI_lone rfl (by kernel_rfl) (fun K hK => ?_)
        go_simp
        refine (HB2.out wx5).mono ?_
        rintro ev wx6 ⟨p2_, rfl, zn6, sn6, bn6⟩
        clear zn6
        have srd_4_5_6 := srd_4_5.step bn6
        have sn4_5_6 := sn4_5.step bn6
        have sn5_6 := sn5.step bn6
        have hB6 := hB5.trans (bn6.mono hB5.size)
        refine hK _ _ hB6 ?_
        clear hK K
        try simp only [Act.put, List.setIfInBounds_toArray, List.set_cons_zero, List.set_cons_succ]
        refine wpI_lone rfl (by kernel_rfl) (fun K hK => ?_)
        go_simp
        have bq : Below wx6.heap.size wx6 (wx6.alloc (.cells #[.slice (some ⟨p0_, 0, none⟩) 1 1, .slice (some ⟨p1_, 0, none⟩) 4 4, .slice (some ⟨p2_, 0, none⟩) 4 4, .slice A1 16 C1] 45)) := (Below.refl _ _).alloc (Nat.le_refl _) _
        have xq := Blk.new wx6 45 #[.slice (some ⟨p0_, 0, none⟩) 1 1, .slice (some ⟨p1_, 0, none⟩) 4 4, .slice (some ⟨p2_, 0, none⟩) 4 4, .slice A1 16 C1]
        obtain ⟨wq, hq⟩ : ∃ x, wx6.alloc (.cells #[.slice (some ⟨p0_, 0, none⟩) 1 1, .slice (some ⟨p1_, 0, none⟩) 4 4, .slice (some ⟨p2_, 0, none⟩) 4 4, .slice A1 16 C1] 45) = x := ⟨_, rfl⟩
        obtain ⟨r, hr⟩ : ∃ p, wx6.heap.size = p := ⟨_, rfl⟩
        rw [hq] at bq xq ⊢
        have hbq := hB6.trans (bq.mono hB6.size)
        have hcc := concat_own r 4 [⟨some ⟨p0_, 0, none⟩, 1, 1, [67]⟩, ⟨some ⟨p1_, 0, none⟩, 4, 4, leB 4 g⟩, ⟨some ⟨p2_, 0, none⟩, 4, 4, leB 4 e⟩, ⟨A1, 16, C1, bytesP (a, b, c, d, f)⟩] wq (by rw [← hr]; exact xq.lt) (by simp) (by simp)
          (by intro i hi; rw [← hr]; match i, hi with | 0, _ => exact xq.cell 0 | 1, _ => exact xq.cell 1 | 2, _ => exact xq.cell 2 | 3, _ => exact xq.cell 3)
          (by intro i hi; match i, hi with | 0, _ => exact sn5_6.step bq | 1, _ => exact sn4_5_6.step bq | 2, _ => exact sn6.step bq | 3, _ => exact srd_4_5_6.step bq)
          (by simp [flat, leB_length, bytesP_length]) (by simp [flat, leB_length, bytesP_length])
        rw [HF.out] at hcc
        rw [hr]
        refine hK _ _ hbq ?_
        clear hK K hq hr xq bq
        try simp only [Act.put, List.setIfInBounds_toArray, List.set_cons_zero, List.set_cons_succ]
        refine wpI_lone rfl (by kernel_rfl) (fun K hK => ?_)
        go_simp
        refine hcc.mono ?_
        rintro ev wz ⟨v, rfl, oz, bz⟩
        rw [HSL.out] at oz
        obtain ⟨Az, Cz, rfl, sz⟩ := own_to oz
        have hbz := hbq.trans (bz.mono hbq.size)
        refine hK _ _ hbz ?_
        clear hK K hcc
        try simp only [Act.put, List.setIfInBounds_toArray, List.set_cons_zero, List.set_cons_succ]
        iterate 1 (
          refine wpI_read (v := ?_) hbz rfl (by kernel_rfl) (by kernel_rfl) (by kernel_rfl) (fun _ _ _ h => h) (.inl ⟨by rfl, ?_⟩) ?_
          rotate_left
          · intro X hX
            clear hX
            go_simp
            with_reducible rfl
          try simp only [Act.put, List.setIfInBounds_toArray, List.set_cons_zero, List.set_cons_succ])
        refine wpI_done (by kernel_rfl) ?_
        go_wp2_with fail
        go_meet
        exact ⟨Az, Cz, rfl, sz, HBd.out.trans (hbz.mono HBd.out.size)⟩
      · go_simp
        refine (HB2.out wx4).mono ?_
        rintro ev wx7 ⟨p2_, rfl, zn7, sn7, bn7⟩
        clear zn7
        have srd_4_7 := srd_4.step bn7
        have sn4_7 := sn4.step bn7
        have hB7 := hB4.trans (bn7.mono hB4.size)
        refine hK _ _ hB7 ?_
        clear hK K
        try simp only [Act.put, List.setIfInBounds_toArray, List.set_cons_zero, List.set_cons_succ]
        refine wpI_lone rfl (by kernel_rfl) (fun K hK => ?_)
        go_simp
        have sn8 : Bsl (wx7.alloc (.cells #[.int .u8 67] 5)) (wx7.alloc (.cells #[.int .u8 67] 5)).heap.size (some ⟨wx7.heap.size, 0, none⟩) 1 1 [67] := one_bsl wx7 67
        have bn8 : Below wx7.heap.size wx7 (wx7.alloc (.cells #[.int .u8 67] 5)) := (Below.refl _ _).alloc (Nat.le_refl _) _
        obtain ⟨wx8, hx8⟩ : ∃ x, wx7.alloc (.cells #[.int .u8 67] 5) = x := ⟨_, rfl⟩
        obtain ⟨p0_, hp0⟩ : ∃ p, wx7.heap.size = p := ⟨_, rfl⟩
        rw [hx8] at sn8 bn8 ⊢
        rw [hp0] at sn8 ⊢
        clear hx8 hp0
        have srd_4_7_8 := srd_4_7.step bn8
        have sn4_7_8 := sn4_7.step bn8
        have sn7_8 := sn7.step bn8
        have hB8 := hB7.trans (bn8.mono hB7.size)
        refine hK _ _ hB8 ?_
        clear hK K
        try simp only [Act.put, List.setIfInBounds_toArray, List.set_cons_zero, List.set_cons_succ]
        refine wpI_lone rfl (by kernel_rfl) (fun K hK => ?_)
        go_simp
        have bq : Below wx8.heap.size wx8 (wx8.alloc (.cells #[.slice (some ⟨p0_, 0, none⟩) 1 1, .slice (some ⟨p1_, 0, none⟩) 4 4, .slice (some ⟨p2_, 0, none⟩) 4 4, .slice A1 16 C1] 45)) := (Below.refl _ _).alloc (Nat.le_refl _) _
        have xq := Blk.new wx8 45 #[.slice (some ⟨p0_, 0, none⟩) 1 1, .slice (some ⟨p1_, 0, none⟩) 4 4, .slice (some ⟨p2_, 0, none⟩) 4 4, .slice A1 16 C1]
        obtain ⟨wq, hq⟩ : ∃ x, wx8.alloc (.cells #[.slice (some ⟨p0_, 0, none⟩) 1 1, .slice (some ⟨p1_, 0, none⟩) 4 4, .slice (some ⟨p2_, 0, none⟩) 4 4, .slice A1 16 C1] 45) = x := ⟨_, rfl⟩
        obtain ⟨r, hr⟩ : ∃ p, wx8.heap.size = p := ⟨_, rfl⟩
        rw [hq] at bq xq ⊢
        have hbq := hB8.trans (bq.mono hB8.size)
        have hcc := concat_own r 4 [⟨some ⟨p0_, 0, none⟩, 1, 1, [67]⟩, ⟨some ⟨p1_, 0, none⟩, 4, 4, leB 4 g⟩, ⟨some ⟨p2_, 0, none⟩, 4, 4, leB 4 e⟩, ⟨A1, 16, C1, bytesP (a, b, c, d, f)⟩] wq (by rw [← hr]; exact xq.lt) (by simp) (by simp)
          (by intro i hi; rw [← hr]; match i, hi with | 0, _ => exact xq.cell 0 | 1, _ => exact xq.cell 1 | 2, _ => exact xq.cell 2 | 3, _ => exact xq.cell 3)
          (by intro i hi; match i, hi with | 0, _ => exact sn8.step bq | 1, _ => exact sn4_7_8.step bq | 2, _ => exact sn7_8.step bq | 3, _ => exact srd_4_7_8.step bq)
          (by simp [flat, leB_length, bytesP_length]) (by simp [flat, leB_length, bytesP_length])
        rw [HF.out] at hcc
        rw [hr]
        refine hK _ _ hbq ?_
        clear hK K hq hr xq bq
        try simp only [Act.put, List.setIfInBounds_toArray, List.set_cons_zero, List.set_cons_succ]
        refine wpI_lone rfl (by kernel_rfl) (fun K hK => ?_)
        go_simp
        refine hcc.mono ?_
        rintro ev wz ⟨v, rfl, oz, bz⟩
        rw [HSL.out] at oz
        obtain ⟨Az, Cz, rfl, sz⟩ := own_to oz
        have hbz := hbq.trans (bz.mono hbq.size)
        refine hK _ _ hbz ?_
        clear hK K hcc
        try simp only [Act.put, List.setIfInBounds_toArray, List.set_cons_zero, List.set_cons_succ]
        iterate 1 (
          refine wpI_read (v := ?_) hbz rfl (by kernel_rfl) (by kernel_rfl) (by kernel_rfl) (fun _ _ _ h => h) (.inl ⟨by rfl, ?_⟩) ?_
          rotate_left
          · intro X hX
            clear hX
            go_simp
            with_reducible rfl
          try simp only [Act.put, List.setIfInBounds_toArray, List.set_cons_zero, List.set_cons_succ])
        refine wpI_done (by kernel_rfl) ?_
        go_wp2_with fail
        go_meet
        exact ⟨Az, Cz, rfl, sz, HBd.out.trans (hbz.mono HBd.out.size)⟩
  case rest =>
    obtain ⟨Az, Cz, rfl, sz, bz⟩ := hcut
    obtain ⟨z, hz⟩ : ∃ z : List UInt8, List.replicate 256 0 = z := ⟨_, rfl⟩
    have hmk : ∀ W : World, (Instr.makeSlice 45 (.int .i64 256) (.int .i64 256)).run Tryz.prog W = .ok (.slice (some ⟨W.heap.size, 0, none⟩) 256 256) (W.alloc (.cells (ar z) 5)) := by rw [← hz]; exact mkBytes 256 (by omega)
    have hzl : z.length = 256 := by rw [← hz]; exact List.length_replicate ..
    rw [hz] at HBL
    have HZ256 := Lib.hid hzl
    have HZO : Hid ((ovrL z 0 S).length = 256) := Lib.hid (by rw [ovrL_length (by have := HSL.out; omega)]; exact hzl)
    clear hz hzl HB1 HB2 HF HP
    obtain ⟨G, hG⟩ : ∃ G, wc.heap.size = G := ⟨_, rfl⟩
    have hsl : ∀ W : World, (Instr.slice 45 (.slice (some ⟨G, 0, none⟩) 256 256) (some (.int .i64 25)) none none).run Tryz.prog W = .ok (.slice (some ⟨G, 25, none⟩) 231 231) W := fun W => slice_from_l W G 0 256 256 25 (by omega) (by omega)
    go_wp2_with fail
    obtain ⟨wm, hwm⟩ : ∃ wm, (wc.alloc (.cells (ar z) 5)).drew = wm := ⟨_, rfl⟩
    have HBm := Lib.hid (show Below w.heap.size w wm by rw [← hwm]; exact (bz.alloc bz.size _).drew)
    have HGL := Lib.hid (show w.heap.size ≤ G by rw [← hG]; exact bz.size)
    have xwm : Blk wm G 5 (ar z) := by rw [← hwm, ← hG]; exact (Blk.new wc _ _).drew
    have HGM := Lib.hid xwm.lt
    have bm : Below G wc wm := by rw [← hwm, ← hG]; exact ((Below.refl _ _).alloc (Nat.le_refl _) _).drew
    have swm : Bsl wm G Az 25 Cz S := by rw [hG] at sz; exact sz.below bm
    have HSM := Lib.hid swm
    have bwm : Below G wm wm := Below.refl _ _
    clear bm bz sz hmk
    refine wpI_start (Below G wm) [0, 1, 2, 5, 3, 4, 6, 7, 8] hmx rfl hwm ?_
    clear hwm hG
    iterate 4 (
      refine wpI_read (v := ?_) bwm rfl (by kernel_rfl) (by kernel_rfl) (by kernel_rfl) (fun _ _ _ h => h) (.inl ⟨by rfl, ?_⟩) ?_
      rotate_left
      · intro X hX
        clear hX
        go_simp
        with_reducible rfl
      try simp only [Act.put, List.setIfInBounds_toArray, List.set_cons_zero, List.set_cons_succ])
    refine wpI_lone rfl (by kernel_rfl) (fun K hK => ?_)
    refine wpI_copy_part rfl (.tmp 25) (.tmp 26) rfl G 0 256 25 256 rfl z xwm G Az Cz S rfl swm (by omega) (by omega) (by have := HZ256.out; omega) ?_
    intro wy101 xn101 gn101 zn101
    have bn101 : Below G wm wy101 := below_only bwm (Nat.le_refl G) gn101 (by have := bwm.size; have := HGM.out; omega)
    have sn101 : Bsl wy101 G Az 25 Cz S := HSM.out.below bn101
    refine hK _ _ bn101 ?_
    clear hK K
    try simp only [Act.put, List.setIfInBounds_toArray, List.set_cons_zero, List.set_cons_succ]
    iterate 1 (
      refine wpI_read (v := ?_) bn101 rfl (by kernel_rfl) (by kernel_rfl) (by kernel_rfl) (fun _ _ _ h => h) (.inl ⟨by rfl, ?_⟩) ?_
      rotate_left
      · intro X hX
        clear hX
        go_simp
        with_reducible rfl
      try simp only [Act.put, List.setIfInBounds_toArray, List.set_cons_zero, List.set_cons_succ])
    refine wpI_lone rfl (by kernel_rfl) (fun K hK => ?_)
    go_simp
    refine (sum_any Az 25 Cz S wy101 (sn101.more (by have := bn101.size; have := HGM.out; omega)) (by omega)).mono ?_
    rintro ev wy102 ⟨rfl, bb102⟩
    have bn102 : Below G wm wy102 := bn101.trans (bb102.mono (by have := bn101.size; have := HGM.out; omega))
    have sn102 : Bsl wy102 G Az 25 Cz S := HSM.out.below bn102
    have xn102 := xn101.below bb102 xn101.lt
    refine hK _ _ bn102 ?_
    clear hK K
    try simp only [Act.put, List.setIfInBounds_toArray, List.set_cons_zero, List.set_cons_succ]
    refine wpI_lone rfl (by kernel_rfl) (fun K hK => ?_)
    go_simp
    refine (lBytes_any (sumN S) (sumN_lt S) wy102).mono ?_
    rintro ev wy103 ⟨gs, rfl, zs, nn103, bb103⟩
    have hgs : G < gs := by have := bn102.size; have := HGM.out; omega
    have bn103 : Below G wm wy103 := bn102.trans (bb103.mono (by have := bn102.size; have := HGM.out; omega))
    have sn103 : Bsl wy103 G Az 25 Cz S := HSM.out.below bn103
    have xn103 := xn102.below bb103 xn102.lt
    refine hK _ _ bn103 ?_
    clear hK K
    try simp only [Act.put, List.setIfInBounds_toArray, List.set_cons_zero, List.set_cons_succ]
    refine wpI_lone rfl (by kernel_rfl) (fun K hK => ?_)
    refine wpI_copy_part rfl (.tmp 28) (.tmp 31) rfl G 25 231 4 231 rfl (ovrL z 0 S) xn103 wy103.heap.size (some ⟨gs, 0, none⟩) 4 (leB 4 (sumN S)) rfl nn103 (by omega) (by omega) (by have := HZO.out; omega) ?_
    intro wy104 xn104 gn104 zn104
    have bn104 : Below G wm wy104 := below_only bn103 (Nat.le_refl G) gn104 (by have := bn103.size; have := HGM.out; omega)
    have sn104 : Bsl wy104 G Az 25 Cz S := HSM.out.below bn104
    have nn104 := nn103.beside gn104 (by omega)
    refine hK _ _ bn104 ?_
    clear hK K
    try simp only [Act.put, List.setIfInBounds_toArray, List.set_cons_zero, List.set_cons_succ]
    refine wpI_done (by kernel_rfl) ?_
    have hfin := xn104
    rw [HBL.out] at hfin
    have hfb := bn104
    clear xn104 bn104
    go_wp2_with fail
    go_ret
    exact ⟨G, rfl, HGL.out, hfin.bsl (blockL_length _) (by omega), HBm.out.trans (hfb.mono HGL.out)⟩
end Go.Proofs.YtldnelimemjaiaaGreatDoor
/-
  The document's own May, Check, Number and Get of pointers; nothing that was there is written.
-/
namespace Go.Proofs.YtldnelimemjaiaaGreatDoor
open Go.RowKit Go.Shelf
set_option maxRecDepth 100000

theorem rpNone_any (p : Pt) (w : World) : Calls Tryz.prog 39 #[ptV p] w fun e w' => e = .returned (.bool (eqP p p0)) ∧ Below w.heap.size w w' := by
  obtain ⟨a, b, c, d, e⟩ := p
  have heq := eqPt_zero a b c d e
  go_enter Tryz.func39, Tryz.ntmps39
  go_wp2_with fail
  go_ret
  exact ⟨rfl, (Below.refl _ w).alloc (Nat.le_refl _) _⟩
theorem rpMay_any (p : Pt) (w : World) : Calls Tryz.prog 38 #[ptV p] w fun e w' => e = .returned (.bool (decide (MayP p))) ∧ Below w.heap.size w w' := by
  have hn := rpNone_any p (w.alloc (.cells (ptC p).toArray 28))
  have HB := Lib.hid ((Below.refl _ w).alloc (Nat.le_refl _) (.cells (ptC p).toArray 28))
  have HK := Lib.hid (show Blk (w.alloc (.cells (ptC p).toArray 28)) w.heap.size 28 (ptC p).toArray from Blk.new w _ _)
  obtain ⟨a, b, c, d, e⟩ := p
  by_cases h0 : eqP (a, b, c, d, e) p0 = true
  · have hm : decide (MayP (a, b, c, d, e)) = true := decide_eq_true (.inl ((eqP_iff _ _).1 h0))
    rw [hm]
    rw [h0] at hn
    have HN := Lib.hid hn
    clear hn hm h0
    go_enter Tryz.func38, Tryz.ntmps38
    go_wp2_with (go_at_call 39; refine HN.out.mono ?_; rintro ev w1 ⟨rfl, b1⟩; have HB1 := Lib.hid (HB.out.trans (b1.mono (by simp [ptC]))); clear b1)
    go_ret
    exact ⟨rfl, HB1.out⟩
  · have h0' : eqP (a, b, c, d, e) p0 = false := by simpa using h0
    rw [h0'] at hn
    have hne : (a, b, c, d, e) ≠ p0 := fun hh => h0 ((eqP_iff _ _).2 hh)
    have HN := Lib.hid hn
    clear hn
    by_cases g1 : 12 ≤ a
    · by_cases g2 : a < 256
      · by_cases g3 : 1 ≤ b
        · have hm : decide (MayP (a, b, c, d, e)) = decide (b ≤ 16777215) := by
            rw [decide_eq_decide]
            exact ⟨fun hh => (hh.resolve_left hne).2.2, fun hh => .inr ⟨⟨g1, g2⟩, g3, hh⟩⟩
          have hm2 : decide (b ≤ 16777215) = decide ((b : Int) ≤ 16777215) := by rw [decide_eq_decide]; omega
          rw [hm, hm2]
          have i1 : (1 : Int) ≤ (b : Int) := by omega
          clear hm hm2 h0 h0' hne
          go_enter Tryz.func38, Tryz.ntmps38
          go_wp2_with (go_at_call 39; refine HN.out.mono ?_; rintro ev w1 ⟨rfl, b1⟩; have HB1 := Lib.hid (HB.out.trans (b1.mono (by simp [ptC]))); obtain ⟨c0, c1, c2, c3, c4⟩ := (HK.out.below b1 HK.out.lt).five; clear b1)
          go_ret
          exact ⟨rfl, HB1.out⟩
        · have hm : decide (MayP (a, b, c, d, e)) = false := decide_eq_false fun hh => g3 (hh.resolve_left hne).2.1
          rw [hm]
          have i1 : ¬ (1 : Int) ≤ (b : Int) := by omega
          clear hm h0 h0' hne
          go_enter Tryz.func38, Tryz.ntmps38
          go_wp2_with (go_at_call 39; refine HN.out.mono ?_; rintro ev w1 ⟨rfl, b1⟩; have HB1 := Lib.hid (HB.out.trans (b1.mono (by simp [ptC]))); obtain ⟨c0, c1, c2, c3, c4⟩ := (HK.out.below b1 HK.out.lt).five; clear b1)
          go_ret
          exact ⟨rfl, HB1.out⟩
      · have hm : decide (MayP (a, b, c, d, e)) = false := decide_eq_false fun hh => g2 (hh.resolve_left hne).1.2
        rw [hm]
        clear hm h0 h0' hne
        go_enter Tryz.func38, Tryz.ntmps38
        go_wp2_with (go_at_call 39; refine HN.out.mono ?_; rintro ev w1 ⟨rfl, b1⟩; have HB1 := Lib.hid (HB.out.trans (b1.mono (by simp [ptC]))); obtain ⟨c0, c1, c2, c3, c4⟩ := (HK.out.below b1 HK.out.lt).five; clear b1)
        go_ret
        exact ⟨rfl, HB1.out⟩
    · have hm : decide (MayP (a, b, c, d, e)) = false := decide_eq_false fun hh => g1 (hh.resolve_left hne).1.1
      rw [hm]
      clear hm h0 h0' hne
      go_enter Tryz.func38, Tryz.ntmps38
      go_wp2_with (go_at_call 39; refine HN.out.mono ?_; rintro ev w1 ⟨rfl, b1⟩; have HB1 := Lib.hid (HB.out.trans (b1.mono (by simp [ptC]))); obtain ⟨c0, c1, c2, c3, c4⟩ := (HK.out.below b1 HK.out.lt).five; clear b1)
      go_ret
      exact ⟨rfl, HB1.out⟩
set_option maxHeartbeats 1000000 in
theorem rpNumber_any (n k : Nat) (hn : n < 4294967296) (hk : k ≤ 4) (w : World) : Calls Tryz.prog 66 #[.int .u32 n, .int .i64 k] w (OwnV k (leB k n) w) := by
  have k0 : (0 : Int) ≤ k := by omega
  have k4 : (k : Int) ≤ 4 := by omega
  go_enter Tryz.func66, Tryz.ntmps66
  go_wp2_with fail
  go_loopw [0, 5, 6] (fun x v i wr => ∃ j : Nat, j ≤ k ∧ i = .int .i64 j ∧ x = .int .u32 ((n / 256 ^ j : Nat) : Int) ∧ wr.ownsRow w.heap.size 5 1 v j (vals (leB j n)) ∧ Below w.heap.size w wr) (fun _ _ i _ => k - (intOf i).toNat)
  case atStart => exact ⟨0, Nat.zero_le _, rfl, by simp, own_nil _ _, Below.refl _ _⟩
  case round =>
    obtain ⟨j, hj, rfl, rfl, ho, hb⟩ := hrel
    have HO := Lib.hid ho; clear ho
    have HB := Lib.hid hb; clear hb
    have j0 : (0 : Int) ≤ j := by omega
    by_cases hlt : j < k
    · have j1 : (j : Int) < k := by omega
      obtain ⟨y, hy⟩ : ∃ y, n / 256 ^ j = y := ⟨_, rfl⟩
      have hy1 : y ≤ n := by rw [← hy]; exact Nat.div_le_self _ _
      have hbt : (byteAt n j).toNat = y % 256 := by rw [byteAt_toNat, hy]
      have hnx : n / 256 ^ (j + 1) = y / 256 := by rw [Nat.pow_succ, ← Nat.div_div_eq_div_mul, hy]
      rw [hy]
      have y0 : (0 : Int) ≤ y := by omega
      have y1 : (y : Int) ≤ 4294967295 := by omega
      have m0 : (0 : Int) ≤ (y : Int) % 256 := by omega
      have m1 : (y : Int) % 256 ≤ 255 := by omega
      have hd0 : (0 : Int) ≤ (y : Int) / 256 := by omega
      have hd1 : (y : Int) / 256 ≤ 4294967295 := by omega
      have t1 : Int.tmod (y : Int) 256 = (y : Int) % 256 := Int.tmod_eq_emod_of_nonneg y0
      have t2 : Int.tdiv (y : Int) 256 = (y : Int) / 256 := Int.tdiv_eq_ediv_of_nonneg y0
      have eb : (((byteAt n j).toNat : Nat) : Int) = (y : Int) % 256 := by rw [hbt]; simp
      have o1 := one_bsl wr (byteAt n j)
      rw [eb] at o1
      have HE1 := Lib.hid o1; clear o1
      have HOA := Lib.hid (HO.out.alloc (.cells #[.int .u8 ((y : Int) % 256)] 5))
      have HBA := Lib.hid (HB.out.alloc HB.out.size (.cells #[.int .u8 ((y : Int) % 256)] 5))
      have HNX := Lib.hid hnx
      obtain ⟨v, hv⟩ : ∃ v : Value, u5 = v := ⟨_, rfl⟩
      rw [hv] at HO HOA ⊢
      clear hv hbt hnx hy eb
      go_wp2_with (at_builtin
                   refine wpList_append_bsl rfl (.tmp 12) (.tmp 16) rfl w.heap.size v j _ rfl HOA.out _ (some ⟨wr.heap.size, 0, none⟩) 1 1 [byteAt n j] rfl HE1.out (by omega) HBA.out.size ?_
                   intro v2 w2 h2 hgr2
                   have HO2 := Lib.hid h2
                   have HB2 := Lib.hid (app_below HBA.out HOA.out hgr2 HBA.out.size)
                   clear h2 hgr2)
      go_roundw
      case rel =>
        refine ⟨j + 1, by omega, by go_num, ?_, ?_, HB2.out⟩
        · rw [HNX.out]
          first | rfl | go_num
        · rw [leB_take]
          exact HO2.out
      case measure => simp [intOf]; omega
    · obtain rfl : j = k := by omega
      go_wp2_with fail
      go_ret
      exact ⟨_, rfl, HO.out, HB.out⟩
theorem leN_drop_cons (s : List UInt8) (i : Nat) (hi : i < s.length) : leN (s.drop i) = s[i].toNat + 256 * leN (s.drop (i + 1)) := by
  rw [List.drop_eq_getElem_cons hi, leN]
set_option maxHeartbeats 1000000 in
theorem rpGet_any (a : Option Addr) (len cap : Nat) (s : List UInt8) (w : World) (hB : Bsl w w.heap.size a len cap s) (h4 : len ≤ 4) : Calls Tryz.prog 82 #[.slice a len cap] w fun e w' => e = .returned (.int .u32 (leN s : Nat)) ∧ w = w' := by
  have i0 : (0 : Int) ≤ (len : Int) := by omega
  have i1 : (len : Int) ≤ 4 := by omega
  have HB := Lib.hid hB; clear hB
  go_enter Tryz.func82, Tryz.ntmps82
  go_wp2_with fail
  go_loopw [3, 4] (fun n i wr => ∃ j : Nat, j ≤ len ∧ i = .int .i64 ((j : Int) - 1) ∧ n = .int .u32 ((leN (s.drop j) : Nat) : Int) ∧ wr = w) (fun _ i _ => (intOf i + 1).toNat)
  case atStart => exact ⟨len, Nat.le_refl _, rfl, by rw [List.drop_eq_nil_of_le (by have := HB.out.1; omega)]; rfl, rfl⟩
  case round =>
    obtain ⟨j, hj, rfl, rfl, rfl⟩ := hrel
    rcases Nat.eq_zero_or_pos j with h0 | h0
    · subst h0
      have e0 : (((0 : Nat) : Int) - 1) = -1 := by omega
      rw [e0, List.drop_zero]
      go_wp2_with fail
      go_ret
      exact ⟨rfl, rfl⟩
    · obtain ⟨i, rfl⟩ : ∃ i, j = i + 1 := ⟨j - 1, by omega⟩
      have hil : i < s.length := by have := HB.out.1; omega
      obtain ⟨b, off, rfl, _, hc⟩ := HB.out.2.2.2.2 (by omega)
      have c0 := hc i hil
      have hstep := leN_drop_cons s i hil
      have hlt := leN_lt (s.drop (i + 1))
      have hl3 : (s.drop (i + 1)).length ≤ 3 := by have := HB.out.1; simp; omega
      have hp : 256 ^ (s.drop (i + 1)).length ≤ 256 ^ 3 := Nat.pow_le_pow_right (by omega) hl3
      obtain ⟨x, hx⟩ : ∃ x : Nat, s[i].toNat = x := ⟨_, rfl⟩
      have hx1 : x ≤ 255 := by rw [← hx]; have := (s[i]).toNat_lt; omega
      obtain ⟨n, hn⟩ : ∃ n, leN (s.drop (i + 1)) = n := ⟨_, rfl⟩
      rw [hn] at hstep hlt ⊢
      rw [hx] at c0 hstep
      have e1 : (((i + 1 : Nat) : Int) - 1) = (i : Int) := by omega
      rw [e1]
      have q0 : (0 : Int) ≤ i := by omega
      have q1 : (i : Int) < len := by omega
      have q2 : (0 : Int) ≤ n := by omega
      have q3 : (n : Int) ≤ 16777215 := by omega
      have q4 : (0 : Int) ≤ x := by omega
      have q5 : (x : Int) ≤ 255 := by omega
      have HST := Lib.hid hstep
      clear hstep hlt hp hn hx e1 hl3 hc
      go_wp2_with fail
      go_roundw
      case rel =>
        refine ⟨i, by omega, by first | rfl | go_num, ?_, by first | rfl | trivial⟩
        rw [HST.out]
        congr 1
        omega
      case measure => simp [intOf]
end Go.Proofs.YtldnelimemjaiaaGreatDoor
/-
  append of bytes to a row of one's own, at any place of a walk; in a region that draws its order.
-/
namespace Go.Proofs.YtldnelimemjaiaaGreatDoor
open Go.RowKit Go.Shelf
set_option maxRecDepth 100000

/-- append(v, nil...), whatever capacity nil is written with. -/
theorem run_app_none {P : Program} {w : World} (base : Nat) (t ty e : TypeId) (i : TypeInfo) (size c : Nat) (ht : P.underlying t = some (.slice e)) (hi : P.info? e = some i)
    (v : Value) (n : Nat) (xs : List Value) (hown : w.ownsRow base e size v n xs) : (Builtin.append_ #[t, t] ty #[v, .slice none 0 c]).run P w = .ok v w := by
  rcases hown.2 with ⟨rfl, rfl⟩ | ⟨g, cap, cur, rfl, _, _, hnc, _⟩
  · simp [Builtin.append_, run_underlying ht, sizeOf, typeInfo, hi, Builtin.lenOf, Builtin.firstCells]
  · simp [Builtin.append_, run_underlying ht, sizeOf, typeInfo, hi, Builtin.lenOf, Builtin.firstCells, hnc, storeCells]
section
variable {w : World} {o : Oper} {a : Act} {K : Act → World → Prop} {Q : Exit → Act → World → Prop}
theorem wp_app_own (s x : Operand)
    (ho : o.op = .call { callee := .builtin .append, args := #[s, x], argTypes := #[45, 45] })
    (base : Nat) (v : Value) (n : Nat) (xs : List UInt8) (hs : a.eval s = v) (hown : w.ownsRow base 5 1 v n (vals xs))
    (B : Nat) (A : Option Addr) (m c : Nat) (news : List UInt8) (hx : a.eval x = .slice A m c) (hr : Bsl w B A m c news)
    (hnm : n + m ≤ 100000000000000) (hbase : base ≤ w.heap.size)
    (h : ∀ v' w', w'.ownsRow base 5 1 v' (n + m) (vals (xs ++ news)) → w.grownBy w' v.ownBlock → K (a.put o.dst v') w') : o.wp Tryz.prog a w K Q := by
  obtain ⟨i0, hi, hz0, hz1, hz2⟩ := info_parts infoU8
  obtain ⟨h1, h2, h3, h4, h5⟩ := hr
  cases A with
  | none =>
    have hc := h4 rfl
    have hm : m = 0 := by omega
    subst hm; subst hc
    obtain rfl : news = [] := List.eq_nil_of_length_eq_zero h1
    have hrun := run_app_none (P := Tryz.prog) (w := w) base 45 o.type 5 i0 1 0 Tryz.underlying45 hi v n (vals xs) hown
    unfold Oper.wp
    simp [execOp, ho, resolve, invoke, builtin, hs, hx, hrun, Result.andThen]
    exact h v w (by simpa using hown) (World.grownBy.refl w _)
  | some ad =>
    refine wp_append_own w s x 45 ho base 5 i0 (.int .u8 0) 1 1 Tryz.underlying45 hi hz0 hz1 hz2 rfl (by decide) v n (vals xs) hs hown ad m c (vals news) hx (by simp [vals, h1]) (fun j u hu => ?_) (fun u hu => ?_) (by unfold maxLen; omega) (by omega) hbase ?_
    · obtain ⟨hj, rfl⟩ := vals_get hu
      obtain ⟨b, off, e, _, hc⟩ := h5 (by omega)
      cases e
      rw [← hc j hj]
      congr 1
      unfold Addr.add
      split <;> simp_all
    · obtain ⟨y, _, rfl⟩ := List.mem_map.1 hu
      rfl
    · intro v' w' h2 h3 _
      exact h v' w' (by rw [← vals_append]; exact h2) h3
end
section
variable {l : List Oper} {Q : Exit → Act → World → Prop} {md : Region.Mode} {S : World → Prop} {i : Nat} {σ : List Nat} {o : Oper} {listed : Array Bool} {a : Act} {w : World}
/-- Where its turn comes alone. -/
theorem wpI_app_own (hi : nthOp l i = some o) (hr : Region.ready md l.toArray listed = [i]) (hgd : o.guard = none) (s x : Operand)
    (ho : o.op = .call { callee := .builtin .append, args := #[s, x], argTypes := #[45, 45] })
    (base : Nat) (v : Value) (n : Nat) (xs : List UInt8) (hs : a.eval s = v) (hown : w.ownsRow base 5 1 v n (vals xs))
    (B : Nat) (A : Option Addr) (m c : Nat) (news : List UInt8) (hx : a.eval x = .slice A m c) (hb : Bsl w B A m c news)
    (hnm : n + m ≤ 100000000000000) (hbase : base ≤ w.heap.size)
    (h : ∀ v' w', w'.ownsRow base 5 1 v' (n + m) (vals (xs ++ news)) → w.grownBy w' v.ownBlock → S w' ∧ wpI Tryz.prog md S l Q σ (listed.setIfInBounds i true) (a.put o.dst v') w') : wpI Tryz.prog md S l Q (i :: σ) listed a w :=
  wpI_lone hi hr fun K hK => by
    rw [if_pos (by simp [Region.wanted, hgd])]
    exact wp_app_own s x ho base v n xs hs hown B A m c news hx hb hnm hbase fun v' w' h1 h2 => hK _ _ (h v' w' h1 h2).1 (h v' w' h1 h2).2
end
/-- A slice literal of one byte. -/
theorem one_own (w : World) (x : UInt8) : (w.alloc (.cells #[.int .u8 (x.toNat : Int)] 5)).ownsRow w.heap.size 5 1 (.slice (some ⟨w.heap.size, 0, none⟩) 1 1) 1 (vals [x]) :=
  ⟨rfl, .inr ⟨w.heap.size, 1, _, rfl, Nat.le_refl _, heap_alloc_new w _, Nat.le_refl _, by unfold maxLen; omega, rfl, rfl⟩⟩
end Go.Proofs.YtldnelimemjaiaaGreatDoor
/-
  The document's own Bytes and Write of pointers.
-/
namespace Go.Proofs.YtldnelimemjaiaaGreatDoor
open Go.RowKit Go.Shelf
set_option maxRecDepth 100000

set_option maxHeartbeats 2000000 in
theorem rpBytes_any (p : Pt) (hw : WfP p) (hroom : (0 ≤ p.1 ∧ p.1 < 256) ∧ p.2.1 < 16777216) (w : World) : Calls Tryz.prog 67 #[ptV p] w (OwnV 16 (bytesP p) w) := by
  obtain ⟨a, b, c, d, e⟩ := p
  obtain ⟨_, h3', h4, h5, h6⟩ := hw
  obtain ⟨⟨h1, h2⟩, h3⟩ := hroom
  dsimp only at h1 h2 h3 h3' h4 h5 h6
  obtain ⟨A, rfl⟩ := Int.eq_ofNat_of_zero_le h1
  have hmx : Tryz.prog.follows Departure.mixedOrders = true := by kernel_rfl
  have q0 : (0 : Int) ≤ A := by omega
  have q1 : (A : Int) ≤ 255 := by omega
  have HN1 := Lib.hid (fun W => rpNumber_any b 3 (by omega) (by omega) W)
  have HN2 := Lib.hid (fun W => rpNumber_any c 4 (by omega) (by omega) W)
  have HN3 := Lib.hid (fun W => rpNumber_any d 4 (by omega) (by omega) W)
  have HN4 := Lib.hid (fun W => rpNumber_any e 4 (by omega) (by omega) W)
  have HB := Lib.hid ((Below.refl _ w).alloc (Nat.le_refl _) (.cells #[.int .i64 (A : Int), .int .u32 (b : Int), .int .u32 (c : Int), .int .u32 (d : Int), .int .u32 (e : Int)] 28))
  have HK := Lib.hid (Blk.new w 28 #[.int .i64 (A : Int), .int .u32 (b : Int), .int .u32 (c : Int), .int .u32 (d : Int), .int .u32 (e : Int)])
  have eA : (((UInt8.ofNat A).toNat : Nat) : Int) = (A : Int) := by simp; omega
  have eW : IntKind.u8.wrap (A : Int) = (A : Int) := by simp [IntKind.wrap, IntKind.bits, IntKind.signed]; omega
  have eL : leB 1 A ++ leB 3 b = [UInt8.ofNat A] ++ leB 3 b := by
    have hb : byteAt A 0 = UInt8.ofNat A := UInt8.toNat_inj.1 (by rw [byteAt_toNat]; simp)
    rw [← hb]
    rfl
  go_enter Tryz.func67, Tryz.ntmps67
  go_wp2_with fail
  go_cut [3] from 4 to 11 (fun v wx => wx.ownsRow (w.heap.size + 1) 5 1 v 4 (vals (leB 1 A ++ leB 3 b)) ∧ Below w.heap.size w wx ∧ Blk wx w.heap.size 28 #[.int .i64 (A : Int), .int .u32 (b : Int), .int .u32 (c : Int), .int .u32 (d : Int), .int .u32 (e : Int)])
  case first =>
    obtain ⟨wd, hwd⟩ : ∃ wd, (w.alloc (Obj.cells #[.int .i64 (A : Int), .int .u32 (b : Int), .int .u32 (c : Int), .int .u32 (d : Int), .int .u32 (e : Int)] 28)).drew = wd := ⟨_, rfl⟩
    have HBd := Lib.hid (show Below w.heap.size w wd by rw [← hwd]; exact HB.out.drew)
    have HKd := Lib.hid (show Blk wd w.heap.size 28 #[.int .i64 (A : Int), .int .u32 (b : Int), .int .u32 (c : Int), .int .u32 (d : Int), .int .u32 (e : Int)] by rw [← hwd]; exact HK.out.drew)
    have HZd := Lib.hid (show wd.heap.size = w.heap.size + 1 by rw [← hwd]; simp)
    have c0 := HKd.out.cell 0
    have c1 := HKd.out.cell 1
    have C0 := fun X (hX : Below wd.heap.size wd X) => (hX.cell (p := ⟨w.heap.size, 0, none⟩) (World.block_lt_of_cell? wd _ c0)).trans c0
    have C1 := fun X (hX : Below wd.heap.size wd X) => (hX.cell (p := ⟨w.heap.size, 1, none⟩) (World.block_lt_of_cell? wd _ c1)).trans c1
    have hbwd : Below wd.heap.size wd wd := Below.refl _ _
    clear c0 c1
    refine wpI_start (Below wd.heap.size wd) [0, 1, 2, 4, 5, 3, 6, 7, 8] hmx rfl hwd ?_
    clear hwd
    iterate 5 (
      refine wpI_read (v := ?_) hbwd rfl (by kernel_rfl) (by kernel_rfl) (by kernel_rfl) (fun _ _ _ h => h) (.inl ⟨by rfl, ?_⟩) ?_
      rotate_left
      · intro X hX
        have hXa := C0 X hX
        have hXb := C1 X hX
        clear hX
        go_simp
        with_reducible rfl
      try simp only [Act.put, List.setIfInBounds_toArray, List.set_cons_zero, List.set_cons_succ])
    clear C0 C1
    refine wpI_fork rfl rfl (by kernel_rfl) (fun K hK => ?_) (fun K hK => ?_)
    · go_simp
      have hbA := (Below.refl wd.heap.size wd).alloc (Nat.le_refl _) (.cells #[.int .u8 (A : Int)] 5)
      have hoA := one_own wd (UInt8.ofNat A)
      rw [eA] at hoA
      obtain ⟨wa, hwa⟩ : ∃ wa, wd.alloc (.cells #[.int .u8 (A : Int)] 5) = wa := ⟨_, rfl⟩
      obtain ⟨gb, hgb⟩ : ∃ gb, wd.heap.size = gb := ⟨_, rfl⟩
      rw [hwa] at hbA hoA ⊢
      rw [hgb] at hoA ⊢
      refine hK _ _ hbA ?_
      clear hK K hwa
      try simp only [Act.put, List.setIfInBounds_toArray, List.set_cons_zero, List.set_cons_succ]
      refine wpI_lone rfl (by kernel_rfl) (fun K hK => ?_)
      go_simp
      refine (HN1.out wa).mono ?_
      rintro ev wb ⟨vb, rfl, hob, hbb⟩
      have hbB := hbA.trans (hbb.mono hbA.size)
      have hoB := own_below hoA hbb
      refine hK _ _ hbB ?_
      clear hK K hoA
      try simp only [Act.put, List.setIfInBounds_toArray, List.set_cons_zero, List.set_cons_succ]
      obtain ⟨Ab, Cb, rfl, hsb⟩ := own_to hob
      refine wpI_app_own rfl (by kernel_rfl) rfl (.tmp 7) (.tmp 10) rfl gb _ 1 _ rfl hoB _ Ab 3 Cb (leB 3 b) rfl hsb (by omega) (by have := hbB.size; have := hoB.lt gb rfl; omega) ?_
      intro v3 w3 ho3 hg3
      have hg3' : wb.grownBy w3 (some gb) := hg3
      have hgl : wd.heap.size ≤ gb := by have := hbA.size; omega
      have hb3 := below_only hbB hgl hg3' hbB.size
      refine ⟨hb3, ?_⟩
      try simp only [Act.put, List.setIfInBounds_toArray, List.set_cons_zero, List.set_cons_succ]
      iterate 1 (
        refine wpI_read (v := ?_) hb3 rfl (by kernel_rfl) (by kernel_rfl) (by kernel_rfl) (fun _ _ _ h => h) (.inl ⟨by rfl, ?_⟩) ?_
        rotate_left
        · intro X hX
          clear hX
          go_simp
          with_reducible rfl
        try simp only [Act.put, List.setIfInBounds_toArray, List.set_cons_zero, List.set_cons_succ])
      refine wpI_done (by kernel_rfl) ?_
      go_wp2_with fail
      go_meet
      refine ⟨?_, HBd.out.trans (hb3.mono HBd.out.size), HKd.out.below hb3 HKd.out.lt⟩
      rw [eL]
      exact own_mono ho3 (by have := HZd.out; omega)
    · go_simp
      refine (HN1.out wd).mono ?_
      rintro ev wa ⟨vb, rfl, hob, hbb⟩
      have hbA : Below wd.heap.size wd wa := hbb
      refine hK _ _ hbA ?_
      clear hK K
      try simp only [Act.put, List.setIfInBounds_toArray, List.set_cons_zero, List.set_cons_succ]
      refine wpI_lone rfl (by kernel_rfl) (fun K hK => ?_)
      go_simp
      have hoB := one_own wa (UInt8.ofNat A)
      rw [eA] at hoB
      have hbn := (Below.refl wa.heap.size wa).alloc (Nat.le_refl _) (.cells #[.int .u8 (A : Int)] 5)
      obtain ⟨wb, hwb⟩ : ∃ wb, wa.alloc (.cells #[.int .u8 (A : Int)] 5) = wb := ⟨_, rfl⟩
      obtain ⟨gb, hgb⟩ : ∃ gb, wa.heap.size = gb := ⟨_, rfl⟩
      rw [hwb] at hoB hbn ⊢
      rw [hgb] at hoB ⊢
      have hbB := hbA.trans (hbn.mono hbA.size)
      refine hK _ _ hbB ?_
      clear hK K hwb
      try simp only [Act.put, List.setIfInBounds_toArray, List.set_cons_zero, List.set_cons_succ]
      obtain ⟨Ab, Cb, rfl, hsb0⟩ := own_to hob
      have hsb := hsb0.step hbn
      refine wpI_app_own rfl (by kernel_rfl) rfl (.tmp 7) (.tmp 10) rfl gb _ 1 _ rfl hoB _ Ab 3 Cb (leB 3 b) rfl hsb (by omega) (by have := hbB.size; have := hoB.lt gb rfl; omega) ?_
      intro v3 w3 ho3 hg3
      have hg3' : wb.grownBy w3 (some gb) := hg3
      have hgl : wd.heap.size ≤ gb := by have := hbA.size; omega
      have hb3 := below_only hbB hgl hg3' hbB.size
      refine ⟨hb3, ?_⟩
      try simp only [Act.put, List.setIfInBounds_toArray, List.set_cons_zero, List.set_cons_succ]
      iterate 1 (
        refine wpI_read (v := ?_) hb3 rfl (by kernel_rfl) (by kernel_rfl) (by kernel_rfl) (fun _ _ _ h => h) (.inl ⟨by rfl, ?_⟩) ?_
        rotate_left
        · intro X hX
          clear hX
          go_simp
          with_reducible rfl
        try simp only [Act.put, List.setIfInBounds_toArray, List.set_cons_zero, List.set_cons_succ])
      refine wpI_done (by kernel_rfl) ?_
      go_wp2_with fail
      go_meet
      refine ⟨?_, HBd.out.trans (hb3.mono HBd.out.size), HKd.out.below hb3 HKd.out.lt⟩
      rw [eL]
      exact own_mono ho3 (by have := HZd.out; omega)
  case rest =>
    obtain ⟨ho1, hb1, hk1⟩ := hcut
    obtain ⟨c0, c1, c2, c3, c4⟩ := hk1.five
    have HO1 := Lib.hid ho1
    have HB1 := Lib.hid hb1
    have HK1 := Lib.hid hk1
    have HS1 := Lib.hid (show w.heap.size + 1 ≤ wc.heap.size from hk1.lt)
    clear ho1 hb1 hk1
    obtain ⟨v, hv⟩ : ∃ v : Value, u3 = v := ⟨_, rfl⟩
    rw [hv] at HO1 ⊢
    clear hv
    go_wp2_with fail
    refine (HN2.out wc).mono ?_
    rintro ev w2a ⟨x2, rfl, o2, b2⟩
    obtain ⟨A2, C2, rfl, s2⟩ := own_to o2
    have HS2 := Lib.hid s2
    have HOa2 := Lib.hid (own_below HO1.out b2)
    have HBa2 := Lib.hid (HB1.out.trans (b2.mono HB1.out.size))
    have HKa2 := Lib.hid (HK1.out.below b2 HK1.out.lt)
    clear s2 o2 b2 c0 c1 c2 c3 c4
    go_wp2_with (at_builtin
                 refine wpList_append_bsl rfl (.tmp 12) (.tmp 15) rfl (w.heap.size + 1) v 4 _ rfl HOa2.out w2a.heap.size A2 4 C2 (leB 4 c) rfl HS2.out (by omega) (by have := HKa2.out.lt; omega) ?_
                 intro v2 w2b h2 hgr2
                 have HO2 := Lib.hid h2
                 have HB2 := Lib.hid (HBa2.out.grown hgr2 HBa2.out.size (fun r hr => by have := (HOa2.out.lt r hr).1; omega))
                 have HK2 := Lib.hid (HKa2.out.grown hgr2 (fun er => by have := (HOa2.out.lt _ er.symm).1; omega))
                 obtain ⟨c0, c1, c2, c3, c4⟩ := HK2.out.five
                 clear h2 hgr2)
    go_wp2_with fail
    refine (HN3.out w2b).mono ?_
    rintro ev w3a ⟨x3, rfl, o3, b3⟩
    obtain ⟨A3, C3, rfl, s3⟩ := own_to o3
    have HS3 := Lib.hid s3
    have HOa3 := Lib.hid (own_below HO2.out b3)
    have HBa3 := Lib.hid (HB2.out.trans (b3.mono HB2.out.size))
    have HKa3 := Lib.hid (HK2.out.below b3 HK2.out.lt)
    clear s3 o3 b3 c0 c1 c2 c3 c4
    go_wp2_with (at_builtin
                 refine wpList_append_bsl rfl (.tmp 17) (.tmp 20) rfl (w.heap.size + 1) v2 8 _ rfl HOa3.out w3a.heap.size A3 4 C3 (leB 4 d) rfl HS3.out (by omega) (by have := HKa3.out.lt; omega) ?_
                 intro v3 w3b h3 hgr3
                 have HO3 := Lib.hid h3
                 have HB3 := Lib.hid (HBa3.out.grown hgr3 HBa3.out.size (fun r hr => by have := (HOa3.out.lt r hr).1; omega))
                 have HK3 := Lib.hid (HKa3.out.grown hgr3 (fun er => by have := (HOa3.out.lt _ er.symm).1; omega))
                 obtain ⟨c0, c1, c2, c3, c4⟩ := HK3.out.five
                 clear h3 hgr3)
    go_wp2_with fail
    refine (HN4.out w3b).mono ?_
    rintro ev w4a ⟨x4, rfl, o4, b4⟩
    obtain ⟨A4, C4, rfl, s4⟩ := own_to o4
    have HS4 := Lib.hid s4
    have HOa4 := Lib.hid (own_below HO3.out b4)
    have HBa4 := Lib.hid (HB3.out.trans (b4.mono HB3.out.size))
    have HKa4 := Lib.hid (HK3.out.below b4 HK3.out.lt)
    clear s4 o4 b4 c0 c1 c2 c3 c4
    go_wp2_with (at_builtin
                 refine wpList_append_bsl rfl (.tmp 22) (.tmp 25) rfl (w.heap.size + 1) v3 12 _ rfl HOa4.out w4a.heap.size A4 4 C4 (leB 4 e) rfl HS4.out (by omega) (by have := HKa4.out.lt; omega) ?_
                 intro v4 w4b h4 hgr4
                 have HO4 := Lib.hid h4
                 have HB4 := Lib.hid (HBa4.out.grown hgr4 HBa4.out.size (fun r hr => by have := (HOa4.out.lt r hr).1; omega))
                 have HK4 := Lib.hid (HKa4.out.grown hgr4 (fun er => by have := (HOa4.out.lt _ er.symm).1; omega))
                 obtain ⟨c0, c1, c2, c3, c4⟩ := HK4.out.five
                 clear h4 hgr4)
    go_ret
    refine ⟨v4, rfl, ?_, HB4.out⟩
    have := HO4.out
    have ea : ((A : Int)).toNat = A := by omega
    simp only [bytesP, ea]
    simp only [List.append_assoc] at this ⊢
    exact own_mono this (by omega)
end Go.Proofs.YtldnelimemjaiaaGreatDoor
/-
  The document's own Write and Read of pointers.
-/
namespace Go.Proofs.YtldnelimemjaiaaGreatDoor
open Go.RowKit Go.Shelf
set_option maxRecDepth 100000

set_option maxHeartbeats 4000000 in
theorem rpRead_any (a : Option Addr) (len cap : Nat) (s : List UInt8) (w : World) (hB : Bsl w w.heap.size a len cap s) : Calls Tryz.prog 81 #[.slice a len cap] w (OutP (preadO s).1 (preadO s).2 w) := by
  have hl := hB.1
  have hmx : Tryz.prog.follows Departure.mixedOrders = true := by kernel_rfl
  rw [preadO]
  have hk : Blk (w.alloc (.cells #[.int .i64 0, .int .u32 0, .int .u32 0, .int .u32 0, .int .u32 0] 28)) w.heap.size 28 #[.int .i64 0, .int .u32 0, .int .u32 0, .int .u32 0, .int .u32 0] := Blk.new w _ _
  have hb1 : Below w.heap.size w (w.alloc (.cells #[.int .i64 0, .int .u32 0, .int .u32 0, .int .u32 0, .int .u32 0] 28)) := (Below.refl _ w).alloc (Nat.le_refl _) _
  have HK := Lib.hid hk; clear hk
  have HB1 := Lib.hid hb1; clear hb1
  have i0 : (0 : Int) ≤ (len : Int) := by omega
  have i1 : (len : Int) ≤ 9223372036854775807 := by have h1 := hB.2.1; have h2 := hB.2.2.1; unfold maxLen at h2; omega
  by_cases h16 : s.length = 16
  · rw [if_pos h16]
    obtain rfl : len = 16 := by omega
    obtain ⟨b, off, ea, hblt, hcell⟩ := hB.2.2.2.2 (by omega)
    subst ea
    have hcap := hB.2.1
    have hm := fun w => rpMay_any (getP s) w
    have l0 := leN_le s 0 1
    obtain ⟨x, hx⟩ : ∃ x : Nat, (s[0]'(by omega)).toNat = x := ⟨_, rfl⟩
    have c0 := hcell 0 (by omega)
    rw [hx, Nat.add_zero] at c0
    have hx0 : leN ((s.drop 0).take 1) = x := by
      rw [List.drop_zero, ← hx]
      obtain ⟨y, r, rfl⟩ : ∃ y r, s = y :: r := List.exists_cons_of_length_pos (by omega)
      simp [leN]
    rw [getP] at hm ⊢
    rw [hx0] at hm l0 ⊢
    clear hx0 hx
    have hw0 := hB.win 1 3 (by omega)
    have hg0 : ∀ W, Below w.heap.size w W → Calls Tryz.prog 82 #[.slice (some ⟨b, off + 1, none⟩) 3 (cap - 1)] W fun e w' => e = .returned (.int .u32 (leN ((s.drop 1).take 3) : Nat)) ∧ W = w' := fun W hW => rpGet_any _ 3 _ _ W ((hw0.below hW).more hW.size) (by omega)
    have sl0 : ∀ X : World, (Instr.slice 45 (.slice (some ⟨b, off, none⟩) 16 cap) (some (.int .i64 1)) (some (.int .i64 4)) none).run Tryz.prog X = .ok (.slice (some ⟨b, off + 1, none⟩) 3 (cap - 1)) X := fun X => slice_lh X b off 16 cap 1 3 (by omega) (by omega)
    obtain ⟨n1, hn1⟩ : ∃ n, leN ((s.drop 1).take 3) = n := ⟨_, rfl⟩
    rw [hn1] at hg0 hm ⊢
    clear hn1 hw0
    have hw1 := hB.win 4 4 (by omega)
    have hg1 : ∀ W, Below w.heap.size w W → Calls Tryz.prog 82 #[.slice (some ⟨b, off + 4, none⟩) 4 (cap - 4)] W fun e w' => e = .returned (.int .u32 (leN ((s.drop 4).take 4) : Nat)) ∧ W = w' := fun W hW => rpGet_any _ 4 _ _ W ((hw1.below hW).more hW.size) (by omega)
    have sl1 : ∀ X : World, (Instr.slice 45 (.slice (some ⟨b, off, none⟩) 16 cap) (some (.int .i64 4)) (some (.int .i64 8)) none).run Tryz.prog X = .ok (.slice (some ⟨b, off + 4, none⟩) 4 (cap - 4)) X := fun X => slice_lh X b off 16 cap 4 4 (by omega) (by omega)
    obtain ⟨n2, hn2⟩ : ∃ n, leN ((s.drop 4).take 4) = n := ⟨_, rfl⟩
    rw [hn2] at hg1 hm ⊢
    clear hn2 hw1
    have hw2 := hB.win 8 4 (by omega)
    have hg2 : ∀ W, Below w.heap.size w W → Calls Tryz.prog 82 #[.slice (some ⟨b, off + 8, none⟩) 4 (cap - 8)] W fun e w' => e = .returned (.int .u32 (leN ((s.drop 8).take 4) : Nat)) ∧ W = w' := fun W hW => rpGet_any _ 4 _ _ W ((hw2.below hW).more hW.size) (by omega)
    have sl2 : ∀ X : World, (Instr.slice 45 (.slice (some ⟨b, off, none⟩) 16 cap) (some (.int .i64 8)) (some (.int .i64 12)) none).run Tryz.prog X = .ok (.slice (some ⟨b, off + 8, none⟩) 4 (cap - 8)) X := fun X => slice_lh X b off 16 cap 8 4 (by omega) (by omega)
    obtain ⟨n3, hn3⟩ : ∃ n, leN ((s.drop 8).take 4) = n := ⟨_, rfl⟩
    rw [hn3] at hg2 hm ⊢
    clear hn3 hw2
    have hw3 := hB.win 12 4 (by omega)
    have hg3 : ∀ W, Below w.heap.size w W → Calls Tryz.prog 82 #[.slice (some ⟨b, off + 12, none⟩) 4 (cap - 12)] W fun e w' => e = .returned (.int .u32 (leN ((s.drop 12).take 4) : Nat)) ∧ W = w' := fun W hW => rpGet_any _ 4 _ _ W ((hw3.below hW).more hW.size) (by omega)
    have sl3 : ∀ X : World, (Instr.slice 45 (.slice (some ⟨b, off, none⟩) 16 cap) (some (.int .i64 12)) (some (.int .i64 16)) none).run Tryz.prog X = .ok (.slice (some ⟨b, off + 12, none⟩) 4 (cap - 12)) X := fun X => slice_lh X b off 16 cap 12 4 (by omega) (by omega)
    obtain ⟨n4, hn4⟩ : ∃ n, leN ((s.drop 12).take 4) = n := ⟨_, rfl⟩
    rw [hn4] at hg3 hm ⊢
    clear hn4 hw3
    obtain ⟨n0, hn0⟩ : ∃ n : Nat, x = n := ⟨_, rfl⟩
    rw [hn0] at c0 hm l0 ⊢
    clear hn0
    have eW : IntKind.i64.wrap (n0 : Int) = (n0 : Int) := IntWalk.i64_in _ (by omega)
    have HX0 := Lib.hid c0
    obtain ⟨P, hP⟩ : ∃ P : Pt, ((n0 : Int), n1, n2, n3, n4) = P := ⟨_, rfl⟩
    have HP := Lib.hid hP
    have HC := Lib.hid hcell
    have HC0 : Hid (∀ X, Below (w.heap.size + 1) (w.alloc (.cells #[.int .i64 0, .int .u32 0, .int .u32 0, .int .u32 0, .int .u32 0] 28)).drew X → Calls Tryz.prog 82 #[.slice (some ⟨b, off + 1, none⟩) 3 (cap - 1)] X fun e w' => e = .returned (.int .u32 (n1 : Int)) ∧ X = w') := Lib.hid fun X hX => hg0 X ((HB1.out.drew).trans (hX.mono (by omega)))
    have HC1 : Hid (∀ X, Below (w.heap.size + 1) (w.alloc (.cells #[.int .i64 0, .int .u32 0, .int .u32 0, .int .u32 0, .int .u32 0] 28)).drew X → Calls Tryz.prog 82 #[.slice (some ⟨b, off + 4, none⟩) 4 (cap - 4)] X fun e w' => e = .returned (.int .u32 (n2 : Int)) ∧ X = w') := Lib.hid fun X hX => hg1 X ((HB1.out.drew).trans (hX.mono (by omega)))
    have HC2 : Hid (∀ X, Below (w.heap.size + 1) (w.alloc (.cells #[.int .i64 0, .int .u32 0, .int .u32 0, .int .u32 0, .int .u32 0] 28)).drew X → Calls Tryz.prog 82 #[.slice (some ⟨b, off + 8, none⟩) 4 (cap - 8)] X fun e w' => e = .returned (.int .u32 (n3 : Int)) ∧ X = w') := Lib.hid fun X hX => hg2 X ((HB1.out.drew).trans (hX.mono (by omega)))
    have HC3 : Hid (∀ X, Below (w.heap.size + 1) (w.alloc (.cells #[.int .i64 0, .int .u32 0, .int .u32 0, .int .u32 0, .int .u32 0] 28)).drew X → Calls Tryz.prog 82 #[.slice (some ⟨b, off + 12, none⟩) 4 (cap - 12)] X fun e w' => e = .returned (.int .u32 (n4 : Int)) ∧ X = w') := Lib.hid fun X hX => hg3 X ((HB1.out.drew).trans (hX.mono (by omega)))
    have HBL := Lib.hid hblt
    clear hg0 hg1 hg2 hg3 hcell c0 hP hl hB h16 hblt
    have HM := Lib.hid hm
    clear hm
    obtain ⟨R, hR⟩ : ∃ R : Pt × Int, (if MayP ((n0 : Int), n1, n2, n3, n4) then (((n0 : Int), n1, n2, n3, n4), (0 : Int)) else (p0, 8)) = R := ⟨_, rfl⟩
    rw [hR]
    have HR := Lib.hid hR
    clear hR
    go_enter Tryz.func81, Tryz.ntmps81
    go_wp2_with fail
    go_cut [4] from 9 to 25 (fun v wx => ∃ ga, v = .pointer (some ⟨ga, 0, none⟩) ∧ w.heap.size < ga ∧ Blk wx ga 28 #[.int .i64 (n0 : Int), .int .u32 (n1 : Int), .int .u32 (n2 : Int), .int .u32 (n3 : Int), .int .u32 (n4 : Int)] ∧ Below w.heap.size w wx ∧ Blk wx w.heap.size 28 #[.int .i64 0, .int .u32 0, .int .u32 0, .int .u32 0, .int .u32 0])
    case first =>
      obtain ⟨wd, hwd⟩ : ∃ wd, (w.alloc (Obj.cells #[.int .i64 0, .int .u32 0, .int .u32 0, .int .u32 0, .int .u32 0] 28)).drew = wd := ⟨_, rfl⟩
      have HBd := Lib.hid (show Below w.heap.size w wd by rw [← hwd]; exact HB1.out.drew)
      have HKd := Lib.hid (show Blk wd w.heap.size 28 #[.int .i64 0, .int .u32 0, .int .u32 0, .int .u32 0, .int .u32 0] by rw [← hwd]; exact HK.out.drew)
      have HZd := Lib.hid (show wd.heap.size = w.heap.size + 1 by rw [← hwd]; simp)
      rw [hwd, ← HZd.out] at HC0 HC1 HC2 HC3
      have c0 : wd.cell? ⟨b, off, none⟩ = some (.int .u8 (n0 : Int)) := (HBd.out.cell (p := ⟨b, off, none⟩) HBL.out).trans HX0.out
      have C0 := fun X (hX : Below wd.heap.size wd X) => (hX.cell (p := ⟨b, off, none⟩) (World.block_lt_of_cell? wd _ c0)).trans c0
      have hbwd : Below wd.heap.size wd wd := Below.refl _ _
      clear c0
      refine wpI_start (Below wd.heap.size wd) [0, 1, 2, 3, 4, 5, 7, 8, 10, 11, 13, 14, 6, 17, 9, 12, 15, 16, 18] hmx rfl hwd ?_
      clear hwd
      iterate 12 (
        refine wpI_read (v := ?_) hbwd rfl (by kernel_rfl) (by kernel_rfl) (by kernel_rfl) (fun _ _ _ h => h) (.inl ⟨by rfl, ?_⟩) ?_
        rotate_left
        · intro X hX
          have hXa := C0 X hX
          clear hX
          go_simp
          with_reducible rfl
        try simp only [Act.put, List.setIfInBounds_toArray, List.set_cons_zero, List.set_cons_succ])
      clear C0 sl0 sl1 sl2 sl3
      refine wpI_fork rfl rfl (by kernel_rfl) (fun K hK => ?_) (fun K hK => ?_)
      · go_simp
        refine (HC0.out wd hbwd).mono ?_
        rintro ev wx ⟨rfl, rfl⟩
        refine hK _ _ hbwd ?_
        clear hK K
        try simp only [Act.put, List.setIfInBounds_toArray, List.set_cons_zero, List.set_cons_succ]
        refine wpI_turn [9, 17, 12, 15, 16, 18] rfl ?_
        refine wpI_fork rfl rfl (by kernel_rfl) (fun K hK => ?_) (fun K hK => ?_)
        · go_simp
          refine (HC1.out wd hbwd).mono ?_
          rintro ev wx ⟨rfl, rfl⟩
          refine hK _ _ hbwd ?_
          clear hK K
          try simp only [Act.put, List.setIfInBounds_toArray, List.set_cons_zero, List.set_cons_succ]
          refine wpI_turn [12, 17, 15, 16, 18] rfl ?_
          refine wpI_fork rfl rfl (by kernel_rfl) (fun K hK => ?_) (fun K hK => ?_)
          · go_simp
            refine (HC2.out wd hbwd).mono ?_
            rintro ev wx ⟨rfl, rfl⟩
            refine hK _ _ hbwd ?_
            clear hK K
            try simp only [Act.put, List.setIfInBounds_toArray, List.set_cons_zero, List.set_cons_succ]
            refine wpI_turn [15, 17, 16, 18] rfl ?_
            refine wpI_fork rfl rfl (by kernel_rfl) (fun K hK => ?_) (fun K hK => ?_)
            · go_simp
              refine (HC3.out wd hbwd).mono ?_
              rintro ev wx ⟨rfl, rfl⟩
              refine hK _ _ hbwd ?_
              clear hK K
              try simp only [Act.put, List.setIfInBounds_toArray, List.set_cons_zero, List.set_cons_succ]
              refine wpI_turn [16, 17, 18] rfl ?_
              iterate 1 (
                refine wpI_read (v := ?_) hbwd rfl (by kernel_rfl) (by kernel_rfl) (by kernel_rfl) (fun _ _ _ h => h) (.inl ⟨by rfl, ?_⟩) ?_
                rotate_left
                · intro X hX
                  clear hX
                  go_simp
                  with_reducible rfl
                try simp only [Act.put, List.setIfInBounds_toArray, List.set_cons_zero, List.set_cons_succ])
              refine wpI_lone rfl (by kernel_rfl) (fun K hK => ?_)
              go_simp
              have hba := (Below.refl wd.heap.size wd).alloc (Nat.le_refl _) (.cells #[.int .i64 0, .int .u32 0, .int .u32 0, .int .u32 0, .int .u32 0] 28)
              have hxa := Blk.new wd 28 #[.int .i64 0, .int .u32 0, .int .u32 0, .int .u32 0, .int .u32 0]
              obtain ⟨wa, hwa⟩ : ∃ wa, wd.alloc (.cells #[.int .i64 0, .int .u32 0, .int .u32 0, .int .u32 0, .int .u32 0] 28) = wa := ⟨_, rfl⟩
              obtain ⟨ga, hga⟩ : ∃ ga, wd.heap.size = ga := ⟨_, rfl⟩
              have hgl : wd.heap.size ≤ ga := by omega
              rw [hwa] at hba hxa ⊢
              rw [hga] at hxa ⊢
              refine hK _ _ hba ?_
              clear hK K hwa
              try simp only [Act.put, List.setIfInBounds_toArray, List.set_cons_zero, List.set_cons_succ]
              refine wpI_lone rfl (by kernel_rfl) (fun K hK => ?_)
              have d0 := hxa.cell 0
              have d1 := hxa.cell 1
              have d2 := hxa.cell 2
              have d3 := hxa.cell 3
              have d4 := hxa.cell 4
              have hfz := fun i => hxa.frozen i
              go_simp
              have hxs := hxa.set5 (.int .i64 (n0 : Int)) (.int .u32 (n1 : Int)) (.int .u32 (n2 : Int)) (.int .u32 (n3 : Int)) (.int .u32 (n4 : Int))
              have hbs := below_set5 hba hgl (.int .i64 (n0 : Int)) (.int .u32 (n1 : Int)) (.int .u32 (n2 : Int)) (.int .u32 (n3 : Int)) (.int .u32 (n4 : Int))
              obtain ⟨ws, hws⟩ : ∃ ws, set5 wa ga (.int .i64 (n0 : Int)) (.int .u32 (n1 : Int)) (.int .u32 (n2 : Int)) (.int .u32 (n3 : Int)) (.int .u32 (n4 : Int)) = ws := ⟨_, rfl⟩
              rw [hws] at hxs hbs
              simp only [set5] at hws
              rw [hws]
              refine hK _ _ hbs ?_
              clear hK K d0 d1 d2 d3 d4 hfz hws
              try simp only [Act.put, List.setIfInBounds_toArray, List.set_cons_zero, List.set_cons_succ]
              refine wpI_done (by kernel_rfl) ?_
              go_wp2_with fail
              go_meet
              exact ⟨ga, rfl, by have := HZd.out; omega, hxs, HBd.out.trans (hbs.mono HBd.out.size), HKd.out.below hbs HKd.out.lt⟩
            · go_simp
              have hba := (Below.refl wd.heap.size wd).alloc (Nat.le_refl _) (.cells #[.int .i64 0, .int .u32 0, .int .u32 0, .int .u32 0, .int .u32 0] 28)
              have hxa := Blk.new wd 28 #[.int .i64 0, .int .u32 0, .int .u32 0, .int .u32 0, .int .u32 0]
              obtain ⟨wa, hwa⟩ : ∃ wa, wd.alloc (.cells #[.int .i64 0, .int .u32 0, .int .u32 0, .int .u32 0, .int .u32 0] 28) = wa := ⟨_, rfl⟩
              obtain ⟨ga, hga⟩ : ∃ ga, wd.heap.size = ga := ⟨_, rfl⟩
              have hgl : wd.heap.size ≤ ga := by omega
              rw [hwa] at hba hxa ⊢
              rw [hga] at hxa ⊢
              refine hK _ _ hba ?_
              clear hK K hwa
              try simp only [Act.put, List.setIfInBounds_toArray, List.set_cons_zero, List.set_cons_succ]
              refine wpI_lone rfl (by kernel_rfl) (fun K hK => ?_)
              go_simp
              refine (HC3.out wa hba).mono ?_
              rintro ev wx ⟨rfl, rfl⟩
              refine hK _ _ hba ?_
              clear hK K
              try simp only [Act.put, List.setIfInBounds_toArray, List.set_cons_zero, List.set_cons_succ]
              iterate 1 (
                refine wpI_read (v := ?_) hba rfl (by kernel_rfl) (by kernel_rfl) (by kernel_rfl) (fun _ _ _ h => h) (.inl ⟨by rfl, ?_⟩) ?_
                rotate_left
                · intro X hX
                  clear hX
                  go_simp
                  with_reducible rfl
                try simp only [Act.put, List.setIfInBounds_toArray, List.set_cons_zero, List.set_cons_succ])
              refine wpI_lone rfl (by kernel_rfl) (fun K hK => ?_)
              have d0 := hxa.cell 0
              have d1 := hxa.cell 1
              have d2 := hxa.cell 2
              have d3 := hxa.cell 3
              have d4 := hxa.cell 4
              have hfz := fun i => hxa.frozen i
              go_simp
              have hxs := hxa.set5 (.int .i64 (n0 : Int)) (.int .u32 (n1 : Int)) (.int .u32 (n2 : Int)) (.int .u32 (n3 : Int)) (.int .u32 (n4 : Int))
              have hbs := below_set5 hba hgl (.int .i64 (n0 : Int)) (.int .u32 (n1 : Int)) (.int .u32 (n2 : Int)) (.int .u32 (n3 : Int)) (.int .u32 (n4 : Int))
              obtain ⟨ws, hws⟩ : ∃ ws, set5 wa ga (.int .i64 (n0 : Int)) (.int .u32 (n1 : Int)) (.int .u32 (n2 : Int)) (.int .u32 (n3 : Int)) (.int .u32 (n4 : Int)) = ws := ⟨_, rfl⟩
              rw [hws] at hxs hbs
              simp only [set5] at hws
              rw [hws]
              refine hK _ _ hbs ?_
              clear hK K d0 d1 d2 d3 d4 hfz hws
              try simp only [Act.put, List.setIfInBounds_toArray, List.set_cons_zero, List.set_cons_succ]
              refine wpI_done (by kernel_rfl) ?_
              go_wp2_with fail
              go_meet
              exact ⟨ga, rfl, by have := HZd.out; omega, hxs, HBd.out.trans (hbs.mono HBd.out.size), HKd.out.below hbs HKd.out.lt⟩
          · go_simp
            have hba := (Below.refl wd.heap.size wd).alloc (Nat.le_refl _) (.cells #[.int .i64 0, .int .u32 0, .int .u32 0, .int .u32 0, .int .u32 0] 28)
            have hxa := Blk.new wd 28 #[.int .i64 0, .int .u32 0, .int .u32 0, .int .u32 0, .int .u32 0]
            obtain ⟨wa, hwa⟩ : ∃ wa, wd.alloc (.cells #[.int .i64 0, .int .u32 0, .int .u32 0, .int .u32 0, .int .u32 0] 28) = wa := ⟨_, rfl⟩
            obtain ⟨ga, hga⟩ : ∃ ga, wd.heap.size = ga := ⟨_, rfl⟩
            have hgl : wd.heap.size ≤ ga := by omega
            rw [hwa] at hba hxa ⊢
            rw [hga] at hxa ⊢
            refine hK _ _ hba ?_
            clear hK K hwa
            try simp only [Act.put, List.setIfInBounds_toArray, List.set_cons_zero, List.set_cons_succ]
            refine wpI_lone rfl (by kernel_rfl) (fun K hK => ?_)
            go_simp
            refine (HC2.out wa hba).mono ?_
            rintro ev wx ⟨rfl, rfl⟩
            refine hK _ _ hba ?_
            clear hK K
            try simp only [Act.put, List.setIfInBounds_toArray, List.set_cons_zero, List.set_cons_succ]
            refine wpI_lone rfl (by kernel_rfl) (fun K hK => ?_)
            go_simp
            refine (HC3.out wa hba).mono ?_
            rintro ev wx ⟨rfl, rfl⟩
            refine hK _ _ hba ?_
            clear hK K
            try simp only [Act.put, List.setIfInBounds_toArray, List.set_cons_zero, List.set_cons_succ]
            iterate 1 (
              refine wpI_read (v := ?_) hba rfl (by kernel_rfl) (by kernel_rfl) (by kernel_rfl) (fun _ _ _ h => h) (.inl ⟨by rfl, ?_⟩) ?_
              rotate_left
              · intro X hX
                clear hX
                go_simp
                with_reducible rfl
              try simp only [Act.put, List.setIfInBounds_toArray, List.set_cons_zero, List.set_cons_succ])
            refine wpI_lone rfl (by kernel_rfl) (fun K hK => ?_)
            have d0 := hxa.cell 0
            have d1 := hxa.cell 1
            have d2 := hxa.cell 2
            have d3 := hxa.cell 3
            have d4 := hxa.cell 4
            have hfz := fun i => hxa.frozen i
            go_simp
            have hxs := hxa.set5 (.int .i64 (n0 : Int)) (.int .u32 (n1 : Int)) (.int .u32 (n2 : Int)) (.int .u32 (n3 : Int)) (.int .u32 (n4 : Int))
            have hbs := below_set5 hba hgl (.int .i64 (n0 : Int)) (.int .u32 (n1 : Int)) (.int .u32 (n2 : Int)) (.int .u32 (n3 : Int)) (.int .u32 (n4 : Int))
            obtain ⟨ws, hws⟩ : ∃ ws, set5 wa ga (.int .i64 (n0 : Int)) (.int .u32 (n1 : Int)) (.int .u32 (n2 : Int)) (.int .u32 (n3 : Int)) (.int .u32 (n4 : Int)) = ws := ⟨_, rfl⟩
            rw [hws] at hxs hbs
            simp only [set5] at hws
            rw [hws]
            refine hK _ _ hbs ?_
            clear hK K d0 d1 d2 d3 d4 hfz hws
            try simp only [Act.put, List.setIfInBounds_toArray, List.set_cons_zero, List.set_cons_succ]
            refine wpI_done (by kernel_rfl) ?_
            go_wp2_with fail
            go_meet
            exact ⟨ga, rfl, by have := HZd.out; omega, hxs, HBd.out.trans (hbs.mono HBd.out.size), HKd.out.below hbs HKd.out.lt⟩
        · go_simp
          have hba := (Below.refl wd.heap.size wd).alloc (Nat.le_refl _) (.cells #[.int .i64 0, .int .u32 0, .int .u32 0, .int .u32 0, .int .u32 0] 28)
          have hxa := Blk.new wd 28 #[.int .i64 0, .int .u32 0, .int .u32 0, .int .u32 0, .int .u32 0]
          obtain ⟨wa, hwa⟩ : ∃ wa, wd.alloc (.cells #[.int .i64 0, .int .u32 0, .int .u32 0, .int .u32 0, .int .u32 0] 28) = wa := ⟨_, rfl⟩
          obtain ⟨ga, hga⟩ : ∃ ga, wd.heap.size = ga := ⟨_, rfl⟩
          have hgl : wd.heap.size ≤ ga := by omega
          rw [hwa] at hba hxa ⊢
          rw [hga] at hxa ⊢
          refine hK _ _ hba ?_
          clear hK K hwa
          try simp only [Act.put, List.setIfInBounds_toArray, List.set_cons_zero, List.set_cons_succ]
          refine wpI_lone rfl (by kernel_rfl) (fun K hK => ?_)
          go_simp
          refine (HC1.out wa hba).mono ?_
          rintro ev wx ⟨rfl, rfl⟩
          refine hK _ _ hba ?_
          clear hK K
          try simp only [Act.put, List.setIfInBounds_toArray, List.set_cons_zero, List.set_cons_succ]
          refine wpI_lone rfl (by kernel_rfl) (fun K hK => ?_)
          go_simp
          refine (HC2.out wa hba).mono ?_
          rintro ev wx ⟨rfl, rfl⟩
          refine hK _ _ hba ?_
          clear hK K
          try simp only [Act.put, List.setIfInBounds_toArray, List.set_cons_zero, List.set_cons_succ]
          refine wpI_lone rfl (by kernel_rfl) (fun K hK => ?_)
          go_simp
          refine (HC3.out wa hba).mono ?_
          rintro ev wx ⟨rfl, rfl⟩
          refine hK _ _ hba ?_
          clear hK K
          try simp only [Act.put, List.setIfInBounds_toArray, List.set_cons_zero, List.set_cons_succ]
          iterate 1 (
            refine wpI_read (v := ?_) hba rfl (by kernel_rfl) (by kernel_rfl) (by kernel_rfl) (fun _ _ _ h => h) (.inl ⟨by rfl, ?_⟩) ?_
            rotate_left
            · intro X hX
              clear hX
              go_simp
              with_reducible rfl
            try simp only [Act.put, List.setIfInBounds_toArray, List.set_cons_zero, List.set_cons_succ])
          refine wpI_lone rfl (by kernel_rfl) (fun K hK => ?_)
          have d0 := hxa.cell 0
          have d1 := hxa.cell 1
          have d2 := hxa.cell 2
          have d3 := hxa.cell 3
          have d4 := hxa.cell 4
          have hfz := fun i => hxa.frozen i
          go_simp
          have hxs := hxa.set5 (.int .i64 (n0 : Int)) (.int .u32 (n1 : Int)) (.int .u32 (n2 : Int)) (.int .u32 (n3 : Int)) (.int .u32 (n4 : Int))
          have hbs := below_set5 hba hgl (.int .i64 (n0 : Int)) (.int .u32 (n1 : Int)) (.int .u32 (n2 : Int)) (.int .u32 (n3 : Int)) (.int .u32 (n4 : Int))
          obtain ⟨ws, hws⟩ : ∃ ws, set5 wa ga (.int .i64 (n0 : Int)) (.int .u32 (n1 : Int)) (.int .u32 (n2 : Int)) (.int .u32 (n3 : Int)) (.int .u32 (n4 : Int)) = ws := ⟨_, rfl⟩
          rw [hws] at hxs hbs
          simp only [set5] at hws
          rw [hws]
          refine hK _ _ hbs ?_
          clear hK K d0 d1 d2 d3 d4 hfz hws
          try simp only [Act.put, List.setIfInBounds_toArray, List.set_cons_zero, List.set_cons_succ]
          refine wpI_done (by kernel_rfl) ?_
          go_wp2_with fail
          go_meet
          exact ⟨ga, rfl, by have := HZd.out; omega, hxs, HBd.out.trans (hbs.mono HBd.out.size), HKd.out.below hbs HKd.out.lt⟩
      · go_simp
        have hba := (Below.refl wd.heap.size wd).alloc (Nat.le_refl _) (.cells #[.int .i64 0, .int .u32 0, .int .u32 0, .int .u32 0, .int .u32 0] 28)
        have hxa := Blk.new wd 28 #[.int .i64 0, .int .u32 0, .int .u32 0, .int .u32 0, .int .u32 0]
        obtain ⟨wa, hwa⟩ : ∃ wa, wd.alloc (.cells #[.int .i64 0, .int .u32 0, .int .u32 0, .int .u32 0, .int .u32 0] 28) = wa := ⟨_, rfl⟩
        obtain ⟨ga, hga⟩ : ∃ ga, wd.heap.size = ga := ⟨_, rfl⟩
        have hgl : wd.heap.size ≤ ga := by omega
        rw [hwa] at hba hxa ⊢
        rw [hga] at hxa ⊢
        refine hK _ _ hba ?_
        clear hK K hwa
        try simp only [Act.put, List.setIfInBounds_toArray, List.set_cons_zero, List.set_cons_succ]
        refine wpI_lone rfl (by kernel_rfl) (fun K hK => ?_)
        go_simp
        refine (HC0.out wa hba).mono ?_
        rintro ev wx ⟨rfl, rfl⟩
        refine hK _ _ hba ?_
        clear hK K
        try simp only [Act.put, List.setIfInBounds_toArray, List.set_cons_zero, List.set_cons_succ]
        refine wpI_lone rfl (by kernel_rfl) (fun K hK => ?_)
        go_simp
        refine (HC1.out wa hba).mono ?_
        rintro ev wx ⟨rfl, rfl⟩
        refine hK _ _ hba ?_
        clear hK K
        try simp only [Act.put, List.setIfInBounds_toArray, List.set_cons_zero, List.set_cons_succ]
        refine wpI_lone rfl (by kernel_rfl) (fun K hK => ?_)
        go_simp
        refine (HC2.out wa hba).mono ?_
        rintro ev wx ⟨rfl, rfl⟩
        refine hK _ _ hba ?_
        clear hK K
        try simp only [Act.put, List.setIfInBounds_toArray, List.set_cons_zero, List.set_cons_succ]
        refine wpI_lone rfl (by kernel_rfl) (fun K hK => ?_)
        go_simp
        refine (HC3.out wa hba).mono ?_
        rintro ev wx ⟨rfl, rfl⟩
        refine hK _ _ hba ?_
        clear hK K
        try simp only [Act.put, List.setIfInBounds_toArray, List.set_cons_zero, List.set_cons_succ]
        iterate 1 (
          refine wpI_read (v := ?_) hba rfl (by kernel_rfl) (by kernel_rfl) (by kernel_rfl) (fun _ _ _ h => h) (.inl ⟨by rfl, ?_⟩) ?_
          rotate_left
          · intro X hX
            clear hX
            go_simp
            with_reducible rfl
          try simp only [Act.put, List.setIfInBounds_toArray, List.set_cons_zero, List.set_cons_succ])
        refine wpI_lone rfl (by kernel_rfl) (fun K hK => ?_)
        have d0 := hxa.cell 0
        have d1 := hxa.cell 1
        have d2 := hxa.cell 2
        have d3 := hxa.cell 3
        have d4 := hxa.cell 4
        have hfz := fun i => hxa.frozen i
        go_simp
        have hxs := hxa.set5 (.int .i64 (n0 : Int)) (.int .u32 (n1 : Int)) (.int .u32 (n2 : Int)) (.int .u32 (n3 : Int)) (.int .u32 (n4 : Int))
        have hbs := below_set5 hba hgl (.int .i64 (n0 : Int)) (.int .u32 (n1 : Int)) (.int .u32 (n2 : Int)) (.int .u32 (n3 : Int)) (.int .u32 (n4 : Int))
        obtain ⟨ws, hws⟩ : ∃ ws, set5 wa ga (.int .i64 (n0 : Int)) (.int .u32 (n1 : Int)) (.int .u32 (n2 : Int)) (.int .u32 (n3 : Int)) (.int .u32 (n4 : Int)) = ws := ⟨_, rfl⟩
        rw [hws] at hxs hbs
        simp only [set5] at hws
        rw [hws]
        refine hK _ _ hbs ?_
        clear hK K d0 d1 d2 d3 d4 hfz hws
        try simp only [Act.put, List.setIfInBounds_toArray, List.set_cons_zero, List.set_cons_succ]
        refine wpI_done (by kernel_rfl) ?_
        go_wp2_with fail
        go_meet
        exact ⟨ga, rfl, by have := HZd.out; omega, hxs, HBd.out.trans (hbs.mono HBd.out.size), HKd.out.below hbs HKd.out.lt⟩
    case rest =>
      obtain ⟨ga, rfl, hgl, hxp, hbx, hkx⟩ := hcut
      obtain ⟨c0, c1, c2, c3, c4⟩ := hxp.five
      have HBx := Lib.hid hbx
      have HKx := Lib.hid hkx
      have HPx := Lib.hid hxp
      clear hbx hkx hxp sl0 sl1 sl2 sl3 HC0 HC1 HC2 HC3
      have hP := HP.out
      by_cases h : MayP P
      · have hm2 := HM.out wc
        rw [hP, decide_eq_true h] at hm2
        have hR := HR.out
        rw [hP, if_pos h] at hR
        subst hR
        subst hP
        have HM2 := Lib.hid hm2
        clear hm2 h
        go_wp2_with (go_at_call 38
                     refine HM2.out.mono ?_
                     rintro ev w2 ⟨rfl, b2⟩
                     have HB4 := Lib.hid (HBx.out.trans (b2.mono HBx.out.size))
                     have HK4 := Lib.hid (HKx.out.below b2 HKx.out.lt)
                     obtain ⟨c0', c1', c2', c3', c4'⟩ := (HPx.out.below b2 HPx.out.lt).five
                     have d0 : w2.cell? ⟨w.heap.size, 0, none⟩ = some (.int .i64 0) := HK4.out.cell 0
                     have d1 : w2.cell? ⟨w.heap.size, 1, none⟩ = some (.int .u32 0) := HK4.out.cell 1
                     have d2 : w2.cell? ⟨w.heap.size, 2, none⟩ = some (.int .u32 0) := HK4.out.cell 2
                     have d3 : w2.cell? ⟨w.heap.size, 3, none⟩ = some (.int .u32 0) := HK4.out.cell 3
                     have d4 : w2.cell? ⟨w.heap.size, 4, none⟩ = some (.int .u32 0) := HK4.out.cell 4
                     have fr : ∀ i, w2.frozen? ⟨w.heap.size, i, none⟩ = false := fun i => HK4.out.frozen i
                     clear b2)
        obtain ⟨wf, hwf⟩ : ∃ wf, set5 w2 w.heap.size (.int .i64 (n0 : Int)) (.int .u32 (n1 : Int)) (.int .u32 (n2 : Int)) (.int .u32 (n3 : Int)) (.int .u32 (n4 : Int)) = wf := ⟨_, rfl⟩
        have HXF := Lib.hid (HK4.out.set5 (.int .i64 (n0 : Int)) (.int .u32 (n1 : Int)) (.int .u32 (n2 : Int)) (.int .u32 (n3 : Int)) (.int .u32 (n4 : Int)))
        have HBF := Lib.hid (below_set5 HB4.out (Nat.le_refl w.heap.size) (.int .i64 (n0 : Int)) (.int .u32 (n1 : Int)) (.int .u32 (n2 : Int)) (.int .u32 (n3 : Int)) (.int .u32 (n4 : Int)))
        rw [hwf] at HXF HBF
        simp only [set5] at hwf
        rw [hwf]
        clear hwf d0 d1 d2 d3 d4 fr
        have e0 := HXF.out.cell 0
        have e1 := HXF.out.cell 1
        have e2 := HXF.out.cell 2
        have e3 := HXF.out.cell 3
        have e4 := HXF.out.cell 4
        exact bodyPost_ret (v := .tuple #[ptV ((n0 : Int), n1, n2, n3, n4), .int .i64 0]) (by simp [results, Tryz.f81, go_sem, e0, e1, e2, e3, e4]) rfl ⟨rfl, HBF.out⟩
      · have hm2 := HM.out wc
        rw [hP, decide_eq_false h] at hm2
        have hR := HR.out
        rw [hP, if_neg h] at hR
        subst hR
        have HM2 := Lib.hid hm2
        rw [← hP] at HM2
        clear hm2 h
        go_wp2_with (go_at_call 38
                     refine HM2.out.mono ?_
                     rintro ev w2 ⟨rfl, b2⟩
                     have HB4 := Lib.hid (HBx.out.trans (b2.mono HBx.out.size))
                     have HK4 := Lib.hid (HKx.out.below b2 HKx.out.lt)
                     have d0 : w2.cell? ⟨w.heap.size, 0, none⟩ = some (.int .i64 0) := HK4.out.cell 0
                     have d1 : w2.cell? ⟨w.heap.size, 1, none⟩ = some (.int .u32 0) := HK4.out.cell 1
                     have d2 : w2.cell? ⟨w.heap.size, 2, none⟩ = some (.int .u32 0) := HK4.out.cell 2
                     have d3 : w2.cell? ⟨w.heap.size, 3, none⟩ = some (.int .u32 0) := HK4.out.cell 3
                     have d4 : w2.cell? ⟨w.heap.size, 4, none⟩ = some (.int .u32 0) := HK4.out.cell 4
                     have fr : ∀ i, w2.frozen? ⟨w.heap.size, i, none⟩ = false := fun i => HK4.out.frozen i
                     clear b2)
        obtain ⟨wf, hwf⟩ : ∃ wf, set5 w2 w.heap.size (.int .i64 0) (.int .u32 0) (.int .u32 0) (.int .u32 0) (.int .u32 0) = wf := ⟨_, rfl⟩
        have HXF := Lib.hid (HK4.out.set5 (.int .i64 0) (.int .u32 0) (.int .u32 0) (.int .u32 0) (.int .u32 0))
        have HBF := Lib.hid (below_set5 HB4.out (Nat.le_refl w.heap.size) (.int .i64 0) (.int .u32 0) (.int .u32 0) (.int .u32 0) (.int .u32 0))
        rw [hwf] at HXF HBF
        simp only [set5] at hwf
        rw [hwf]
        clear hwf d0 d1 d2 d3 d4 fr
        have e0 := HXF.out.cell 0
        have e1 := HXF.out.cell 1
        have e2 := HXF.out.cell 2
        have e3 := HXF.out.cell 3
        have e4 := HXF.out.cell 4
        exact bodyPost_ret (v := .tuple #[ptV p0, .int .i64 8]) (by simp [results, Tryz.f81, go_sem, e0, e1, e2, e3, e4]) rfl ⟨rfl, HBF.out⟩
  · rw [if_neg h16]
    have hne : ¬ (len : Int) = 16 := by omega
    have d0 : (w.alloc (.cells #[.int .i64 0, .int .u32 0, .int .u32 0, .int .u32 0, .int .u32 0] 28)).cell? ⟨w.heap.size, 0, none⟩ = some (.int .i64 0) := HK.out.cell 0
    have d1 : (w.alloc (.cells #[.int .i64 0, .int .u32 0, .int .u32 0, .int .u32 0, .int .u32 0] 28)).cell? ⟨w.heap.size, 1, none⟩ = some (.int .u32 0) := HK.out.cell 1
    have d2 : (w.alloc (.cells #[.int .i64 0, .int .u32 0, .int .u32 0, .int .u32 0, .int .u32 0] 28)).cell? ⟨w.heap.size, 2, none⟩ = some (.int .u32 0) := HK.out.cell 2
    have d3 : (w.alloc (.cells #[.int .i64 0, .int .u32 0, .int .u32 0, .int .u32 0, .int .u32 0] 28)).cell? ⟨w.heap.size, 3, none⟩ = some (.int .u32 0) := HK.out.cell 3
    have d4 : (w.alloc (.cells #[.int .i64 0, .int .u32 0, .int .u32 0, .int .u32 0, .int .u32 0] 28)).cell? ⟨w.heap.size, 4, none⟩ = some (.int .u32 0) := HK.out.cell 4
    have fr : ∀ i, (w.alloc (.cells #[.int .i64 0, .int .u32 0, .int .u32 0, .int .u32 0, .int .u32 0] 28)).frozen? ⟨w.heap.size, i, none⟩ = false := fun i => HK.out.frozen i
    go_enter Tryz.func81, Tryz.ntmps81
    go_wp2_with fail
    exact bodyPost_ret (v := .tuple #[ptV p0, .int .i64 3]) (by simp [results, Tryz.f81, go_sem, d0, d1, d2, d3, d4]) rfl ⟨rfl, HB1.out⟩
end Go.Proofs.YtldnelimemjaiaaGreatDoor
/-
  Two arrays of four words are compared as one: equal just where each word is.
-/
namespace Go.Proofs.YtldnelimemjaiaaGreatDoor
open Go.RowKit Go.Shelf
set_option maxRecDepth 100000

/-- Are the four words the same? -/
def eqW (x y : W4) : Bool := x.a == y.a && (x.b == y.b && (x.c == y.c && x.d == y.d))
theorem eqW_iff (x y : W4) : eqW x y = true ↔ x = y := by
  obtain ⟨a, b, c, d⟩ := x
  obtain ⟨a', b', c', d'⟩ := y
  simp [eqW]
theorem eqW_self (x : W4) : eqW x x = true := (eqW_iff x x).2 rfl
theorem natcast_beq (x y : BitVec 32) : (((x.toNat : Nat) : Int) == ((y.toNat : Nat) : Int)) = (x == y) := by
  rw [Bool.eq_iff_iff]
  simp only [beq_iff_eq]
  constructor
  · intro h
    exact BitVec.eq_of_toNat_eq (by omega)
  · intro h; rw [h]
theorem u22 : Tryz.prog.underlying 26 = some (.int .u32) := by kernel_rfl
theorem p22 (cs : Array Value) (i : Nat) (v : Value) (h : cs[i]? = some v) (w : World) : (part 26 cs i).run Tryz.prog w = .ok v w := run_part_plain w (by kernel_rfl) h
theorem z22 (w : World) : (Go.sizeOf 26).run Tryz.prog w = .ok 1 w := by kernel_rfl
theorem eql4 (x y : W4) (w : World) : (Op.equalIn 10000 96 (ag x) (ag y)).run Tryz.prog w = .ok (eqW x y) w := by
  have hu : Tryz.prog.underlying 96 = some (.array 4 26) := by kernel_rfl
  unfold Op.equalIn
  simp only [Sem.run_bind, run_underlying hu, Result.andThen_ok, z22]
  rw [Std.Legacy.Range.forIn_eq_forIn_range']
  have hr : List.range' (0 : Nat) 4 1 = [0, 1, 2, 3] := rfl
  have h0 : ∀ (v : BitVec 32) (z : BitVec 32) (w : World), (Op.equalIn 9999 26 (.int .u32 (v.toNat : Int)) (.int .u32 (z.toNat : Int))).run Tryz.prog w = .ok (v == z) w := fun v z w => by rw [run_equalIn_int w 9998 26 .u32 .u32 _ _ u22, natcast_beq]
  simp only [Std.Legacy.Range.size, Nat.sub_zero, Nat.add_sub_cancel, Nat.div_one, hr, List.forIn_cons, List.forIn_nil, Sem.run_bind]
  rw [p22 _ _ (.int .u32 (x.a.toNat : Int)) rfl, Result.andThen_ok, p22 _ _ (.int .u32 (y.a.toNat : Int)) rfl, Result.andThen_ok, h0, Result.andThen_ok]
  cases ha : (x.a == y.a)
  · simp [eqW, ha]
  · simp only [Bool.not_true, Bool.false_eq_true, if_false, Sem.run_pure, Result.andThen_ok, Sem.run_bind]
    rw [p22 _ _ (.int .u32 (x.b.toNat : Int)) rfl, Result.andThen_ok, p22 _ _ (.int .u32 (y.b.toNat : Int)) rfl, Result.andThen_ok, h0, Result.andThen_ok]
    cases hb : (x.b == y.b)
    · simp [eqW, ha, hb]
    · simp only [Bool.not_true, Bool.false_eq_true, if_false, Sem.run_pure, Result.andThen_ok, Sem.run_bind]
      rw [p22 _ _ (.int .u32 (x.c.toNat : Int)) rfl, Result.andThen_ok, p22 _ _ (.int .u32 (y.c.toNat : Int)) rfl, Result.andThen_ok, h0, Result.andThen_ok]
      cases hc : (x.c == y.c)
      · simp [eqW, ha, hb, hc]
      · simp only [Bool.not_true, Bool.false_eq_true, if_false, Sem.run_pure, Result.andThen_ok, Sem.run_bind]
        rw [p22 _ _ (.int .u32 (x.d.toNat : Int)) rfl, Result.andThen_ok, p22 _ _ (.int .u32 (y.d.toNat : Int)) rfl, Result.andThen_ok, h0, Result.andThen_ok]
        cases hd : (x.d == y.d)
        · simp [eqW, ha, hb, hc, hd]
        · simp [eqW, ha, hb, hc, hd]

/-- The run of == over words, as the walk meets it. -/
theorem eql4_lit (a b c d a' b' c' d' : BitVec 32) (w : World) : (Op.equalIn 10000 96 (.agg #[.int .u32 (a.toNat : Int), .int .u32 (b.toNat : Int), .int .u32 (c.toNat : Int), .int .u32 (d.toNat : Int)]) (.agg #[.int .u32 (a'.toNat : Int), .int .u32 (b'.toNat : Int), .int .u32 (c'.toNat : Int), .int .u32 (d'.toNat : Int)])).run Tryz.prog w = .ok (eqW ⟨a, b, c, d⟩ ⟨a', b', c', d'⟩) w := eql4 ⟨a, b, c, d⟩ ⟨a', b', c', d'⟩ w
end Go.Proofs.YtldnelimemjaiaaGreatDoor
/-
  Four integers that fit uint32 are four words.
-/
namespace Go.Proofs.YtldnelimemjaiaaGreatDoor
open Go.RowKit Go.Shelf
set_option maxRecDepth 100000

theorem u32_of_wf {z : Int} (h : (Lit.int .u32 z).wf = true) : 0 ≤ z ∧ z ≤ 4294967295 := by simpa [Lit.wf, IntKind.min, IntKind.max, IntKind.signed, IntKind.bits] using h
theorem u8_of_wf {z : Int} (h : (Lit.int .u8 z).wf = true) : 0 ≤ z ∧ z ≤ 255 := by simpa [Lit.wf, IntKind.min, IntKind.max, IntKind.signed, IntKind.bits] using h
theorem u16_of_wf {z : Int} (h : (Lit.int .u16 z).wf = true) : 0 ≤ z ∧ z ≤ 65535 := by simpa [Lit.wf, IntKind.min, IntKind.max, IntKind.signed, IntKind.bits] using h
theorem wd_of {z : Int} (h : (Lit.int .u32 z).wf = true) : ∃ x : BitVec 32, (x.toNat : Int) = z := by
  obtain ⟨h1, h2⟩ := u32_of_wf h
  obtain ⟨n, rfl⟩ := Int.eq_ofNat_of_zero_le h1
  exact ⟨BitVec.ofNat 32 n, by rw [BitVec.toNat_ofNat]; congr 1; exact Nat.mod_eq_of_lt (by omega)⟩
theorem w4_of (z : List Int) (l : z.length = 4) (w : ∀ x ∈ z, (Lit.int .u32 x).wf = true) : ∃ x : W4, (Value.agg (z.map (Value.int .u32)).toArray) = ag x := by
  match z, l, w with
  | [a, b, c, d], _, w =>
    obtain ⟨x0, h0⟩ := wd_of (w a (by simp))
    obtain ⟨x1, h1⟩ := wd_of (w b (by simp))
    obtain ⟨x2, h2⟩ := wd_of (w c (by simp))
    obtain ⟨x3, h3⟩ := wd_of (w d (by simp))
    exact ⟨⟨x0, x1, x2, x3⟩, by simp [h0, h1, h2, h3]⟩
end Go.Proofs.YtldnelimemjaiaaGreatDoor
/-
  What the document's own Turn, Back, Four, Sum and Key answer is what mix.Turn, Back, Four, Sum and Key answer.
-/
namespace Go.Proofs.YtldnelimemjaiaaGreatDoor
open Go.RowKit Go.Shelf
set_option maxRecDepth 100000

theorem rplus_any (x y : BitVec 32) (w : World) : Calls Tryz.prog 115 #[.int .u32 (x.toNat : Int), .int .u32 (y.toNat : Int)] w fun e w' => e = .returned (.int .u32 ((pl x y).toNat : Int)) ∧ w = w' := by
  have x0 : (0 : Int) ≤ (x.toNat : Int) := by omega
  have x1 : (x.toNat : Int) ≤ 4294967295 := by have := x.isLt; omega
  have y0 : (0 : Int) ≤ (y.toNat : Int) := by omega
  have y1 : (y.toNat : Int) ≤ 4294967295 := by have := y.isLt; omega
  have z0 : (0 : Int) ≤ ((pl x y).toNat : Int) := by omega
  have z1 : ((pl x y).toNat : Int) ≤ 4294967295 := by have := (pl x y).isLt; omega
  have e1 := add32 x y
  go_enter Tryz.func115, Tryz.ntmps115
  go_wp2
  go_ret
  exact ⟨rfl, rfl⟩
theorem rleft_any (x : BitVec 32) (n : Nat) (hn : n < 32) (w : World) : Calls Tryz.prog 116 #[.int .u32 (x.toNat : Int), .int .i64 n] w fun e w' => e = .returned (.int .u32 ((ro n x).toNat : Int)) ∧ w = w' := by
  have x0 : (0 : Int) ≤ (x.toNat : Int) := by omega
  have x1 : (x.toNat : Int) ≤ 4294967295 := by have := x.isLt; omega
  go_enter Tryz.func116, Tryz.ntmps116
  go_wp2_with fail
  go_loop [5, 6] (fun v i => ∃ k : Nat, k ≤ n ∧ i = .int .i64 k ∧ v = .int .i64 ((ro k x).toNat : Int)) (fun _ i => n - (intOf i).toNat)
  case atStart => exact ⟨0, Nat.zero_le _, rfl, by rw [ro_0]⟩
  case round =>
    obtain ⟨k, hk, rfl, rfl⟩ := hrel
    obtain ⟨v, hv⟩ : ∃ v : Nat, (ro k x).toNat = v := ⟨_, rfl⟩
    have hvl : v < 4294967296 := by rw [← hv]; exact (ro k x).isLt
    by_cases hlt : k < n
    · have hs := ro_succ k (by omega) x
      rw [hv] at hs ⊢
      have HS := Lib.hid hs; clear hs hv
      have v0 : (0 : Int) ≤ v := by omega
      have v1 : (v : Int) ≤ 4294967295 := by omega
      go_wp2
      go_round
      case rel => exact ⟨k + 1, by omega, by go_num, by rw [HS.out]; congr 1⟩
      case measure => simp [intOf]; omega
    · obtain rfl : k = n := by omega
      rw [hv]
      have v0 : (0 : Int) ≤ v := by omega
      have v1 : (v : Int) ≤ 4294967295 := by omega
      have HV := Lib.hid hv; clear hv
      go_wp2
      go_ret
      exact ⟨ret_int (by rw [HV.out]), rfl⟩

set_option maxHeartbeats 2000000 in
theorem rturn_any (x : W4) (w : World) : Calls Tryz.prog 110 #[ag x] w fun e w' => e = .returned (ag (turnW x)) ∧ Below w.heap.size w w' := by
  have r2 := xor32
  obtain ⟨a, b, c, d⟩ := x
  go_enter Tryz.func110, Tryz.ntmps110
  go_wp2_with fail
  refine (rplus_any _ _ _).mono ?_; rintro e w' ⟨rfl, rfl⟩
  go_wp2_with fail
  refine (rleft_any _ 15 (by omega) _).mono ?_; rintro e w' ⟨rfl, rfl⟩
  go_wp2_with fail
  refine (rplus_any _ _ _).mono ?_; rintro e w' ⟨rfl, rfl⟩
  go_wp2_with fail
  refine (rleft_any _ 11 (by omega) _).mono ?_; rintro e w' ⟨rfl, rfl⟩
  go_wp2_with fail
  refine (rplus_any _ _ _).mono ?_; rintro e w' ⟨rfl, rfl⟩
  go_wp2_with fail
  refine (rleft_any _ 9 (by omega) _).mono ?_; rintro e w' ⟨rfl, rfl⟩
  go_wp2_with fail
  refine (rplus_any _ _ _).mono ?_; rintro e w' ⟨rfl, rfl⟩
  go_wp2_with fail
  refine (rleft_any _ 6 (by omega) _).mono ?_; rintro e w' ⟨rfl, rfl⟩
  go_wp2_with fail
  exact bodyPost_ret (v := ag (turnW ⟨a, b, c, d⟩)) (by simp [results, Tryz.results110, go_sem, turnW, halfT]) rfl ⟨rfl, ((Below.refl _ w).alloc (Nat.le_refl _) _).alloc (by simp) _⟩
theorem rbyte_any (a : Option Addr) (len cap : Nat) (s : List UInt8) (i : Nat) (B : Nat) (w : World) (hA : Bsl w B a len cap s) (hi : i ≤ 1000000) (hl : len ≤ 1000000) :
    Calls Tryz.prog 114 #[.slice a len cap, .int .i64 i] w fun e w' => e = .returned (.int .u32 ((byteP s i).toNat : Int)) ∧ w = w' := by
  have hsl := hA.1
  have i0 : (0 : Int) ≤ i := by omega
  by_cases h1 : i < len
  · obtain ⟨b, off, rfl, hb, hc⟩ := hA.2.2.2.2 (by omega)
    have hcc := hc i (by omega)
    have e : byteP s i = s[i]'(by omega) := by unfold byteP; rw [dif_pos (by omega)]
    rw [e]
    obtain ⟨v, hv⟩ : ∃ v : Nat, (s[i]'(by omega)).toNat = v := ⟨_, rfl⟩
    rw [hv] at hcc ⊢
    have v0 : (0 : Int) ≤ v := by omega
    have v1 : (v : Int) ≤ 255 := by have := (s[i]'(by omega)).toNat_lt; omega
    have i1 : (i : Int) < len := by omega
    clear hv e hA hc hsl
    go_enter Tryz.func114, Tryz.ntmps114
    go_wp2
    go_ret
    exact ⟨rfl, rfl⟩
  · have i1 : ¬ (i : Int) < len := by omega
    by_cases h2 : i = len
    · have e : byteP s i = 1 := by unfold byteP; rw [dif_neg (by omega), if_pos (by omega)]
      rw [e]
      have i2 : ((i : Int) == len) = true := by simp; omega
      clear e hA hsl h1 h2
      go_enter Tryz.func114, Tryz.ntmps114
      go_wp2
      go_ret
      exact ⟨rfl, rfl⟩
    · have e : byteP s i = 0 := by unfold byteP; rw [dif_neg (by omega), if_neg (by omega)]
      rw [e]
      have i2 : ((i : Int) == len) = false := by simp; omega
      clear e hA hsl h1 h2
      go_enter Tryz.func114, Tryz.ntmps114
      go_wp2
      go_ret
      exact ⟨rfl, rfl⟩
theorem rword_any (a : Option Addr) (len cap : Nat) (s : List UInt8) (i : Nat) (B : Nat) (w : World) (hA : Bsl w B a len cap s) (hi : i + 3 ≤ 1000000) (hl : len ≤ 1000000) :
    Calls Tryz.prog 109 #[.slice a len cap, .int .i64 i] w fun e w' => e = .returned (.int .u32 ((wordP s i).toNat : Int)) ∧ w = w' := by
  rw [wordP_toNat]
  unfold quadP
  rw [leN4]
  have q0 := rbyte_any a len cap s i B w hA (by omega) hl
  have q1 := rbyte_any a len cap s (i + 1) B w hA (by omega) hl
  have q2 := rbyte_any a len cap s (i + 2) B w hA (by omega) hl
  have q3 := rbyte_any a len cap s (i + 3) B w hA (by omega) hl
  rw [show ((i + 1 : Nat) : Int) = (i : Int) + 1 by omega] at q1
  rw [show ((i + 2 : Nat) : Int) = (i : Int) + 2 by omega] at q2
  rw [show ((i + 3 : Nat) : Int) = (i : Int) + 3 by omega] at q3
  obtain ⟨b0, h0⟩ : ∃ b0 : Nat, (byteP s i).toNat = b0 := ⟨_, rfl⟩
  obtain ⟨b1, h1⟩ : ∃ b0 : Nat, (byteP s (i + 1)).toNat = b0 := ⟨_, rfl⟩
  obtain ⟨b2, h2⟩ : ∃ b0 : Nat, (byteP s (i + 2)).toNat = b0 := ⟨_, rfl⟩
  obtain ⟨b3, h3⟩ : ∃ b0 : Nat, (byteP s (i + 3)).toNat = b0 := ⟨_, rfl⟩
  have t0 := (byteP s i).toNat_lt
  have t1 := (byteP s (i + 1)).toNat_lt
  have t2 := (byteP s (i + 2)).toNat_lt
  have t3 := (byteP s (i + 3)).toNat_lt
  rw [h0] at t0 q0 ⊢
  rw [h1] at t1 q1 ⊢
  rw [h2] at t2 q2 ⊢
  rw [h3] at t3 q3 ⊢
  have u0 : (0 : Int) ≤ b0 := by omega
  have u1 : (0 : Int) ≤ b1 := by omega
  have u2 : (0 : Int) ≤ b2 := by omega
  have u3 : (0 : Int) ≤ b3 := by omega
  have v0 : (b0 : Int) ≤ 255 := by omega
  have v1 : (b1 : Int) ≤ 255 := by omega
  have v2 : (b2 : Int) ≤ 255 := by omega
  have v3 : (b3 : Int) ≤ 255 := by omega
  have i0 : (0 : Int) ≤ i := by omega
  have i1 : (i : Int) ≤ 1000000 := by omega
  have Q0 := Lib.hid q0; clear q0
  have Q1 := Lib.hid q1; clear q1
  have Q2 := Lib.hid q2; clear q2
  have Q3 := Lib.hid q3; clear q3
  clear h0 h1 h2 h3 hA
  go_enter Tryz.func109, Tryz.ntmps109
  go_wp2_with fail
  refine Q0.out.mono ?_; rintro e w' ⟨rfl, rfl⟩
  go_wp2_with fail
  refine Q1.out.mono ?_; rintro e w' ⟨rfl, rfl⟩
  go_wp2_with fail
  refine Q2.out.mono ?_; rintro e w' ⟨rfl, rfl⟩
  go_wp2_with fail
  refine Q3.out.mono ?_; rintro e w' ⟨rfl, rfl⟩
  go_wp2_with fail
  go_ret
  exact ⟨rfl, rfl⟩
end Go.Proofs.YtldnelimemjaiaaGreatDoor
/-
  What the document's own Four, Sum and Key answer is what mix.Four, Sum and Key answer.
-/
namespace Go.Proofs.YtldnelimemjaiaaGreatDoor
open Go.RowKit Go.Shelf
set_option maxRecDepth 100000

set_option maxHeartbeats 4000000 in
theorem rfour_any (a : Option Addr) (len cap : Nat) (s : List UInt8) (w : World) (hA : Bsl w w.heap.size a len cap s) (hl : len ≤ 100000) :
    Calls Tryz.prog 96 #[.slice a len cap] w fun e w' => e = .returned (ag (fourW s)) ∧ Below w.heap.size w w' := by
  have hmx : Tryz.prog.follows Departure.mixedOrders = true := by kernel_rfl
  have r2 := xor32
  have l0 : (0 : Int) ≤ len := by omega
  have l1 : (len : Int) ≤ 100000 := by omega
  obtain ⟨g, hg⟩ : ∃ g, w.heap.size = g := ⟨_, rfl⟩
  obtain ⟨W0, hW0⟩ : ∃ W0, ((w.alloc (Obj.cells #[Value.int IntKind.u32 0, Value.int IntKind.u32 0, Value.int IntKind.u32 0, Value.int IntKind.u32 0] 96)).alloc (Obj.cells #[Value.int IntKind.u32 1, Value.int IntKind.u32 2, Value.int IntKind.u32 3, Value.int IntKind.u32 4] 96)) = W0 := ⟨_, rfl⟩
  have hB0 : Below w.heap.size w W0 := by rw [← hW0]; exact ((Below.refl _ w).alloc (Nat.le_refl _) _).alloc (by simp) _
  have b0 : Blk W0 g 96 #[.int .u32 0, .int .u32 0, .int .u32 0, .int .u32 0] := by rw [← hW0, ← hg]; exact (Blk.new w _ _).alloc _
  have b1 : Blk W0 (g + 1) 96 (cl ⟨1, 2, 3, 4⟩) := by
    have := (Blk.new (w.alloc (Obj.cells #[Value.int IntKind.u32 0, Value.int IntKind.u32 0, Value.int IntKind.u32 0, Value.int IntKind.u32 0] 96)) 96 (cl ⟨1, 2, 3, 4⟩))
    rw [World.size_alloc, hg] at this
    rw [← hW0]
    exact this
  have wd : ∀ (i : Nat) (W : World), i ≤ 200000 → Below w.heap.size w W → Calls Tryz.prog 109 #[.slice a len cap, .int .i64 i] W fun e w' => e = .returned (.int .u32 ((wordP s i).toNat : Int)) ∧ w' = W := fun i W hi hW =>
    (rword_any a len cap s i _ W (hA.below hW) (by omega) (by omega)).mono fun _ _ h => ⟨h.1, h.2.symm⟩
  have hsl := hA.1
  have WD := Lib.hid wd; clear wd hA
  have HSL := Lib.hid hsl; clear hsl
  have HW0 := Lib.hid hW0; clear hW0
  have HBe := Lib.hid hB0; clear hB0
  have HB0 := Lib.hid b0; clear b0
  have HB1 := Lib.hid b1; clear b1
  go_enter Tryz.func96, Tryz.ntmps96
  go_wp2_with fail
  rw [HW0.out]
  have HG := Lib.hid hg; clear hg
  go_loopw [4] (fun i wr => ∃ k : Nat, k ≤ len / 8 + 1 ∧ i = .int .i64 ((8 * k : Nat) : Int) ∧ Blk wr (g + 1) 96 (cl (behind s k)) ∧ Blk wr g 96 #[.int .u32 0, .int .u32 0, .int .u32 0, .int .u32 0] ∧ Below w.heap.size w wr) (fun i _ => 200000 - (intOf i).toNat)
  case atStart => exact ⟨0, Nat.zero_le _, rfl, HB1.out, HB0.out, HBe.out⟩
  case round =>
    obtain ⟨k, hk, rfl, hx, hr, hbe⟩ := hrel
    obtain ⟨m, hm⟩ : ∃ m : Nat, 8 * k = m := ⟨_, rfl⟩
    rw [hm]
    have m0 : (0 : Int) ≤ m := by omega
    have m1 : (m : Int) ≤ 200000 := by omega
    by_cases hlt : m ≤ len
    · have m2 : (m : Int) ≤ len := by omega
      have m3 : IntKind.i64.wrap ((m : Int) + 4) = (m : Int) + 4 := IntWalk.i64_in _ (by omega)
      obtain ⟨x, hxx⟩ : ∃ x, behind s k = x := ⟨_, rfl⟩
      rw [hxx] at hx
      obtain ⟨p1, hp1⟩ : ∃ p1, wordP s m = p1 := ⟨_, rfl⟩
      obtain ⟨p2, hp2⟩ : ∃ p2, wordP s (m + 4) = p2 := ⟨_, rfl⟩
      have hnx : behind s (k + 1) = turnsW 4 ⟨xo x.a p1, x.b, xo x.c p2, x.d⟩ := by rw [behind, hxx, hm, hp1, hp2]; rfl
      obtain ⟨w1, hw1⟩ : ∃ w1, wr.drew = w1 := ⟨_, rfl⟩
      have hx1 : Blk w1 (g + 1) 96 (cl x) := hw1 ▸ hx.drew
      have hr1 : Blk w1 g 96 _ := hw1 ▸ hr.drew
      have he1 : Below w.heap.size w w1 := hw1 ▸ hbe.drew
      have q1 := WD.out m w1 (by omega) he1
      rw [hp1] at q1
      have HM := Lib.hid hm; clear hm
      have HNX := Lib.hid hnx; clear hnx hxx
      have HP2 := Lib.hid hp2; clear hp2 hp1
      have c0 := hx1.cell 0
      have f := fun i => hx1.frozen i
      have HW1 := Lib.hid hw1; clear hw1
      have HX1 := Lib.hid hx1; clear hx1
      have HR1 := Lib.hid hr1; clear hr1
      have HE1 := Lib.hid he1; clear he1
      have Q1 := Lib.hid q1; clear q1
      clear hx hr hbe
      go_wp2_with fail
      refine region_tail 7 hmx (by kernel_rfl) HW1.out ?_
      simp only [List.take_succ_cons, List.take_zero, List.drop_succ_cons, List.drop_zero]
      repeat still_step
      still_call (Q1.out)
      repeat still_step
      refine wpStill_nil ?_
      go_wp2_with fail
      obtain ⟨w2, hw2⟩ : ∃ w2, (w1.setCell ⟨g + 1, 0, none⟩ (.int .u32 ((xo x.a p1).toNat : Int))).drew = w2 := ⟨_, rfl⟩
      have hx2 : Blk w2 (g + 1) 96 (cl ⟨xo x.a p1, x.b, x.c, x.d⟩) := hw2 ▸ (HX1.out.set_ 0 _).drew
      have hr2 : Blk w2 g 96 _ := hw2 ▸ (HR1.out.far (by simp) _).drew
      have he2 : Below w.heap.size w w2 := hw2 ▸ (HE1.out.setCell (p := ⟨g + 1, 0, none⟩) (by rw [HG.out]; simp) _).drew
      have q2 := WD.out (m + 4) w2 (by omega) he2
      rw [HP2.out, show ((m + 4 : Nat) : Int) = (m : Int) + 4 by omega] at q2
      clear c0 f
      have c0 := hx2.cell 0
      have c1 := hx2.cell 1
      have c2 := hx2.cell 2
      have c3 := hx2.cell 3
      have f := fun i => hx2.frozen i
      have HW2 := Lib.hid hw2; clear hw2
      have HX2 := Lib.hid hx2; clear hx2
      have HR2 := Lib.hid hr2; clear hr2
      have HE2 := Lib.hid he2; clear he2
      have Q2 := Lib.hid q2; clear q2
      refine region_tail 8 hmx (by kernel_rfl) HW2.out ?_
      simp only [List.take_succ_cons, List.take_zero, List.drop_succ_cons, List.drop_zero]
      repeat still_step
      still_call (Q2.out)
      repeat still_step
      refine wpStill_nil ?_
      go_wp2_with fail
      obtain ⟨w3, hw3⟩ : ∃ w3, w2.setCell ⟨g + 1, 2, none⟩ (.int .u32 ((xo x.c p2).toNat : Int)) = w3 := ⟨_, rfl⟩
      have hr3 : Blk w3 g 96 _ := hw3 ▸ HR2.out.far (by simp) _
      have hx3 : Blk w3 (g + 1) 96 (cl ⟨xo x.a p1, x.b, xo x.c p2, x.d⟩) := hw3 ▸ HX2.out.set_ 2 _
      have he3 : Below w.heap.size w w3 := hw3 ▸ HE2.out.setCell (p := ⟨g + 1, 2, none⟩) (by rw [HG.out]; simp) _
      rw [hw3]
      obtain ⟨y, hy⟩ : ∃ y : W4, (⟨xo x.a p1, x.b, xo x.c p2, x.d⟩ : W4) = y := ⟨_, rfl⟩
      have HNY : Hid (behind s (k + 1) = turnsW 4 y) := Lib.hid (by rw [HNX.out, hy])
      rw [hy] at hx3
      have ey : (Value.agg #[.int .u32 ((xo x.a p1).toNat : Int), .int .u32 (x.b.toNat : Int), .int .u32 ((xo x.c p2).toNat : Int), .int .u32 (x.d.toNat : Int)]) = ag y := by rw [← hy]
      clear hw3 c0 c1 c2 c3 f
      refine (rturn_any ⟨xo x.a p1, x.b, xo x.c p2, x.d⟩ w3).mono ?_
      rintro e w4 ⟨rfl, b4⟩
      rw [hy]
      clear hy ey
      have HX3 := Lib.hid (hx3.below b4 hx3.lt)
      have HR3 := Lib.hid (hr3.below b4 hr3.lt)
      have HE3 := Lib.hid (he3.trans (b4.mono he3.size)); clear hx3 hr3 he3 b4
      go_wp2_with fail
      refine (rturn_any (turnW y) w4).mono ?_
      rintro e w5 ⟨rfl, b5⟩
      have HX4 := Lib.hid (HX3.out.below b5 HX3.out.lt)
      have HR4 := Lib.hid (HR3.out.below b5 HR3.out.lt)
      have HE4 := Lib.hid (HE3.out.trans (b5.mono HE3.out.size)); clear b5
      go_wp2_with fail
      refine (rturn_any (turnW (turnW y)) w5).mono ?_
      rintro e w6 ⟨rfl, b6⟩
      have HX5 := Lib.hid (HX4.out.below b6 HX4.out.lt)
      have HR5 := Lib.hid (HR4.out.below b6 HR4.out.lt)
      have HE5 := Lib.hid (HE4.out.trans (b6.mono HE4.out.size)); clear b6
      go_wp2_with fail
      refine (rturn_any (turnW (turnW (turnW y))) w6).mono ?_
      rintro e w7 ⟨rfl, b7⟩
      have hx6 := HX5.out.below b7 HX5.out.lt
      have HR6 := Lib.hid (HR5.out.below b7 HR5.out.lt)
      have HE6 := Lib.hid (HE5.out.trans (b7.mono HE5.out.size)); clear b7
      obtain ⟨z, hz⟩ : ∃ z, turnW (turnW (turnW (turnW y))) = z := ⟨_, rfl⟩
      rw [hz]
      have HNZ : Hid (behind s (k + 1) = z) := Lib.hid (by rw [HNY.out, ← hz]; rfl)
      clear hz
      have c0 := hx6.cell 0
      have c1 := hx6.cell 1
      have c2 := hx6.cell 2
      have c3 := hx6.cell 3
      have f := fun i => hx6.frozen i
      have HX6 := Lib.hid hx6; clear hx6
      go_wp2_with fail
      go_roundw
      case rel => exact ⟨k + 1, by have := HM.out; omega, by have := HM.out; congr 1; omega, by rw [HNZ.out]; exact HX6.out.set4 _ _ _ _, (((HR6.out.far (by simp) _).far (by simp) _).far (by simp) _).far (by simp) _, below_set4 HE6.out (by rw [HG.out]; omega) _ _ _ _⟩
      case measure => simp [intOf]; omega
    · have hkk : k = len / 8 + 1 := by omega
      obtain ⟨x, hxx⟩ : ∃ x, behind s k = x := ⟨_, rfl⟩
      rw [hxx] at hx
      have hfw : fourW s = turnsW 8 ⟨x.a, xo x.b (BitVec.ofNat 32 len), x.c, x.d⟩ := by
        unfold fourW
        rw [HSL.out, ← hkk, hxx]
      have hxl : ∀ x : BitVec 32, bits .xor .u32 (x.toNat : Int) (len : Int) = ((xo x (BitVec.ofNat 32 len)).toNat : Int) := fun x => by
        have e : (BitVec.ofNat 32 len).toNat = len := by rw [BitVec.toNat_ofNat]; exact Nat.mod_eq_of_lt (by omega)
        have := xor32 x (BitVec.ofNat 32 len)
        rwa [e] at this
      have HFW := Lib.hid hfw; clear hfw hxx hkk
      have m2 : ¬ (m : Int) ≤ len := by omega
      have c0 := hx.cell 0
      have c1 := hx.cell 1
      have c2 := hx.cell 2
      have c3 := hx.cell 3
      have f := fun i => hx.frozen i
      have HM := Lib.hid hm; clear hm
      have HX := Lib.hid hx; clear hx
      have HR := Lib.hid hr; clear hr
      have HE := Lib.hid hbe; clear hbe
      go_wp2_with fail
      obtain ⟨w3, hw3⟩ : ∃ w3, wr.setCell ⟨g + 1, 1, none⟩ (.int .u32 ((xo x.b (BitVec.ofNat 32 len)).toNat : Int)) = w3 := ⟨_, rfl⟩
      have hr3 : Blk w3 g 96 _ := hw3 ▸ HR.out.far (by simp) _
      have hx3 : Blk w3 (g + 1) 96 (cl ⟨x.a, xo x.b (BitVec.ofNat 32 len), x.c, x.d⟩) := hw3 ▸ HX.out.set_ 1 _
      have he3 : Below w.heap.size w w3 := hw3 ▸ HE.out.setCell (p := ⟨g + 1, 1, none⟩) (by rw [HG.out]; simp) _
      rw [hw3]
      obtain ⟨y, hy⟩ : ∃ y : W4, (⟨x.a, xo x.b (BitVec.ofNat 32 len), x.c, x.d⟩ : W4) = y := ⟨_, rfl⟩
      have HNY : Hid (fourW s = turnsW 8 y) := Lib.hid (by rw [HFW.out, hy])
      rw [hy] at hx3
      clear hw3 c0 c1 c2 c3 f
      refine (rturn_any ⟨x.a, xo x.b (BitVec.ofNat 32 len), x.c, x.d⟩ w3).mono ?_
      rintro e w4 ⟨rfl, b4⟩
      rw [hy]
      clear hy
      have HX4 := Lib.hid (hx3.below b4 hx3.lt)
      have HR4 := Lib.hid (hr3.below b4 hr3.lt)
      have HE4 := Lib.hid (he3.trans (b4.mono he3.size)); clear hx3 hr3 he3 b4
      go_wp2_with fail
      refine (rturn_any (turnW y) w4).mono ?_
      rintro e w5 ⟨rfl, bb⟩
      have HX5 := Lib.hid (HX4.out.below bb HX4.out.lt)
      have HR5 := Lib.hid (HR4.out.below bb HR4.out.lt)
      have HE5 := Lib.hid (HE4.out.trans (bb.mono HE4.out.size)); clear bb
      go_wp2_with fail
      refine (rturn_any (turnW (turnW y)) w5).mono ?_
      rintro e w6 ⟨rfl, bb⟩
      have HX6 := Lib.hid (HX5.out.below bb HX5.out.lt)
      have HR6 := Lib.hid (HR5.out.below bb HR5.out.lt)
      have HE6 := Lib.hid (HE5.out.trans (bb.mono HE5.out.size)); clear bb
      go_wp2_with fail
      refine (rturn_any (turnW (turnW (turnW y))) w6).mono ?_
      rintro e w7 ⟨rfl, bb⟩
      have HX7 := Lib.hid (HX6.out.below bb HX6.out.lt)
      have HR7 := Lib.hid (HR6.out.below bb HR6.out.lt)
      have HE7 := Lib.hid (HE6.out.trans (bb.mono HE6.out.size)); clear bb
      obtain ⟨z, hz⟩ : ∃ z, turnW (turnW (turnW (turnW y))) = z := ⟨_, rfl⟩
      rw [hz]
      have HNZ : Hid (fourW s = turnsW 4 z) := Lib.hid (by rw [HNY.out, ← hz]; rfl)
      clear hz
      have c0 := HX7.out.cell 0
      have c1 := HX7.out.cell 1
      have c2 := HX7.out.cell 2
      have c3 := HX7.out.cell 3
      have f := fun i => HX7.out.frozen i
      go_wp2_with fail
      obtain ⟨w8, hw8⟩ : ∃ w8, ((((w7.setCell ⟨g + 1, 0, none⟩ (.int .u32 (z.a.toNat : Int))).setCell ⟨g + 1, 1, none⟩ (.int .u32 (z.b.toNat : Int))).setCell ⟨g + 1, 2, none⟩ (.int .u32 (z.c.toNat : Int))).setCell ⟨g + 1, 3, none⟩ (.int .u32 (z.d.toNat : Int))) = w8 := ⟨_, rfl⟩
      have hr8 : Blk w8 g 96 _ := hw8 ▸ (((HR7.out.far (by simp) _).far (by simp) _).far (by simp) _).far (by simp) _
      have he8 : Below w.heap.size w w8 := hw8 ▸ below_set4 HE7.out (by rw [HG.out]; omega) _ _ _ _
      rw [hw8]
      clear hw8 c0 c1 c2 c3 f
      have HR8 := Lib.hid hr8; clear hr8
      have HE8 := Lib.hid he8; clear he8
      refine (rturn_any z w8).mono ?_
      rintro e w9 ⟨rfl, bb⟩
      have HR9 := Lib.hid (HR8.out.below bb HR8.out.lt)
      have HE9 := Lib.hid (HE8.out.trans (bb.mono HE8.out.size)); clear bb
      go_wp2_with fail
      refine (rturn_any (turnW z) w9).mono ?_
      rintro e w10 ⟨rfl, bb⟩
      have HR10 := Lib.hid (HR9.out.below bb HR9.out.lt)
      have HE10 := Lib.hid (HE9.out.trans (bb.mono HE9.out.size)); clear bb
      go_wp2_with fail
      refine (rturn_any (turnW (turnW z)) w10).mono ?_
      rintro e w11 ⟨rfl, bb⟩
      have HR11 := Lib.hid (HR10.out.below bb HR10.out.lt)
      have HE11 := Lib.hid (HE10.out.trans (bb.mono HE10.out.size)); clear bb
      go_wp2_with fail
      refine (rturn_any (turnW (turnW (turnW z))) w11).mono ?_
      rintro e w12 ⟨rfl, bb⟩
      have HR12 := Lib.hid (HR11.out.below bb HR11.out.lt)
      have HE12 := Lib.hid (HE11.out.trans (bb.mono HE11.out.size)); clear bb
      obtain ⟨v, hv⟩ : ∃ v, turnW (turnW (turnW (turnW z))) = v := ⟨_, rfl⟩
      rw [hv]
      have HNV : Hid (fourW s = v) := Lib.hid (by rw [HNZ.out, ← hv]; rfl)
      clear hv
      have d0 := HR12.out.cell 0
      have d1 := HR12.out.cell 1
      have d2 := HR12.out.cell 2
      have d3 := HR12.out.cell 3
      have f := fun i => HR12.out.frozen i
      go_wp2_with fail
      have hR := HR12.out.set4 (.int .u32 (v.a.toNat : Int)) (.int .u32 (v.b.toNat : Int)) (.int .u32 (v.c.toNat : Int)) (.int .u32 (v.d.toNat : Int))
      have e0 := hR.cell 0
      have e1 := hR.cell 1
      have e2 := hR.cell 2
      have e3 := hR.cell 3
      have E := below_set4 HE12.out (g := g) (by rw [HG.out]; exact Nat.le_refl _) (.int .u32 (v.a.toNat : Int)) (.int .u32 (v.b.toNat : Int)) (.int .u32 (v.c.toNat : Int)) (.int .u32 (v.d.toNat : Int))
      clear hR
      exact bodyPost_ret (v := ag v) (by simp [results, Tryz.results96, go_sem, e0, e1, e2, e3]) rfl ⟨by rw [HNV.out], E⟩

theorem rsum_any (a : Option Addr) (len cap : Nat) (s : List UInt8) (w : World) (hA : Bsl w w.heap.size a len cap s) (hlen : len ≤ 100000) :
    Calls Tryz.prog 68 #[.slice a len cap] w fun e W' => e = .returned (.int .u32 ((fourW s).a.toNat : Int)) ∧ Below w.heap.size w W' := by
  have hf := rfour_any a len cap s w hA hlen
  have HF := Lib.hid hf; clear hf hA
  obtain ⟨x, hx⟩ : ∃ x, fourW s = x := ⟨_, rfl⟩
  rw [hx] at HF ⊢
  clear hx
  have hi : ∀ W : World, (Instr.index 96 (ag x) (.int .i64 0)).run Tryz.prog W = .ok (.int .u32 (x.a.toNat : Int)) W := fun W => by kernel_rfl
  go_enter Tryz.func68, Tryz.ntmps68
  go_wp2_with fail
  refine HF.out.mono ?_
  rintro e W1 ⟨rfl, b1⟩
  have HB := Lib.hid b1; clear b1
  go_wp2_with fail
  go_ret
  exact ⟨rfl, HB.out⟩
end Go.Proofs.YtldnelimemjaiaaGreatDoor
/-
  The document's own Slot, May and Block of labels.
-/
namespace Go.Proofs.YtldnelimemjaiaaGreatDoor
open Go.RowKit Go.Shelf
set_option maxRecDepth 100000

theorem rlSlot_any (g : Nat) (_hg : g < 4294967296) (w : World) : Calls Tryz.prog 12 #[.int .u32 (g : Int)] w fun e w' => e = .returned (.int .i64 ((g % 4 : Nat) : Int)) ∧ w = w' := by
  have i0 : (0 : Int) ≤ (g : Int) := by omega
  have i1 : (g : Int) ≤ 4294967295 := by omega
  have e1 : ((g % 4 : Nat) : Int) = (g : Int) % 4 := by omega
  rw [e1]
  have i2 : (0 : Int) ≤ (g : Int) % 4 := by omega
  have i3 : (g : Int) % 4 ≤ 3 := by omega
  go_enter Tryz.func12, Tryz.ntmps12
  go_wp2_with fail
  go_ret
  exact ⟨rfl, rfl⟩
theorem rlMay_any (l : Lb) (w : World) : Calls Tryz.prog 18 #[lbV l] w fun e w' => e = .returned (.bool (decide (MayL l))) ∧ Below w.heap.size w w' := by
  obtain ⟨w0, hw0⟩ : ∃ w0, w.alloc (.cells (lbC l).toArray 30) = w0 := ⟨_, rfl⟩
  have hb1 : Below w.heap.size w w0 := by rw [← hw0]; exact (Below.refl _ w).alloc (Nat.le_refl _) _
  have hk : Blk w0 w.heap.size 30 (lbC l).toArray := by rw [← hw0]; exact Blk.new w _ _
  have HB := Lib.hid hb1
  have HK := Lib.hid hk
  have hm : decide (MayL l) = (decide (1 ≤ l.1) && (decide (l.1 ≤ 16777215) && (decide (1 ≤ l.2.1) && (decide (l.2.1 ≤ 65535) && (decide (MayP l.2.2) && !eqP l.2.2 p0))))) := by
    rw [Bool.eq_iff_iff]
    simp only [MayL, eqP, Bool.and_eq_true, decide_eq_true_eq, Bool.not_eq_true', decide_eq_false_iff_not]
    constructor
    · intro h; have h := of_decide_eq_true h; exact ⟨h.1.1, h.1.2, h.2.1.1, h.2.1.2, h.2.2.2, h.2.2.1⟩
    · rintro ⟨h1, h2, h3, h4, h5, h6⟩; exact decide_eq_true ⟨⟨h1, h2⟩, ⟨h3, h4⟩, h6, h5⟩
  have h1 := fun W => rpMay_any l.2.2 W
  have h2 := fun W => rpNone_any l.2.2 W
  obtain ⟨r5, hr5⟩ : ∃ r, decide (MayP l.2.2) = r := ⟨_, rfl⟩
  obtain ⟨r6, hr6⟩ : ∃ r, eqP l.2.2 p0 = r := ⟨_, rfl⟩
  rw [hr5] at h1 hm
  rw [hr6] at h2 hm
  rw [hm]
  clear hm hr5 hr6 hb1
  obtain ⟨g, e, a, b, c, d, f⟩ := l
  obtain ⟨c0, c1, c2, c3, c4, c5, c6⟩ := hk.seven
  simp only [lbC] at hw0
  have H1 := Lib.hid h1
  have H2 := Lib.hid h2
  clear h1 h2 hk
  by_cases k1 : 1 ≤ g
  · have i1 : (1 : Int) ≤ (g : Int) := by omega
    rw [decide_eq_true (show 1 ≤ (g, e, a, b, c, d, f).1 from k1)]
    by_cases k2 : g ≤ 16777215
    · have i2 : (g : Int) ≤ 16777215 := by omega
      rw [decide_eq_true (show (g, e, a, b, c, d, f).1 ≤ 16777215 from k2)]
      by_cases k3 : 1 ≤ e
      · have i3 : (1 : Int) ≤ (e : Int) := by omega
        rw [decide_eq_true (show 1 ≤ (g, e, a, b, c, d, f).2.1 from k3)]
        by_cases k4 : e ≤ 65535
        · have i4 : (e : Int) ≤ 65535 := by omega
          rw [decide_eq_true (show (g, e, a, b, c, d, f).2.1 ≤ 65535 from k4)]
          cases r5 with
          | true =>
            clear k1 k2 k3 k4
            go_enter Tryz.func18, Tryz.ntmps18
            go_wp2_with (first
              | (go_at_call 38
                 refine (H1.out _).mono ?_
                 rintro ev w1 ⟨rfl, b1⟩
                 have HB1 := Lib.hid (HB.out.trans (b1.mono HB.out.size))
                 obtain ⟨d0, d1, d2, d3, d4, d5, d6⟩ := (HK.out.below b1 HK.out.lt).seven
                 clear b1)
              | (go_at_call 39
                 refine (H2.out _).mono ?_
                 rintro ev w2 ⟨rfl, b2⟩
                 have HB2 := Lib.hid (HB1.out.trans (b2.mono HB1.out.size))
                 clear b2))
            go_ret
            exact ⟨by simp, HB2.out⟩
          | false =>
            clear k1 k2 k3 k4
            go_enter Tryz.func18, Tryz.ntmps18
            go_wp2_with (go_at_call 38
                         refine (H1.out _).mono ?_
                         rintro ev w1 ⟨rfl, b1⟩
                         have HB1 := Lib.hid (HB.out.trans (b1.mono HB.out.size))
                         clear b1)
            go_ret
            exact ⟨by simp, HB1.out⟩
        · have i4 : ¬ (e : Int) ≤ 65535 := by omega
          rw [decide_eq_false (show ¬ (g, e, a, b, c, d, f).2.1 ≤ 65535 from k4)]
          go_enter Tryz.func18, Tryz.ntmps18
          go_wp2_with fail
          go_ret
          exact ⟨by simp, HB.out⟩
      · have i3 : ¬ (1 : Int) ≤ (e : Int) := by omega
        rw [decide_eq_false (show ¬ 1 ≤ (g, e, a, b, c, d, f).2.1 from k3)]
        go_enter Tryz.func18, Tryz.ntmps18
        go_wp2_with fail
        go_ret
        exact ⟨by simp, HB.out⟩
    · have i2 : ¬ (g : Int) ≤ 16777215 := by omega
      rw [decide_eq_false (show ¬ (g, e, a, b, c, d, f).1 ≤ 16777215 from k2)]
      go_enter Tryz.func18, Tryz.ntmps18
      go_wp2_with fail
      go_ret
      exact ⟨by simp, HB.out⟩
  · have i1 : ¬ (1 : Int) ≤ (g : Int) := by omega
    rw [decide_eq_false (show ¬ 1 ≤ (g, e, a, b, c, d, f).1 from k1)]
    go_enter Tryz.func18, Tryz.ntmps18
    go_wp2_with fail
    go_ret
    exact ⟨by simp, HB.out⟩
end Go.Proofs.YtldnelimemjaiaaGreatDoor
/-
  append(b, make([]byte, m)...) where b is a row of the call's own.
-/
namespace Go.Proofs.YtldnelimemjaiaaGreatDoor
open Go.RowKit Go.Shelf
set_option maxRecDepth 100000

theorem zero_cells (m : Nat) : Builtin.zeroCells (Value.int .u8 0).cells m = (vals (List.replicate m 0)).toArray := by
  apply Array.ext
  · simp [Builtin.zeroCells, Value.cells, vals]
  · intro i h1 h2
    simp [Builtin.zeroCells, Value.cells, vals, Nat.mod_one]
theorem run_app_noughts {w : World} (base ty : Nat) (v : Value) (n : Nat) (xs : List UInt8) (hown : w.ownsRow base 5 1 v n (vals xs)) (m : Nat) (hn : 0 < n) (hm : 0 < m) (hnm : n + m ≤ 100000) (hbase : base ≤ w.heap.size) :
    ∃ v' w', (Builtin.append_ #[45, 3] ty #[v, .int .i64 (m : Int)]).run Tryz.prog w = .ok v' w' ∧ w'.ownsRow base 5 1 v' (n + m) (vals (xs ++ List.replicate m 0)) ∧ w.grownBy w' v.ownBlock := by
  obtain ⟨i0, hi, hz0, hz1, hz2⟩ := info_parts infoU8
  have ht : Tryz.prog.underlying 45 = some (.slice 5) := Tryz.underlying45
  have htn : Tryz.prog.underlying 3 = some (.int .i64) := Tryz.underlying3
  have hw : IntKind.i64.wrap (m : Int) = m := by rw [IntKind.wrap_i64]; omega
  have hneg : ¬ ((m : Int) < 0) := by omega
  have h48i : ¬ (281474976710656 < (m : Int) * (i0.bytes : Int)) := by rw [hz2]; omega
  have hm0 : ¬ (m = 0) := by omega
  have hxl : xs.length = n := by have := hown.1; simpa [vals] using this
  rcases hown.2 with ⟨rfl, h0⟩ | ⟨g, cap, cur, rfl, hbg, hg, hnc, hcm, hcs, htake⟩
  · omega
  · have hcat : vals (xs ++ List.replicate m 0) = vals xs ++ vals (List.replicate m 0) := by simp [vals]
    have hvl : (vals (List.replicate m (0 : UInt8))).length = m := by simp [vals]
    have hlen : (vals xs ++ vals (List.replicate m 0)).length = (n + m) * 1 := by rw [List.length_append, hvl, hown.1]; omega
    by_cases hroom : n + m ≤ cap
    · have hst := run_storeCells_at Tryz.prog g (n * 1) 5 (vals (List.replicate m 0)) 0 cur w hg (by rw [hvl, hcs]; omega) (fun u hu => by obtain ⟨y, _, rfl⟩ := List.mem_map.1 hu; rfl)
      simp only [Nat.add_zero, Nat.mul_one] at hst
      refine ⟨.slice (some ⟨g, 0, none⟩) (n + m) cap, w.setRow g (cur.toList.take (n * 1) ++ vals (List.replicate m 0) ++ cur.toList.drop (n * 1 + (vals (List.replicate m (0 : UInt8))).length)).toArray, ?_, ?_, ?_⟩
      rotate_left
      · rw [hcat]
        refine ⟨hlen, .inr ⟨g, cap, _, rfl, hbg, setRow_heap w g cur _ 5 _ hg, hroom, hcm, ?_, ?_⟩⟩
        · simp only [List.size_toArray, List.length_append, List.length_take, List.length_drop, Array.length_toList, hvl]
          omega
        · rw [htake, ← hlen]
          exact List.take_left
      · exact ⟨rfl, rfl, rfl, by simp [World.setRow], fun k _ hk => setRow_other w g k _ (fun e => hk (by simp [Value.ownBlock, e]))⟩
      · simp [Builtin.append_, run_underlying ht, run_underlying htn, sizeOf, typeInfo, zeroValue, hi, hz0, hz1, asInt, asIntOf, hw, hneg, h48i, hm0, hroom, zero_cells, Addr.add_lit]
        rw [hst]
        simp [Result.andThen]
    · have hold := run_firstCells_some (P := Tryz.prog) w.drew 1 n ⟨g, 0, none⟩ n cap (vals xs) hown.1 (by simpa using hown.cells (g := g) rfl)
      have hge := grownCap_ge w (n + m) cap 5
      have hcm2 : grownCap w (n + m) cap 5 ≤ maxLen := grownCap_le_maxLen w (n + m) cap 5 (by unfold maxLen; omega)
      have h63' : ¬ (9223372036854775807 < ((n : Int) + (m : Int))) := by omega
      have h48' : ¬ (281474976710656 < Builtin.nextslicecap (n + m) cap * i0.bytes) := by
        have := growslice_fits (need := n + m) (old := cap) (bytes := 1) (by omega) (by omega)
        rw [hz2]
        omega
      refine ⟨.slice (some ⟨w.heap.size, 0, none⟩) (n + m) (grownCap w (n + m) cap 5), w.drew.alloc (.cells ((vals xs).toArray ++ (vals (List.replicate m 0)).toArray ++ Builtin.zeroCells (Value.int .u8 0).cells (grownCap w (n + m) cap 5 - (n + m))) 5), ?_, ?_, ?_⟩
      · simp [Builtin.append_, run_underlying ht, run_underlying htn, sizeOf, typeInfo, zeroValue, hi, hz0, hz1, asInt, asIntOf, hw, hneg, h48i, hm0, hroom, h63', h48', Question.forced, zero_cells, hold, newRow, grownCap]
      · rw [hcat]
        refine ⟨hlen, .inr ⟨w.heap.size, _, _, rfl, hbase, heap_alloc_new w.drew _, hge, hcm2, ?_, ?_⟩⟩
        · simp only [Array.size_append, List.size_toArray, size_zeroCells, hown.1, hvl]
          simp [Value.cells]
          omega
        · simp only [Array.toList_append, List.append_assoc]
          rw [← List.append_assoc, ← hlen]
          exact List.take_left
      · exact ⟨rfl, rfl, rfl, by simp, fun k hk _ => heap_alloc_old w.drew _ hk⟩
end Go.Proofs.YtldnelimemjaiaaGreatDoor
/-
  The document's own Block of a label that may be.
-/
namespace Go.Proofs.YtldnelimemjaiaaGreatDoor
open Go.RowKit Go.Shelf
set_option maxRecDepth 100000

theorem atAppR {P : Program} {ops : Array Oper} {Q : Exit → Act → World → Prop} {a : Act} {w : World} {rest : List Oper} {d : Option Tmp} {ty : TypeId} {x : Array Operand} {y : Array TypeId} {pos : String} {af : Array Edge} (h : wpList P ops Q (⟨d, .call { callee := .builtin .append, args := x, argTypes := y }, ty, pos, af, none⟩ :: rest) a w) : wpList P ops Q (⟨d, .call { callee := .builtin .append, args := x, argTypes := y }, ty, pos, af, none⟩ :: rest) a w := h
theorem one_row (w : World) : (w.alloc (.cells #[.int .u8 67] 5)).ownsRow w.heap.size 5 1 (.slice (some ⟨w.heap.size, 0, none⟩) 1 1) 1 (vals [67]) :=
  ⟨rfl, .inr ⟨w.heap.size, 1, _, rfl, Nat.le_refl _, heap_alloc_new w _, Nat.le_refl _, by unfold maxLen; omega, rfl, rfl⟩⟩
set_option maxHeartbeats 4000000 in
theorem rlBlock_any (l : Lb) (hw : WfL l) (hm : MayL l) (w : World) : Calls Tryz.prog 41 #[lbV l] w (OwnV 256 (blockL l) w) := by
  obtain ⟨w0, hw0⟩ : ∃ w0, w.alloc (.cells (lbC l).toArray 30) = w0 := ⟨_, rfl⟩
  have hb0 : Below w.heap.size w w0 := by rw [← hw0]; exact (Below.refl _ w).alloc (Nat.le_refl _) _
  have hk : Blk w0 w.heap.size 30 (lbC l).toArray := by rw [← hw0]; exact Blk.new w _ _
  have hz0 : w0.heap.size = w.heap.size + 1 := by rw [← hw0]; simp
  have HN1 := Lib.hid (fun W => rpNumber_any l.1 4 hw.1 (Nat.le_refl _) W)
  have HN2 := Lib.hid (fun W => rpNumber_any l.2.1 4 hw.2.1 (Nat.le_refl _) W)
  have HP := Lib.hid (fun W => rpBytes_any l.2.2 hw.2.2 hm.2.2.2.room W)
  have hsl := summedL_length l
  have hs0 : ((([67] ++ leB 4 l.1) ++ leB 4 l.2.1) ++ bytesP l.2.2) = summedL l := by simp [summedL]
  have hbl : (summedL l ++ leB 4 (sumN (summedL l))) ++ List.replicate 227 0 = blockL l := by simp [blockL]
  obtain ⟨S, hS⟩ : ∃ S, summedL l = S := ⟨_, rfl⟩
  rw [hS] at hsl hs0 hbl
  obtain ⟨B, hB⟩ : ∃ B, blockL l = B := ⟨_, rfl⟩
  rw [hB] at hbl ⊢
  have HS0 := Lib.hid hs0
  have HBL := Lib.hid hbl
  have HSL := Lib.hid hsl
  clear hS hB hs0 hbl hsl hw hm
  obtain ⟨g, e, a, b, c, d, f⟩ := l
  obtain ⟨c0, c1, c2, c3, c4, c5, c6⟩ := hk.seven
  simp only [lbC] at hw0
  simp only at HN1 HN2 HP HS0
  have HB := Lib.hid hb0
  have HK := Lib.hid hk
  have HZ0 := Lib.hid hz0
  -- the byte
  have hob := one_row w0
  have b1 : Below w0.heap.size w0 (w0.alloc (.cells #[.int .u8 67] 5)) := (Below.refl _ _).alloc (Nat.le_refl _) _
  have HO1 := Lib.hid hob
  have HB1 := Lib.hid b1
  obtain ⟨d0, d1, d2, d3, d4, d5, d6⟩ := (hk.below b1 hk.lt).seven
  clear hb0 hk hz0 hob b1
  go_enter Tryz.func41, Tryz.ntmps41
  go_wp2_with (first
    | (go_at_call 66
       refine (HN1.out _).mono ?_
       rintro ev w2 ⟨v2, rfl, o2, b2⟩
       obtain ⟨A2, C2, rfl, s2⟩ := own_to o2
       have HO2 := Lib.hid (own_below HO1.out b2)
       have HB2 := Lib.hid (HB1.out.trans (b2.mono HB1.out.size))
       have HS2 := Lib.hid s2
       clear o2 s2 b2 HN1)
    | (with_reducible refine atAppR ?_
       refine wpList_append_bsl rfl (.tmp 4) (.tmp 7) rfl w0.heap.size (.slice (some ⟨w0.heap.size, 0, none⟩) 1 1) 1 [67] rfl HO2.out _ A2 4 C2 (leB 4 g) rfl HS2.out (by omega) HB2.out.size ?_
       intro v3 w3 o3 g3
       have HO3 := Lib.hid o3
       have HB3 := Lib.hid (app_below HB2.out HO2.out g3 HB2.out.size)
       have q3 := (HK.out.below HB3.out HK.out.lt).seven
       clear o3 g3 HS2))
  obtain ⟨f0, f1, f2, f3, f4, f5, f6⟩ := q3
  go_wp2_with (first
    | (go_at_call 66
       refine (HN2.out _).mono ?_
       rintro ev w4 ⟨v4, rfl, o4, b4⟩
       obtain ⟨A4, C4, rfl, s4⟩ := own_to o4
       have HO4 := Lib.hid (own_below HO3.out b4)
       have HB4 := Lib.hid (HB3.out.trans (b4.mono HB3.out.size))
       have HS4 := Lib.hid s4
       clear o4 s4 b4 HN2)
    | (with_reducible refine atAppR ?_
       refine wpList_append_bsl rfl (.tmp 9) (.tmp 12) rfl w0.heap.size v3 5 ([67] ++ leB 4 g) rfl HO4.out _ A4 4 C4 (leB 4 e) rfl HS4.out (by omega) HB4.out.size ?_
       intro v5 w5 o5 g5
       have HO5 := Lib.hid o5
       have HB5 := Lib.hid (app_below HB4.out HO4.out g5 HB4.out.size)
       have q5 := (HK.out.below HB5.out HK.out.lt).seven
       clear o5 g5 HS4))
  obtain ⟨h0, h1, h2, h3, h4, h5, h6⟩ := q5
  go_wp2_with (first
    | (go_at_call 67
       refine (HP.out _).mono ?_
       rintro ev w6 ⟨v6, rfl, o6, b6⟩
       obtain ⟨A6, C6, rfl, s6⟩ := own_to o6
       have HO6 := Lib.hid (own_below HO5.out b6)
       have HB6 := Lib.hid (HB5.out.trans (b6.mono HB5.out.size))
       have HS6 := Lib.hid s6
       clear o6 s6 b6 HP)
    | (with_reducible refine atAppR ?_
       refine wpList_append_bsl rfl (.tmp 14) (.tmp 17) rfl w0.heap.size v5 9 (([67] ++ leB 4 g) ++ leB 4 e) rfl HO6.out _ A6 16 C6 (bytesP (a, b, c, d, f)) rfl HS6.out (by omega) HB6.out.size ?_
       intro v7 w7 o7 g7
       have HB7 := Lib.hid (app_below HB6.out HO6.out g7 HB6.out.size)
       rw [HS0.out] at o7
       obtain ⟨A7, C7, rfl, s7⟩ := own_to o7
       have HO7 := Lib.hid o7
       have hsum := rsum_any A7 25 C7 S w7 s7 (by omega)
       have HSUM := Lib.hid hsum
       clear o7 g7 HS6 s7 hsum)
    | (go_at_call 68
       refine HSUM.out.mono ?_
       rintro ev w8 ⟨rfl, b8⟩
       have HO8 := Lib.hid (own_below HO7.out b8)
       have HB8 := Lib.hid (HB7.out.trans (b8.mono HB7.out.size))
       have hnum := rpNumber_any (sumN S) 4 (sumN_lt S) (Nat.le_refl _) w8
       have HNUM := Lib.hid hnum
       clear b8 hnum HSUM)
    | (go_at_call 66
       refine HNUM.out.mono ?_
       rintro ev w9 ⟨v9, rfl, o9, b9⟩
       obtain ⟨A9, C9, rfl, s9⟩ := own_to o9
       have HO9 := Lib.hid (own_below HO8.out b9)
       have HB9 := Lib.hid (HB8.out.trans (b9.mono HB8.out.size))
       have HS9 := Lib.hid s9
       clear o9 s9 b9 HNUM)
    | (with_reducible refine atAppR ?_
       refine wpList_append_bsl rfl (.tmp 19) (.tmp 22) rfl w0.heap.size (.slice A7 25 C7) 25 S rfl HO9.out _ A9 4 C9 (leB 4 (sumN S)) rfl HS9.out (by omega) HB9.out.size ?_
       intro vA wA oA gA
       have HBA := Lib.hid (app_below HB9.out HO9.out gA HB9.out.size)
       have hrun := run_app_noughts w0.heap.size 45 vA 29 (S ++ leB 4 (sumN S)) oA 227 (by omega) (by omega) (by omega) HBA.out.size
       have HOA := Lib.hid oA
       have HRUN := Lib.hid hrun
       clear oA gA HS9 hrun)
    | (with_reducible refine atAppR ?_
       obtain ⟨vB, wB, hB1, oB, gB⟩ := HRUN.out
       refine Lib.wpList_append_run _ rfl (.tmp 24) (.const (.int .i64 227)) 45 3 rfl vA (.int .i64 227) rfl rfl vB wB hB1 ?_
       have HBB := Lib.hid (app_below HBA.out HOA.out gB HBA.out.size)
       rw [HBL.out] at oB
       have HOB := Lib.hid oB
       clear oB gB hB1 HRUN))
  go_ret
  exact ⟨_, rfl, own_mono HOB.out HB.out.size, HB.out.trans (HBB.out.mono HB.out.size)⟩
end Go.Proofs.YtldnelimemjaiaaGreatDoor
