/-
  copy of bytes over a part of a row that is known whole, into a slice that may be longer than what is copied; parts of slices.
-/
import Derived.Laws.CopyOwn
import Derived.Test.YtennhempdnpobaaDoorOwn
namespace Go.Proofs.YtennhempdnpobaaDoor
open Go.RowKit Go.Shelf
set_option maxRecDepth 100000

theorem copyAt {P : Program} {ops : Array Oper} {Q : Exit → Act → World → Prop} {a : Act} {w : World} {rest : List Oper} {d : Option Tmp} {ty : TypeId} {x : Array Operand} {y : Array TypeId} {pos : String} {af : Array Edge} (h : wpList P ops Q (⟨d, .call { callee := .builtin .copy, args := x, argTypes := y }, ty, pos, af, none⟩ :: rest) a w) : wpList P ops Q (⟨d, .call { callee := .builtin .copy, args := x, argTypes := y }, ty, pos, af, none⟩ :: rest) a w := h
theorem infoB1 : (Tryd.prog.info? 5).map (·.size) = some 1 := by kernel_rfl
/-- s laid over t from o on. -/
def ovrL (t : List UInt8) (o : Nat) (s : List UInt8) : List UInt8 := t.take o ++ (s ++ t.drop (o + s.length))
theorem ovrL_length {t : List UInt8} {o : Nat} {s : List UInt8} (h : o + s.length ≤ t.length) : (ovrL t o s).length = t.length := by simp [ovrL]; omega
/-- copy(dst, src), where what is copied fits. -/
theorem wpList_copy_part {w : World} {ops : Array Oper} {rest : List Oper} {o : Oper} {a : Act} {Q : Exit → Act → World → Prop} (hgd : o.guard = none) (d s : Operand)
    (ho : o.op = .call { callee := .builtin .copy, args := #[d, s], argTypes := #[28, 28] })
    (g off m n cap : Nat) (hd : a.eval d = .slice (some ⟨g, off, none⟩) m cap) (t : List UInt8) (hg : Blk w g 5 (ar t))
    (B : Nat) (A : Option Addr) (c : Nat) (news : List UInt8) (hs : a.eval s = .slice A n c) (hb : Bsl w B A n c news) (hn : 0 < n) (hnm : n ≤ m) (hfit : off + n ≤ t.length)
    (h : ∀ w', Blk w' g 5 (ar (ovrL t off news)) → w.grownBy w' (some g) → w'.heap.size = w.heap.size → wpList Tryd.prog ops Q rest (a.put o.dst (.int .i64 n)) w') : wpList Tryd.prog ops Q (o :: rest) a w := by
  obtain ⟨h1, h2, h3, h4, h5⟩ := hb
  obtain ⟨b, of, rfl, _, hc⟩ := h5 hn
  have hl : (vals news).length = n := by simp [vals, h1]
  refine wpList_copy_own hgd d s 28 28 ho 5 Tryd.underlying28 infoB1 g off m cap ⟨b, of, none⟩ n c hd hs (ar t) 5 hg (vals news) (by rw [hl]; exact (Nat.min_eq_left hnm).symm) (fun j v hv => ?_) (by rw [hl, ar_size]; exact hfit) (fun v hv => ?_) ?_
  · obtain ⟨hj, rfl⟩ := vals_get hv
    have : (⟨b, of, none⟩ : Addr).add j = ⟨b, of + j, none⟩ := by unfold Addr.add; split <;> simp_all
    rw [this]
    exact hc j hj
  · obtain ⟨y, _, rfl⟩ := List.mem_map.1 hv
    rfl
  · have e : ((ar t).toList.take off ++ (vals news ++ (ar t).toList.drop (off + (vals news).length))).toArray = ar (ovrL t off news) := by
      rw [hl]
      simp [ar, ovrL, vals, h1]
    rw [e]
    have hx : (goInt (vals news).length) = .int .i64 n := by rw [hl]; rfl
    rw [hx]
    exact h _ (Blk.setRow hg) ⟨rfl, rfl, rfl, by simp [World.setRow], fun i hi hne => setRow_other w g i _ (fun e => hne (by rw [e]))⟩ (by simp [World.setRow])
/-- s[l:], where it is not empty. -/
theorem slice_from_l (W : World) (g off len cap l : Nat) (hl : l < len) (hc : len ≤ cap) : (Instr.slice 28 (.slice (some ⟨g, off, none⟩) len cap) (some (.int .i64 (l : Int))) none none).run Tryd.prog W = .ok (.slice (some ⟨g, off + l, none⟩) (len - l) (cap - l)) W := by
  rw [run_slice_l W 28 _ _ _ (by kernel_rfl) .i64 _ (by omega) (by omega)]
  have hz : (Go.sizeOf (Tryd.prog.elem 28)).run Tryd.prog W = .ok 1 W := by kernel_rfl
  rw [hz]
  simp [Result.andThen, sliced, Addr.add]
  rw [if_neg (by omega)]
  by_cases h0 : l = 0
  · subst h0; simp
  · rw [if_neg h0]
/-- make([]byte, n). -/
theorem mkBytes (n : Nat) (hn : n ≤ 1000000000000) (W : World) : (Instr.makeSlice 28 (.int .i64 n) (.int .i64 n)).run Tryd.prog W = .ok (.slice (some ⟨W.heap.size, 0, none⟩) n n) (W.alloc (.cells (ar (List.replicate n 0)) 5)) := by
  obtain ⟨i0, hi, hz0, hz1, hz2⟩ := info_parts infoU8
  have hr := run_make (P := Tryd.prog) W 28 5 i0 (.int .u8 0) Tryd.underlying28 hi hz0 .i64 .i64 n n (by omega) (Int.le_refl _) (by rw [hz2]; omega) (by omega)
  rw [hz1] at hr
  simp only [Int.toNat_natCast] at hr
  have e : madeCells (Value.int .u8 0).cells (n * 1) = ar (List.replicate n 0) := by
    apply Array.ext
    · simp [size_madeCells, ar, vals]
    · intro i h1 h2
      simp [madeCells, Value.cells, Nat.mod_one, ar, vals]
  rw [e] at hr
  exact hr
end Go.Proofs.YtennhempdnpobaaDoor
