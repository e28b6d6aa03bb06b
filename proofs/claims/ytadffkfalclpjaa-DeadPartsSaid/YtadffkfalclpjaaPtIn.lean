/-
  What a pointer that came in by value is; what a slice of pointers that came in is.
-/
import Derived.Test.YtadffkfalclpjaaPtCode
import Derived.Test.YtadffkfalclpjaaIn
import Derived.Lib.SmallJoins
import Derived.Deep.Matrix
import Derived.Deep.SlicePairs
import Derived.ProofKit
import Derived.OpenShut
namespace Go.Proofs.Ytadffkfalclpjaa
open Go.RowKit Go.Shelf Go.Joins Go.ChangeShapes Go.WideShapes Go.ChangeAt
set_option maxRecDepth 100000

theorem u32_wf {n : Int} (h : (Lit.int .u32 n).wf = true) : ∃ m : Nat, n = (m : Int) ∧ m < 4294967296 := by
  simp [Lit.wf, IntKind.min, IntKind.max, IntKind.signed, IntKind.bits] at h
  exact ⟨n.toNat, by omega, by omega⟩
theorem i64_wf {n : Int} (h : (Lit.int .i64 n).wf = true) : -9223372036854775808 ≤ n ∧ n ≤ 9223372036854775807 := by
  simpa [Lit.wf, IntKind.min, IntKind.max, IntKind.signed, IntKind.bits] using h
/-- Five cells that read as a pointer are one. -/
theorem pt_of_trod {H : Type} {enc : TypeId × Value → H} {W : World} {fuel : Nat} {cs : List Value} {x : DataW H × List MemPlace} (h : DataW.trod enc Try.prog W 0 (fun _ => true) true fuel 25 cs = some x) : ∃ p, WfP p ∧ cs = ptC p := by
  obtain ⟨f0, f1, f2, f3, f4, hu, t0, t1, t2, t3, t4, o0, o1, o2, o3, o4⟩ : ∃ f0 f1 f2 f3 f4 : Field, Try.prog.underlying 25 = some (.struct #[f0, f1, f2, f3, f4]) ∧ f0.type = 3 ∧ f1.type = 23 ∧ f2.type = 23 ∧ f3.type = 23 ∧ f4.type = 23 ∧ f0.offset = 0 ∧ f1.offset = 1 ∧ f2.offset = 2 ∧ f3.offset = 3 ∧ f4.offset = 4 :=
    ⟨_, _, _, _, _, Try.underlying25, rfl, rfl, rfl, rfl, rfl, rfl, rfl, rfl, rfl, rfl⟩
  have cI : Try.prog.cellsOf 3 = 1 := by kernel_rfl
  have cU : Try.prog.cellsOf 23 = 1 := by kernel_rfl
  have cP : Try.prog.cellsOf 25 = 5 := by kernel_rfl
  obtain ⟨xs, k, hk, hxy, hcl, hxl, hf⟩ := DataW.trod_struct hu h
  rw [cP] at hcl
  match xs, hxl, cs, hcl with
  | [y0, y1, y2, y3, y4], _, [v0, v1, v2, v3, v4], _ =>
    have g0 := hf 0 f0 rfl
    have g1 := hf 1 f1 rfl
    have g2 := hf 2 f2 rfl
    have g3 := hf 3 f3 rfl
    have g4 := hf 4 f4 rfl
    simp [t0, t1, t2, t3, t4, o0, o1, o2, o3, o4, cI, cU] at g0 g1 g2 g3 g4
    obtain ⟨n0, e0, _, w0⟩ := DataW.trod_int Try.underlying3 g0
    obtain ⟨n1, e1, _, w1⟩ := DataW.trod_int Try.underlying23 g1
    obtain ⟨n2, e2, _, w2⟩ := DataW.trod_int Try.underlying23 g2
    obtain ⟨n3, e3, _, w3⟩ := DataW.trod_int Try.underlying23 g3
    obtain ⟨n4, e4, _, w4⟩ := DataW.trod_int Try.underlying23 g4
    obtain ⟨m1, rfl, l1⟩ := u32_wf w1
    obtain ⟨m2, rfl, l2⟩ := u32_wf w2
    obtain ⟨m3, rfl, l3⟩ := u32_wf w3
    obtain ⟨m4, rfl, l4⟩ := u32_wf w4
    refine ⟨(n0, m1, m2, m3, m4), ⟨i64_wf w0, l1, l2, l3, l4⟩, ?_⟩
    simp at e0 e1 e2 e3 e4
    rw [e0, e1, e2, e3, e4]
    rfl
/-- A pointer that came in by value. -/
theorem open_ptr {H : Type} {enc : TypeId × Value → H} {W : World} {r : Go.Reach} {b0 : Nat} {v : Value} {d : DataW H} {p : List MemPlace} (hv : Value.okWide Try.prog W r b0 25 v) (h : DataW.Trod enc Try.prog W 0 (fun _ => true) true 25 v d p) :
    ∃ q, v = ptV q ∧ WfP q := by
  obtain ⟨cs, rfl, hsz⟩ := okWide_struct Try.underlying25 hv
  obtain ⟨fuel, hf⟩ := h
  obtain ⟨q, hw, hq⟩ := pt_of_trod hf
  refine ⟨q, ?_, hw⟩
  have : cs = (ptC q).toArray := by
    rw [← hq]
    simp [Value.cells]
  rw [this]
  rfl
/-- A cell that reads as a slice of pointers. -/
theorem open_pts {H : Type} {enc : TypeId × Value → H} {W : World} {fuel : Nat} {v : Value} {y : DataW H × List MemPlace} (hf : DataW.trod enc Try.prog W 0 (fun _ => true) true fuel 22 [v] = some y) : ∃ a len cap L, v = .slice a len cap ∧ Pts W W.heap.size a len cap L := by
  have cP : Try.prog.cellsOf 25 = 5 := by kernel_rfl
  rcases Go.Deep.open_slice Try.underlying22 hf with ⟨hcs, _⟩ | ⟨x, len, cap, m, n, D, Pl, hcs, _, hl, hm, hmm, _, hr⟩
  · obtain rfl : v = .slice none 0 0 := by simpa using hcs
    exact ⟨none, 0, 0, [], rfl, pts_nil _ _⟩
  · obtain rfl : v = .slice (some x) len cap := by simpa using hcs
    refine ⟨some x, len, cap, ?_⟩
    suffices h : ∃ L, Pts W W.heap.size (some x) len cap L by
      obtain ⟨L, hL⟩ := h
      exact ⟨L, rfl, hL⟩
    rw [cP] at hr
    have hlm : len ≤ m := by simp only [if_true] at hmm; omega
    obtain ⟨q, hq⟩ : ∃ q : Nat → Pt, ∀ i, i < len → WfP (q i) ∧ W.cells? 0 (x.add (i * 5)) 5 = some (ptC (q i)) := by
      have : ∀ i, ∃ p : Pt, i < len → WfP p ∧ W.cells? 0 (x.add (i * 5)) 5 = some (ptC p) := fun i => by
        by_cases hi : i < len
        · obtain ⟨cs, h1, h2⟩ := hr i (by omega)
          obtain ⟨p, hw, rfl⟩ := pt_of_trod h2
          exact ⟨p, fun _ => ⟨hw, h1⟩⟩
        · exact ⟨p0, fun h => absurd h hi⟩
      exact ⟨fun i => (this i).choose, fun i hi => (this i).choose_spec hi⟩
    refine ⟨(List.range len).map q, by simp, hl, hm, fun e => (by cases e), fun h0 => ?_⟩
    obtain ⟨b, off, spot⟩ := x
    obtain ⟨_, _, hcell0⟩ := World.cells?_some (hq 0 h0).2
    have h00 := hcell0 0 (by omega)
    have hspot : spot = none := by
      have h1 : W.cell? ((Addr.mk b off spot).add (0 * 5) |>.add 0) = some (.int .i64 (q 0).1) := by rw [h00]; rfl
      simpa [Addr.add] using World.cell?_spot h1
    subst hspot
    have hadd : ∀ i, (⟨b, off, none⟩ : Addr).add i = ⟨b, off + i, none⟩ := fun i => by unfold Addr.add; split <;> simp_all
    have hadd2 : ∀ i j, ((⟨b, off, none⟩ : Addr).add i).add j = ⟨b, off + i + j, none⟩ := fun i j => by rw [hadd]; unfold Addr.add; split <;> simp_all
    refine ⟨b, off, rfl, ?_, fun i hi => ?_⟩
    · have h1 : W.cell? ⟨b, off + 0 * 5 + 0, none⟩ = some (.int .i64 (q 0).1) := by rw [← hadd2, h00]; rfl
      exact World.block_lt_of_cell? W _ h1
    · have hi' : i < len := by simpa using hi
      have hg : ((List.range len).map q)[i] = q i := by simp
      rw [hg]
      refine ⟨(hq i hi').1, fun j u hu => ?_⟩
      obtain ⟨_, hcl, hcell⟩ := World.cells?_some (hq i hi').2
      have hj : j < 5 := by
        rcases Nat.lt_or_ge j (ptC (q i)).length with hj | hj
        · exact hj
        · rw [List.getElem?_eq_none hj] at hu; cases hu
      have := hcell j hj
      rw [hadd2] at this
      rw [this]
      exact hu
/-- A slice of pointers that came in. -/
theorem open_ptrs {H : Type} {enc : TypeId × Value → H} {W : World} {a : Option Addr} {len cap : Nat} {d : DataW H} {p : List MemPlace} (h : DataW.Trod enc Try.prog W 0 (fun _ => true) true 22 (.slice a len cap) d p) : ∃ L, Pts W W.heap.size a len cap L := by
  obtain ⟨fuel, hf⟩ := h
  have e : (Value.slice a len cap).cells.toList = [.slice a len cap] := by simp [Value.cells]
  rw [e] at hf
  obtain ⟨a', l', c', L, hv, hL⟩ := open_pts hf
  injection hv with h1 h2 h3
  subst h1 h2 h3
  exact ⟨L, hL⟩
end Go.Proofs.Ytadffkfalclpjaa
