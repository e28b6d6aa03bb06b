/-
  sign.pairs of a row of an even number of nodes hands the loop its pairs in their order.
-/
import Derived.Test.YtoednighmdoooaaLeaves
import Derived.Test.YtoednighmdoooaaHeadIn
namespace Go.Proofs.Ytoednighmdoooaa
open Go.RowKit Go.Shelf
set_option maxRecDepth 100000
attribute [local go_sem] Oper.semAt_some

/-- What the walk goes on reading: the box of the row, and the row's cells. -/
def ReachP (Bs g q cap : Nat) (vs : List Value) (W : World) : Prop :=
  W.cell? ⟨Bs, 0, none⟩ = some (.slice (some ⟨g, 0, none⟩) (2 * q) cap) ∧ ∀ i, i < 2 * q → W.cell? ⟨g, i, none⟩ = some (vs.getD i undef)
theorem pairs_in (F : Fence) (n : Nat) (h : F.fn 36) (hro : F.round = none) (a : Option Addr) (len cap : Nat) (w : World) :
    CallsIn F n Try.prog 36 #[.slice a len cap] w fun e w' => e = .returned (.func (.func 52) #[] #[.pointer (some ⟨w.heap.size, 0, none⟩)]) ∧ w' = w.alloc (.cells #[.slice a len cap] 42) := by
  refine callsIn_of_wp Try.func36 rfl h ?_ hro
  simp only [Try.ntmps36, List.size_toArray, List.length_cons, List.length_nil, Nat.reduceAdd, Nat.reduceSub, Array.replicate_succ, Array.replicate_zero, List.push_toArray, List.append_toArray, List.nil_append, List.cons_append]
  gi_wp2
  go_ret
  exact ⟨rfl, rfl⟩
/-- The pair of number x. -/
@[reducible] def pairV (vs : List Value) (x : Nat) : Array Value := #[vs.getD (2 * x) undef, vs.getD (2 * x + 1) undef]

set_option maxHeartbeats 2000000 in
theorem pairs1_in (n : Nat) (hn : 1 ≤ n) (l Bs g q cap : Nat) (vs : List Value) (hq : q ≤ 1000) (J Jx : List (Fin q) → World → Prop)
    (hY : ∀ pre x W, J pre W → pre.length < q → YieldAt Fence.wide (n - 1) Try.prog l (pairV vs x.val) W fun e W' =>
      (e = .returned (.bool true) ∧ J (pre ++ [x]) W' ∧ (ReachP Bs g q cap vs W → ReachP Bs g q cap vs W')) ∨ (e = .returned (.bool false) ∧ Jx (pre ++ [x]) W'))
    (hJd : ∀ pre W, J pre W → J pre W.drew)
    (W : World) (hR : ReachP Bs g q cap vs W) (h0 : J [] W) :
    CallsIn Fence.wide n Try.prog 52 #[.func (.yield l) #[] #[], .pointer (some ⟨Bs, 0, none⟩)] W fun e W' => (∃ v, e = .returned v) ∧
      ((∃ ys, ys.map (·.val) = List.range q ∧ J ys W') ∨ (∃ pre, pre.map (·.val) = List.range pre.length ∧ Jx pre W')) := by
  refine callsIn_of_wp Try.func52 rfl trivial ?_ rfl
  simp only [Try.ntmps52, List.size_toArray, List.length_cons, List.length_nil, Nat.reduceAdd, Nat.reduceSub, Array.replicate_succ, Array.replicate_zero, List.push_toArray, List.append_toArray, List.nil_append, List.cons_append]
  have hmx : Try.prog.follows Departure.mixedOrders = true := by kernel_rfl
  have HR := Lib.hid hR
  clear hR
  gi_wp2
  gi_loopw [3] (fun i wr => ∃ pre : List (Fin q), pre.map (·.val) = List.range pre.length ∧ pre.length ≤ q ∧ i = .int .i64 ((2 * pre.length : Nat) : Int) ∧ J pre wr ∧ ReachP Bs g q cap vs wr)
    (fun i _ => 2 * q - (intOf i).toNat)
  case atStart => exact ⟨[], rfl, Nat.zero_le _, rfl, h0, HR.out⟩
  case round =>
    obtain ⟨pre, hC, hle, rfl, hJs, hRs⟩ := hrel
    obtain ⟨k, hk⟩ : ∃ k, pre.length = k := ⟨_, rfl⟩
    have hb1 := hRs.1
    obtain ⟨m, hm⟩ : ∃ m : Nat, 2 * k = m := ⟨_, rfl⟩
    obtain ⟨m', hm'⟩ : ∃ m' : Nat, m + 1 = m' := ⟨_, rfl⟩
    obtain ⟨L, hL⟩ : ∃ L : Nat, 2 * q = L := ⟨_, rfl⟩
    rw [hL] at hb1
    rw [hk, hm]
    by_cases hlt : k < q
    · have hmL : m < L := by omega
      have hb3 := hRs.2 m (by omega)
      have hb4 := hRs.2 m' (by omega)
      have hi1 : (m : Int) + 1 = (m' : Int) := by omega
      have hi2 : IntKind.i64.wrap (m' : Int) = (m' : Int) := by unfold IntKind.wrap; simp [IntKind.bits, IntKind.signed]; omega
      obtain ⟨v1, hv1⟩ : ∃ v1, vs.getD m undef = v1 := ⟨_, rfl⟩
      obtain ⟨v2, hv2⟩ : ∃ v2, vs.getD m' undef = v2 := ⟨_, rfl⟩
      rw [hv1] at hb3
      rw [hv2] at hb4
      have HRs := Lib.hid hRs; clear hRs
      have h8 : ((m : Int) < (L : Int)) := by omega
      have h9 : ((m' : Int) < (L : Int)) := by omega
      have h80 : (0 : Int) ≤ (m : Int) := by omega
      have h90 : (0 : Int) ≤ (m' : Int) := by omega
      have h8m : (L : Int) ≤ 9223372036854775807 := by omega
      have HV1 := Lib.hid hv1; clear hv1
      have HV2 := Lib.hid hv2; clear hv2
      have HM := Lib.hid hm; clear hm
      have HM' := Lib.hid hm'; clear hm'
      have HL := Lib.hid hL; clear hL
      have HK := Lib.hid hk; clear hk
      gi_wp2
      refine region_wide_head 10 hmx (fun h => by obtain ⟨_, _, ⟨v, hv⟩, _⟩ := h; cases hv) (by kernel_rfl) ?_
      simp only [List.take_succ_cons, List.take_zero, List.drop_succ_cons, List.drop_zero]
      repeat still_step
      refine wpStill_nil ?_
      obtain ⟨fn, tmps, assign, body, hy, hR⟩ := hY pre ⟨k, hlt⟩ wr.drew (hJd _ _ hJs) (by rw [HK.out]; exact hlt)
      have hw : pairV vs k = #[v1, v2] := by rw [pairV, HM.out, HM'.out, HV1.out, HV2.out]
      dsimp only at hy
      rw [hw] at hy
      clear hw
      have HC := Lib.hid hC; clear hC
      gi_wp2
      refine hR.mono ?_
      rintro e W3 (⟨rfl, hJ3, hk3⟩ | ⟨rfl, hJx3⟩)
      · have HR3 := Lib.hid (hk3 HRs.out); clear hk3
        gi_wp2
        go_roundw
        case rel => exact ⟨pre ++ [⟨k, hlt⟩], by simp [HC.out, List.range_succ, HK.out], by simp; rw [HK.out]; omega, by simp [HK.out]; have := HM.out; omega, hJ3, HR3.out⟩
        case measure => simp [intOf]; have := HM.out; have := HL.out; omega
      · gi_wp2
        refine bodyPost_ret (results_none rfl _ _ _) rfl ?_
        exact ⟨⟨_, rfl⟩, .inr ⟨_, by simp [HC.out, List.range_succ, HK.out], hJx3⟩⟩
    · have hkq : k = q := by omega
      have hmL : m = L := by omega
      rw [hmL]
      have HRs := Lib.hid hRs; clear hRs
      have HM := Lib.hid hm; clear hm
      have HM' := Lib.hid hm'; clear hm'
      have HL := Lib.hid hL; clear hL
      have HK := Lib.hid hk; clear hk
      have HKQ := Lib.hid hkq; clear hkq
      have HC := Lib.hid hC; clear hC
      clear hmL
      gi_wp2
      go_end0
      exact ⟨⟨_, rfl⟩, .inl ⟨pre, by rw [HC.out, HK.out, HKQ.out], hJs⟩⟩
theorem reachP_putObj {Bs g q cap : Nat} {vs : List Value} {W : World} (l : Nat) (o o' : Obj) (h : W.heap[l]? = some o) (ho : o.isCells = false) (hR : ReachP Bs g q cap vs W) : ReachP Bs g q cap vs (W.putObj l o') := by
  have hk : ∀ r, some l = some r → ∃ o : Obj, W.heap[r]? = some o ∧ o.isCells = false := fun r e => by cases e; exact ⟨_, h, ho⟩
  exact ⟨cell_kept hR.1 (grownBy_putObj' W l o') hk, fun i hi => cell_kept (hR.2 i hi) (grownBy_putObj' W l o') hk⟩
theorem stopsP (n : Nat) (hn : 1 ≤ n) (Bs g q cap : Nat) (vs : List Value) (hq : q ≤ 1000) (w : World) (hBs : Bs < w.heap.size) (hg : g < w.heap.size) (hR : ReachP Bs g q cap vs w) :
    SeqStopsK Fence.wide n Try.prog 52 #[.pointer (some ⟨Bs, 0, none⟩)] (fun x : Fin q => pairV vs x.val) (fun W W' => ReachP Bs g q cap vs W → ReachP Bs g q cap vs W')
      (fun ys => ys.map (·.val) = List.range q) (fun pre => pre.map (·.val) = List.range pre.length) q w := fun l J Jx W hW hJ _ hY h0 =>
  pairs1_in n hn l Bs g q cap vs hq J Jx hY (fun s W1 h => hJ s W1 W1.drew none h (only_drew (World.grownBy.refl W1 none)) (fun r e => by cases e)) W
    ⟨(hW.cell (p := ⟨Bs, 0, none⟩) hBs).trans hR.1, fun i hi => (hW.cell (p := ⟨g, i, none⟩) hg).trans (hR.2 i hi)⟩ h0
end Go.Proofs.Ytoednighmdoooaa
