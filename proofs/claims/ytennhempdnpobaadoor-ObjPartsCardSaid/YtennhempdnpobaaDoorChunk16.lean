/-
  slices.Chunk of a slice of bytes by sixteens, of a length that sixteens make up, hands the loop its windows in their order.
-/
import Derived.Test.YtennhempdnpobaaDoorByt
import Derived.Test.YtennhempdnpobaaDoorFence
import Derived.Test.YtennhempdnpobaaDoorCopy
namespace Go.Proofs.YtennhempdnpobaaDoor
open Go.RowKit Go.Shelf
set_option maxRecDepth 100000
attribute [local go_sem] Oper.semAt_some

/-- What the walk goes on reading: the box of the slice, and that of the size. -/
def ReachC (Bs Bn : Nat) (A : Option Addr) (q cap : Nat) (W : World) : Prop :=
  W.cell? ⟨Bs, 0, none⟩ = some (.slice A (16 * q) cap) ∧ W.cell? ⟨Bn, 0, none⟩ = some (.int .i64 16)

theorem chunk_in (F : Fence) (n : Nat) (h : F.fn 34) (hro : F.round = none) (a : Option Addr) (len cap : Nat) (w : World) :
    CallsIn F n Tryd.prog 34 #[.slice a len cap, .int .i64 16] w fun e w' => e = .returned (.func (.func 48) #[] #[.pointer (some ⟨w.heap.size, 0, none⟩), .pointer (some ⟨w.heap.size + 1, 0, none⟩)]) ∧
      w' = (w.alloc (.cells #[.slice a len cap] 28)).alloc (.cells #[.int .i64 16] 3) := by
  refine callsIn_of_wp Tryd.func34 rfl h ?_ hro
  simp only [Tryd.ntmps34, List.size_toArray, List.length_cons, List.length_nil, Nat.reduceAdd, Nat.reduceSub, Array.replicate_succ, Array.replicate_zero, List.push_toArray, List.append_toArray, List.nil_append, List.cons_append]
  gi_wp2
  go_ret
  exact ⟨rfl, rfl⟩

/-- The window of number x. -/
@[reducible] def win (b off : Nat) (x : Nat) : Array Value := #[.slice (some ⟨b, off + 16 * x, none⟩) 16 16]

set_option maxHeartbeats 2000000 in
theorem chunk1_in (n : Nat) (hn : 1 ≤ n) (l Bs Bn b off q cap : Nat) (A : Option Addr) (hA : 0 < q → A = some ⟨b, off, none⟩) (hqc : 16 * q ≤ cap) (hcm : cap ≤ 9223372036854775807) (J Jx : List (Fin q) → World → Prop)
    (hY : ∀ pre x W, J pre W → pre.length < q → YieldAt Fence.wide (n - 1) Tryd.prog l (win b off x.val) W fun e W' =>
      (e = .returned (.bool true) ∧ J (pre ++ [x]) W' ∧ (ReachC Bs Bn A q cap W → ReachC Bs Bn A q cap W')) ∨ (e = .returned (.bool false) ∧ Jx (pre ++ [x]) W'))
    (hJd : ∀ pre W, J pre W → J pre W.drew)
    (W : World) (hR : ReachC Bs Bn A q cap W) (h0 : J [] W) :
    CallsIn Fence.wide n Tryd.prog 48 #[.func (.yield l) #[] #[], .pointer (some ⟨Bs, 0, none⟩), .pointer (some ⟨Bn, 0, none⟩)] W fun e W' => (∃ v, e = .returned v) ∧
      ((∃ ys, ys.map (·.val) = List.range q ∧ J ys W') ∨ (∃ pre, pre.map (·.val) = List.range pre.length ∧ Jx pre W')) := by
  refine callsIn_of_wp Tryd.func48 rfl trivial ?_ rfl
  simp only [Tryd.ntmps48, List.size_toArray, List.length_cons, List.length_nil, Nat.reduceAdd, Nat.reduceSub, Array.replicate_succ, Array.replicate_zero, List.push_toArray, List.append_toArray, List.nil_append, List.cons_append]
  have hmx : Tryd.prog.follows Departure.mixedOrders = true := by kernel_rfl
  have HR := Lib.hid hR
  clear hR
  gi_wp2
  gi_loopw [4] (fun i wr => ∃ pre : List (Fin q), pre.map (·.val) = List.range pre.length ∧ pre.length ≤ q ∧ i = .int .i64 ((16 * pre.length : Nat) : Int) ∧ J pre wr ∧ ReachC Bs Bn A q cap wr)
    (fun i _ => 16 * q - (intOf i).toNat)
  case atStart => exact ⟨[], rfl, Nat.zero_le _, rfl, h0, HR.out⟩
  case round =>
    obtain ⟨pre, hC, hle, rfl, hJs, hRs⟩ := hrel
    obtain ⟨k, hk⟩ : ∃ k, pre.length = k := ⟨_, rfl⟩
    have hb1 := hRs.1
    have hb2 := hRs.2
    obtain ⟨m, hm⟩ : ∃ m : Nat, 16 * k = m := ⟨_, rfl⟩
    obtain ⟨L, hL⟩ : ∃ L : Nat, 16 * q = L := ⟨_, rfl⟩
    rw [hL] at hb1
    rw [hk, hm]
    by_cases hlt : k < q
    · rw [hA (by omega)] at hb1
      have hmL : m < L := by omega
      have hm8 : m + 16 ≤ L := by omega
      have hLc : L ≤ cap := by omega
      have HRs := Lib.hid hRs; clear hRs
      have HM := Lib.hid hm; clear hm
      have HL := Lib.hid hL; clear hL
      have HK := Lib.hid hk; clear hk
      have h8 : ((m : Int) < (L : Int)) := by omega
      have h80 : (0 : Int) ≤ (m : Int) := by omega
      have h8m : (L : Int) ≤ 9223372036854775807 := by omega
      have hsl := fun W => slice_from_l W b off L cap m hmL hLc
      have hmin : min (16 : Int) ((L - m : Nat) : Int) = 16 := by omega
      gi_wp2
      refine region_wide_tail 6 hmx (by kernel_rfl) (fun h => by obtain ⟨_, _, ⟨v, hv⟩, _⟩ := h; cases hv) (by kernel_rfl) ?_
      simp only [List.take_succ_cons, List.take_zero, List.drop_succ_cons, List.drop_zero]
      repeat still_step
      refine wpStill_nil ?_
      obtain ⟨fn, tmps, assign, body, hy, hR⟩ := hY pre ⟨k, hlt⟩ wr.drew (hJd _ _ hJs) (by rw [HK.out]; exact hlt)
      have hw : win b off k = #[.slice (some ⟨b, off + m, none⟩) 16 16] := by rw [win, HM.out]
      dsimp only at hy
      rw [hw] at hy
      clear hw
      have HC := Lib.hid hC; clear hC
      go_wp2
      gi_wp2
      refine hR.mono ?_
      rintro e W3 (⟨rfl, hJ3, hk3⟩ | ⟨rfl, hJx3⟩)
      · have hr3 := hk3 HRs.out
        have hb3 := hr3.2
        have HR3 := Lib.hid hr3; clear hr3 hk3
        gi_wp2
        go_roundw
        case rel => exact ⟨pre ++ [⟨k, hlt⟩], by simp [HC.out, List.range_succ, HK.out], by simp; rw [HK.out]; omega, by simp [HK.out]; have := HM.out; omega, hJ3, HR3.out⟩
        case measure => simp [intOf]; have := HM.out; have := HL.out; omega
      · gi_wp2
        refine bodyPost_ret (results_none rfl _ _ _) rfl ?_
        exact ⟨⟨_, rfl⟩, .inr ⟨_, by simp [HC.out, List.range_succ, HK.out], hJx3⟩⟩
    · have hkq : k = q := by omega
      have hmL : m = L := by omega
      rw [hmL]
      have HRs := Lib.hid hRs; clear hRs
      have HM := Lib.hid hm; clear hm
      have HL := Lib.hid hL; clear hL
      have HK := Lib.hid hk; clear hk
      have HKQ := Lib.hid hkq; clear hkq
      have HC := Lib.hid hC; clear hC
      clear hmL
      gi_wp2
      go_end0
      exact ⟨⟨_, rfl⟩, .inl ⟨pre, by rw [HC.out, HK.out, HKQ.out], hJs⟩⟩

theorem reachC_putObj {Bs Bn : Nat} {A : Option Addr} {q cap : Nat} {W : World} (l : Nat) (o o' : Obj) (h : W.heap[l]? = some o) (ho : o.isCells = false) (hR : ReachC Bs Bn A q cap W) : ReachC Bs Bn A q cap (W.putObj l o') := by
  have hk : ∀ r, some l = some r → ∃ o : Obj, W.heap[r]? = some o ∧ o.isCells = false := fun r e => by cases e; exact ⟨_, h, ho⟩
  exact ⟨cell_kept hR.1 (grownBy_putObj' W l o') hk, cell_kept hR.2 (grownBy_putObj' W l o') hk⟩

theorem stopsC (n : Nat) (hn : 1 ≤ n) (Bs Bn b off q cap : Nat) (A : Option Addr) (hA : 0 < q → A = some ⟨b, off, none⟩) (hqc : 16 * q ≤ cap) (hcm : cap ≤ 9223372036854775807) (w : World) (hBs : Bs < w.heap.size) (hBn : Bn < w.heap.size) (hR : ReachC Bs Bn A q cap w) :
    SeqStopsK Fence.wide n Tryd.prog 48 #[.pointer (some ⟨Bs, 0, none⟩), .pointer (some ⟨Bn, 0, none⟩)] (fun x : Fin q => win b off x.val) (fun W W' => ReachC Bs Bn A q cap W → ReachC Bs Bn A q cap W')
      (fun ys => ys.map (·.val) = List.range q) (fun pre => pre.map (·.val) = List.range pre.length) q w := fun l J Jx W hW hJ _ hY h0 =>
  chunk1_in n hn l Bs Bn b off q cap A hA hqc hcm J Jx hY (fun s W1 h => hJ s W1 W1.drew none h (only_drew (World.grownBy.refl W1 none)) (fun r e => by cases e)) W
    ⟨(hW.cell (p := ⟨Bs, 0, none⟩) hBs).trans hR.1, (hW.cell (p := ⟨Bn, 0, none⟩) hBn).trans hR.2⟩ h0
end Go.Proofs.YtennhempdnpobaaDoor
