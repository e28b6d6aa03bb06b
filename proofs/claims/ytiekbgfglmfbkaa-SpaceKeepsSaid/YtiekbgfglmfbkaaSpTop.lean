/-
  space's own: bytes.Clone, a table with another mark, New, the closure that tells the free blocks.
-/
import Derived.Test.YtiekbgfglmfbkaaSpCode
namespace Go.Proofs.Ytiekbgfglmfbkaa
open Go.RowKit Go.Shelf
set_option maxRecDepth 100000

set_option maxHeartbeats 1000000 in
theorem spClone_any (a : Option Addr) (n c : Nat) (s : List UInt8) (w : World) (hA : Bsl w w.heap.size a n c s) (h0 : 0 < n) (hn : n ≤ 20000) : Calls Try.prog 27 #[.slice a n c] w (OwnV n s w) := by
  obtain ⟨b, off, rfl, _⟩ := hA.at_ h0
  have HA := Lib.hid hA.2.2.2
  have b0 := (Below.refl w.heap.size w).alloc (Nat.le_refl _) (.cells #[] 5)
  have HB0 := Lib.hid b0
  have HS := Lib.hid (hA.step b0)
  have HO0 := Lib.hid (own_empty w)
  have HQ : (binOp .eql 26 (.slice (some ⟨b, off, none⟩) n c) (.slice none 0 0)).run Try.prog w = .ok (.bool false) w := by kernel_rfl
  clear hA b0
  go_enter Try.func27, Try.ntmps27
  go_wp2_with (at_builtin
               refine wpList_append_bsl rfl (.tmp 5) (.tmp 6) rfl w.heap.size _ 0 _ rfl HO0.out _ (some ⟨b, off, none⟩) n c s rfl HS.out (by omega) HB0.out.size ?_
               intro v1 W1 hown1 hg1
               rw [Nat.zero_add, List.nil_append] at hown1
               have HB1 := Lib.hid (app_below HB0.out HO0.out hg1 HB0.out.size); clear hg1
               have HO1 := Lib.hid hown1; clear hown1)
  go_ret
  exact ⟨_, rfl, HO1.out, HB1.out⟩
/-- A row of the call's own in which one byte is written. -/
theorem own_set {w : World} {B n c g : Nat} {s : List UInt8} (h : w.ownsRow B 5 1 (.slice (some ⟨g, 0, none⟩) n c) n (vals s)) (i : Nat) (_hi : i < n) (y : UInt8) : (w.setCell ⟨g, i, none⟩ (.int .u8 (y.toNat : Int))).ownsRow B 5 1 (.slice (some ⟨g, 0, none⟩) n c) n (vals (s.set i y)) := by
  obtain ⟨h1, ⟨h2, h3⟩ | ⟨g', cap', cur, h2, hb, hh, hnc, hcm, hsz, ht⟩⟩ := h
  · cases h2
  · cases h2
    refine ⟨by simpa [vals] using h1, .inr ⟨g, c, cur.setIfInBounds i (.int .u8 (y.toNat : Int)), rfl, hb, Blk.set_ (g := g) (t := 5) hh i _, hnc, hcm, by simpa using hsz, ?_⟩⟩
    rw [Array.toList_setIfInBounds, List.take_set, vals, List.map_set]
    have e : List.take (n * 1) cur.toList = vals s := by simpa using ht
    rw [show (List.take (n * 1) cur.toList) = vals s from e]
    rfl
theorem own_mk {w : World} {B n c g : Nat} {s : List UInt8} (h : w.ownsRow B 5 1 (.slice (some ⟨g, 0, none⟩) n c) n (vals s)) (i : Nat) (hi : i < n) : w.cell? ⟨g, i, none⟩ = some (.int .u8 ((mkT s i : Nat) : Int)) := by
  have := (own_bsl h).mk i hi
  rwa [Nat.zero_add] at this
theorem own_at {w : World} {B n : Nat} {v : Value} {s : List UInt8} (h : w.ownsRow B 5 1 v n (vals s)) (h0 : 0 < n) : ∃ g c, v = .slice (some ⟨g, 0, none⟩) n c := by
  obtain ⟨g, c, e, _⟩ := bsl_of_own h h0
  exact ⟨g, c, e⟩
/-- A table with another mark, in new memory. -/
theorem spWith_any (a : Option Addr) (n c : Nat) (s : List UInt8) (k : Nat) (y : UInt8) (w : World) (hA : Bsl w w.heap.size a n c s) (hk : k < n) (hn : n ≤ 20000) : Calls Try.prog 26 #[.slice a n c, .int .i64 k, .int .u8 (y.toNat : Int)] w (OwnV n (s.set k y) w) := by
  have HC := Lib.hid (spClone_any a n c s w hA (by omega) hn)
  clear hA
  have k0 : (0 : Int) ≤ k := by omega
  have k1 : (k : Int) < n := by omega
  obtain ⟨z, hz⟩ : ∃ z : Int, (y.toNat : Int) = z := ⟨_, rfl⟩
  have HZ := Lib.hid hz
  rw [hz]
  clear hz
  go_enter Try.func26, Try.ntmps26
  go_wp2_with fail
  refine HC.out.mono ?_
  rintro e w1 ⟨v, rfl, ho, b1⟩
  obtain ⟨g, c', rfl⟩ := own_at ho (by omega)
  have hc := own_mk ho k hk
  have hw := own_set ho k hk y
  rw [HZ.out] at hw
  have hlt := own_lt ho
  have HB := Lib.hid (b1.setCell (p := ⟨g, k, none⟩) hlt.1 (.int .u8 z))
  have HO := Lib.hid hw
  have hf : w1.frozen? ⟨g, k, none⟩ = false := by
    obtain ⟨cs, hbk⟩ := own_blk ho
    exact hbk.frozen k
  clear ho b1 hw hlt
  go_wp2_with fail
  go_ret
  exact ⟨_, rfl, HO.out, HB.out⟩
set_option maxHeartbeats 1000000 in
theorem spNew_any (w : World) : Calls Try.prog 9 #[] w (OwnV 256 (newTo 12) w) := by
  have hmk : ∀ W : World, (Instr.makeSlice 26 (.int .i64 256) (.int .i64 256)).run Try.prog W = .ok (.slice (some ⟨W.heap.size, 0, none⟩) 256 256) (W.alloc (.cells (Array.replicate 256 (.int .u8 0)) 5)) := fun W => by kernel_rfl
  obtain ⟨g, hg⟩ : ∃ g, w.heap.size = g := ⟨_, rfl⟩
  obtain ⟨w1, hw1⟩ : ∃ w1, w.alloc (.cells (Array.replicate 256 (.int .u8 0)) 5) = w1 := ⟨_, rfl⟩
  have hown : w1.ownsRow g 5 1 (.slice (some ⟨g, 0, none⟩) 256 256) 256 (vals (newTo 0)) := by
    subst hw1; subst hg
    refine ⟨by simp [vals, newTo], .inr ⟨w.heap.size, 256, Array.replicate 256 (.int .u8 0), rfl, Nat.le_refl _, heap_alloc_new w _, Nat.le_refl _, by unfold maxLen; omega, by simp, ?_⟩⟩
    simp [newTo, vals]
  have hb : Below g w w1 := by
    subst hw1; subst hg
    exact (Below.refl _ w).alloc (Nat.le_refl _) _
  have HO := Lib.hid hown
  have HB := Lib.hid hb
  have HG := Lib.hid hg
  have hmk' : (Instr.makeSlice 26 (.int .i64 256) (.int .i64 256)).run Try.prog w = .ok (.slice (some ⟨g, 0, none⟩) 256 256) w1 := by rw [hmk w, hg, hw1]
  clear hown hb hmk hw1 hg
  go_enter Try.func9, Try.ntmps9
  go_wp2_with fail
  go_loopw [4] (fun i wr => ∃ k : Nat, k ≤ 12 ∧ i = .int .i64 k ∧ wr.ownsRow g 5 1 (.slice (some ⟨g, 0, none⟩) 256 256) 256 (vals (newTo k)) ∧ Below g w wr) (fun i _ => 12 - (intOf i).toNat)
  case atStart => exact ⟨0, Nat.zero_le _, rfl, HO.out, HB.out⟩
  case round =>
    obtain ⟨k, hk, rfl, ho, hb⟩ := hrel
    have k0 : (0 : Int) ≤ k := by omega
    by_cases hlt : k < 12
    · have k1 : (k : Int) < 12 := by omega
      have hc := own_mk ho k (by omega)
      have hw := own_set ho k (by omega) 1
      rw [newTo_set (by omega)] at hw
      have HB2 := Lib.hid (hb.setCell (p := ⟨g, k, none⟩) (Nat.le_refl _) (.int .u8 1))
      have HO2 := Lib.hid (show (wr.setCell ⟨g, k, none⟩ (.int .u8 1)).ownsRow g 5 1 (.slice (some ⟨g, 0, none⟩) 256 256) 256 (vals (newTo (k + 1))) from hw)
      have hf : wr.frozen? ⟨g, k, none⟩ = false := by
        obtain ⟨cs, hbk⟩ := own_blk ho
        exact hbk.frozen k
      clear ho hb hw
      go_wp2_with fail
      go_roundw
      case rel => exact ⟨k + 1, by omega, by go_num, HO2.out, HB2.out⟩
      case measure => simp [intOf]; omega
    · have hkk : k = 12 := by omega
      rw [hkk] at ho ⊢
      have HO2 := Lib.hid ho
      have HB2 := Lib.hid hb
      clear ho hb hkk hlt hk k0
      go_wp2_with fail
      go_ret
      exact ⟨_, rfl, by rw [HG.out]; exact HO2.out, by rw [HG.out]; exact HB2.out⟩
/-- The closure that tells the free blocks: its place lies in block gp, the table's slice in block gs. -/
theorem spOnes_any (a : Option Addr) (n c : Nat) (w : World) : Calls Try.prog 25 #[.slice a n c] w fun e w' => ∃ gp gs, e = .returned (.func (.func 35) #[] #[.pointer (some ⟨gp, 0, none⟩), .pointer (some ⟨gs, 0, none⟩)]) ∧ w.heap.size ≤ gp ∧ w.heap.size ≤ gs ∧ gp ≠ gs ∧ Blk w' gp 3 #[.int .i64 0] ∧ Blk w' gs 26 #[.slice a n c] ∧ Below w.heap.size w w' := by
  have b1 := (Below.refl w.heap.size w).alloc (Nat.le_refl _) (.cells #[.slice a n c] 26)
  have b2 := b1.alloc b1.size (.cells #[.int .i64 0] 3)
  have z1 := (Blk.new w 26 #[.slice a n c]).alloc (.cells #[.int .i64 0] 3)
  have z2 := Blk.new (w.alloc (.cells #[.slice a n c] 26)) 3 #[.int .i64 0]
  have HB := Lib.hid b2
  have HZ1 := Lib.hid z1
  have HZ2 := Lib.hid z2
  clear b1 b2 z1 z2
  go_enter Try.func25, Try.ntmps25
  go_wp2_with fail
  go_ret
  refine ⟨_, _, rfl, by simp, by simp, by simp, ?_, HZ1.out, HB.out⟩
  have h := HZ2.out
  rw [World.size_alloc] at h
  exact h
end Go.Proofs.Ytiekbgfglmfbkaa
