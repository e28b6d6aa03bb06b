/-
  What follows of bytes sealed; alive: the chapter's first examples hold.
-/
import Derived.Test.YtomobnecdkachaaSeal
import Derived.Test.YtomobnecdkachaaCipherAll
namespace Go.Proofs.Ytomobnecdkachaa
open Go.RowKit Go.Shelf
set_option maxRecDepth 100000

theorem next_tag (t : BitVec 32) : t ≠ t + 1 := fun h => by
  have h1 := congrArg BitVec.toNat h
  rw [BitVec.toNat_add] at h1
  have h2 := t.isLt
  simp at h1
  omega
theorem next_toNat (t : BitVec 32) : (((t + 1).toNat : Nat) : Int) = ((t.toNat : Int) + 1) % 4294967296 := by
  rw [BitVec.toNat_add]
  simp

set_option maxHeartbeats 1000000 in
theorem alive_seal (w : World) : Calls Try.prog 9 #[] w fun e W' => e = .returned (.bool true) ∧ Below w.heap.size w W' := by
  obtain ⟨w1, hw1⟩ : ∃ w1, w.alloc (.cells (Array.replicate 16 (.int .u8 0)) 5) = w1 := ⟨_, rfl⟩
  have x1 := noughts_bsl 16 (by omega) w
  have b1 := (Below.refl w.heap.size w).alloc (Nat.le_refl _) (.cells (Array.replicate 16 (.int .u8 0)) 5)
  have m1 : (Instr.makeSlice 22 (.int .i64 16) (.int .i64 16)).run Try.prog w = .ok (.slice (some ⟨w.heap.size, 0, none⟩) 16 16) w1 := by rw [← hw1]; exact make_noughts 16 (by omega) w
  rw [hw1] at x1 b1
  clear hw1
  obtain ⟨w2, hw2⟩ : ∃ w2, w1.alloc (.cells (ar tabc) 5 (3, 4)) = w2 := ⟨_, rfl⟩
  have b2 : Below w1.heap.size w1 w2 := by rw [← hw2]; exact (Below.refl _ w1).alloc (Nat.le_refl _) _
  have y2 : w2.heap[w1.heap.size]? = some (.cells (ar tabc) 5 (3, 4)) := by rw [← hw2]; exact heap_alloc_new w1 _
  have x2 : Bsl w2 w2.heap.size (some ⟨w1.heap.size, 0, none⟩) 3 3 tabc := bsl_of_holds rfl (Nat.le_refl _) (by unfold maxLen; omega) (Array.getElem?_eq_some_iff.1 y2).1 fun i hi => by rw [cell_of_row _ _ _ _ _ _ y2, ar_get tabc i hi]
  have kc : (convert 22 22 (.slice (some ⟨w1.heap.size, 0, none⟩) 3 3)).run Try.prog (w1.alloc (.cells #[.int .u8 97, .int .u8 98, .int .u8 99] 5)) = .ok (.slice (some ⟨w1.heap.size, 0, none⟩) 3 3) w2 := by
    rw [← hw2]
    exact Lib.run_convert_bytes_const (P := Try.prog) w1 22 5 (ar tabc) 3 3 Try.underlying22 Try.underlying5
  obtain ⟨k, hk⟩ : ∃ k, List.replicate 16 (0 : UInt8) = k := ⟨_, rfl⟩
  rw [hk] at x1
  clear hk
  have ct := Seal_ok _ _ _ 1 (by omega) _ _ _ _ (by omega) w2 (x1.step b2) x2
  obtain ⟨s, hs⟩ : ∃ s, turnW' k 1 tabc = s := ⟨_, rfl⟩
  have hs' : turnW' k 1 s = tabc := by rw [← hs, turnW'_twice]
  obtain ⟨t, ht⟩ : ∃ t, sealW k 1 s = t := ⟨_, rfl⟩
  rw [hs, ht] at ct
  have HT := Lib.hid ht; clear ht
  have HS := Lib.hid hs'; clear hs hs'
  have HCT := Lib.hid ct; clear ct
  have HX2 := Lib.hid (x1.step b2)
  have HB2 := Lib.hid (b1.trans (b2.mono b1.size)); clear b1 b2 x1 x2 y2 hw2
  have q1 : ((strOf tabc).toList == [97, 98, 99]) = true := by rw [strOf_toList]; rfl
  go_enter Try.func9, Try.ntmps9
  go_wp2_with fail
  refine HCT.out.mono ?_
  rintro e w3 ⟨a3, c3, rfl, h3, b3⟩
  have HX3 := Lib.hid (HX2.out.step b3)
  have HY3 := Lib.hid (own_bsl h3)
  have HB3 := Lib.hid (HB2.out.trans (b3.mono HB2.out.size)); clear h3 b3 HX2 HB2 HCT kc m1
  have ct := Open_ok _ _ k 1 (by omega) _ _ _ s (by omega) w3 HX3.out HY3.out
  rw [HS.out, HT.out] at ct
  have HCT := Lib.hid ct; clear ct
  go_wp2_with fail
  refine HCT.out.mono ?_
  rintro e w4 ⟨a4, c4, rfl, h4, b4⟩
  have HX4 := Lib.hid (HX3.out.step b4)
  have HY4 := Lib.hid (HY3.out.step b4)
  have HZ4 := Lib.hid (own_bsl h4)
  have HB4 := Lib.hid (HB3.out.trans (b4.mono HB3.out.size)); clear h4 b4 HX3 HB3 HCT HY3
  have ct := Open_tag _ _ k 1 (by omega) _ _ _ s (by omega) (t + 1) (by rw [HT.out]; exact next_tag t) w4 HX4.out HY4.out
  have nt := next_toNat t
  obtain ⟨z, hz⟩ : ∃ z : Int, (((t + 1).toNat : Nat) : Int) = z := ⟨_, rfl⟩
  rw [hz] at ct nt
  have HCT := Lib.hid ct; clear ct
  go_wp2_with fail
  rw [← nt]
  refine HCT.out.mono ?_
  rintro e w5 ⟨rfl, b5⟩
  have q4 := (HZ4.out.step b5).conv
  have HB5 := Lib.hid (HB4.out.trans (b5.mono HB4.out.size)); clear b5 HX4 HY4 HZ4 HB4 HCT nt hz
  go_wp2_with fail
  go_ret
  exact ⟨rfl, HB5.out⟩

/-- What Seal answers, whatever it is handed. -/
theorem seal_tells (a : Option Addr) (la ca : Nat) (k : List UInt8) (iv : Nat) (hiv : iv < 4294967296) (b : Option Addr) (lb cb : Nat) (s : List UInt8) : ∃ (c : Int) (t : BitVec 32) (n : Nat) (x : List UInt8),
    (c = 0 → la = 16 ∧ lb ≤ 256) ∧ ∀ W, Bsl W W.heap.size a la ca k → Bsl W W.heap.size b lb cb s → Calls Try.prog 7 #[.slice a la ca, .int .u32 iv, .slice b lb cb] W (OutT c t n x W) := by
  by_cases h : la = 16
  · subst h
    by_cases h1 : 256 < lb
    · exact ⟨3, 0, 0, [], fun h => absurd h (by omega), fun W _ _ => Seal_far a ca _ b lb cb h1 W⟩
    · exact ⟨0, _, lb, _, fun _ => ⟨rfl, by omega⟩, fun W hA hB => Seal_ok a ca k iv hiv b lb cb s (by omega) W hA hB⟩
  · exact ⟨2, 0, 0, [], fun h => absurd h (by omega), fun W _ _ => Seal_key a la ca h _ _ W⟩
theorem texts_same (s t : List UInt8) (h : s = t) : ((strOf s).toList == (strOf t).toList) = true := by subst h; simp
theorem texts_not (s t : List UInt8) (h : s ≠ t) : ((strOf s).toList == (strOf t).toList) = false := by rw [strOf_toList, strOf_toList]; exact beq_eq_false_iff_ne.2 h
/-- What Open answers to bytes that may be sealed so. -/
theorem open_tells (A : Option Addr) (cap : Nat) (k : List UInt8) (iv : Nat) (hiv : iv < 4294967296) (b : Option Addr) (lb cb : Nat) (s : List UInt8) (hn : lb ≤ 256) (t : BitVec 32) : ∃ (c : Int) (n : Nat) (x : List UInt8),
    ((c == 0) == (((sealW k iv s).toNat : Int) == (t.toNat : Int))) = true ∧ ∀ W, Bsl W W.heap.size A 16 cap k → Bsl W W.heap.size b lb cb s → Calls Try.prog 8 #[.slice A 16 cap, .int .u32 iv, .slice b lb cb, .int .u32 (t.toNat : Int)] W (Out c n x W) := by
  by_cases h : sealW k iv s = t
  · subst h
    exact ⟨0, lb, _, by simp, fun W hA hS => Open_ok A cap k iv hiv b lb cb s hn W hA hS⟩
  · refine ⟨131, 0, [], ?_, fun W hA hS => (Open_tag A cap k iv hiv b lb cb s hn t h W hA hS).mono fun e W' ⟨he, hb⟩ => ⟨none, 0, he, own_nil _ _, hb⟩⟩
    have : (((sealW k iv s).toNat : Int) == (t.toNat : Int)) = false := by
      refine beq_eq_false_iff_ne.2 fun e => h (BitVec.eq_of_toNat_eq ?_)
      exact Int.ofNat.inj e
    rw [this]; rfl
end Go.Proofs.Ytomobnecdkachaa
