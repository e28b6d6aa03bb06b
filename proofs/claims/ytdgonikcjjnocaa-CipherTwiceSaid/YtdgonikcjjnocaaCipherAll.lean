/-
  What follows of bytes turned by a stream (twice is not at all; noughts; two texts); new lists of noughts; alive: the chapter's last example holds.
-/
import Derived.Test.YtdgonikcjjnocaaCipher
import Derived.Lib.SlBytesConst
namespace Go.Proofs.Ytdgonikcjjnocaa
open Go.RowKit Go.Shelf
set_option maxRecDepth 100000

theorem turnW'_twice (k : List UInt8) (iv : Nat) (s : List UInt8) : turnW' k iv (turnW' k iv s) = s := by
  apply List.ext_getElem
  · rw [turnW'_length, turnW'_length]
  · intro i h1 h2
    have hl := turnW'_length k iv s
    simp only [turnW', List.getElem_zipWith, List.length_zipWith, stW_length, Nat.min_self]
    rw [← UInt8.xor_assoc, UInt8.xor_self, UInt8.zero_xor]
theorem turnW'_noughts (k : List UInt8) (iv n : Nat) : turnW' k iv (List.replicate n 0) = stW k iv n := by
  apply List.ext_getElem
  · simp [turnW'_length, stW_length]
  · intro i h1 h2
    simp [turnW']
theorem turnW'_inj (k : List UInt8) (iv : Nat) {s t : List UInt8} (h : turnW' k iv s = turnW' k iv t) : s = t := by rw [← turnW'_twice k iv s, h, turnW'_twice]

theorem make_noughts (n : Nat) (hn : n ≤ 100000) (W : World) : (Instr.makeSlice 22 (.int .i64 n) (.int .i64 n)).run Try.prog W = .ok (.slice (some ⟨W.heap.size, 0, none⟩) n n) (W.alloc (.cells (Array.replicate n (.int .u8 0)) 5)) := by
  obtain ⟨i0, hi, hz0, hz1, hz2⟩ := info_parts infoU8
  have hr := run_make (P := Try.prog) W 22 5 i0 (.int .u8 0) Try.underlying22 hi hz0 .i64 .i64 n n (by omega) (Int.le_refl _) (by rw [hz2]; omega) (by omega)
  have e : madeCells (Value.int .u8 0).cells (n * 1) = Array.replicate n (.int .u8 0) := by
    apply Array.ext
    · simp [size_madeCells]
    · intro i h1 h2
      simp [madeCells, Value.cells, Nat.mod_one]
  rw [hz1] at hr
  simp only [Int.toNat_natCast] at hr
  rw [e] at hr
  exact hr
theorem noughts_bsl (n : Nat) (hn : n ≤ 100000) (w : World) : Bsl (w.alloc (.cells (Array.replicate n (.int .u8 0)) 5)) (w.alloc (.cells (Array.replicate n (.int .u8 0)) 5)).heap.size (some ⟨w.heap.size, 0, none⟩) n n (List.replicate n 0) := by
  refine bsl_of_holds (by simp) (Nat.le_refl _) (by unfold maxLen; omega) (Blk.new w 5 _).lt fun i hi => ?_
  have hi' : i < n := by simpa using hi
  rw [(Blk.new w 5 (Array.replicate n (.int .u8 0))).cell i]
  simp [hi']

/-- The text of the last example. -/
def tabc : List UInt8 := [97, 98, 99]
set_option maxHeartbeats 1000000 in
theorem alive_cipher (w : World) : Calls Try.prog 9 #[] w fun e W' => e = .returned (.bool true) ∧ Below w.heap.size w W' := by
  obtain ⟨w1, hw1⟩ : ∃ w1, w.alloc (.cells (Array.replicate 16 (.int .u8 0)) 5) = w1 := ⟨_, rfl⟩
  have x1 := noughts_bsl 16 (by omega) w
  have b1 := (Below.refl w.heap.size w).alloc (Nat.le_refl _) (.cells (Array.replicate 16 (.int .u8 0)) 5)
  have m1 : (Instr.makeSlice 22 (.int .i64 16) (.int .i64 16)).run Try.prog w = .ok (.slice (some ⟨w.heap.size, 0, none⟩) 16 16) w1 := by rw [← hw1]; exact make_noughts 16 (by omega) w
  rw [hw1] at x1 b1
  clear hw1
  obtain ⟨w2, hw2⟩ : ∃ w2, w1.alloc (.cells (ar tabc) 5 (3, 4)) = w2 := ⟨_, rfl⟩
  have b2 : Below w1.heap.size w1 w2 := by rw [← hw2]; exact (Below.refl _ w1).alloc (Nat.le_refl _) _
  have y2 : w2.heap[w1.heap.size]? = some (.cells (ar tabc) 5 (3, 4)) := by rw [← hw2]; exact heap_alloc_new w1 _
  have x2 : Bsl w2 w2.heap.size (some ⟨w1.heap.size, 0, none⟩) 3 3 tabc := bsl_of_holds rfl (Nat.le_refl _) (by unfold maxLen; omega) (Array.getElem?_eq_some_iff.1 y2).1 fun i hi => by rw [cell_of_row _ _ _ _ _ _ y2, ar_get tabc i hi]
  have kc : (convert 22 22 (.slice (some ⟨w1.heap.size, 0, none⟩) 3 3)).run Try.prog (w1.alloc (.cells #[.int .u8 97, .int .u8 98, .int .u8 99] 5)) = .ok (.slice (some ⟨w1.heap.size, 0, none⟩) 3 3) w2 := by
    rw [← hw2]
    exact Lib.run_convert_bytes_const (P := Try.prog) w1 22 5 (ar tabc) 3 3 Try.underlying22 Try.underlying5
  have ct := Turn_ok _ _ _ 1 (by omega) _ _ _ _ (by omega) w2 (x1.step b2) x2
  have HCT := Lib.hid ct; clear ct
  have HX2 := Lib.hid (x1.step b2)
  have HB2 := Lib.hid (b1.trans (b2.mono b1.size)); clear b1 b2 x1 x2 y2 hw2
  have q1 : ((strOf tabc).toList == [97, 98, 99]) = true := by rw [strOf_toList]; rfl
  go_enter Try.func9, Try.ntmps9
  go_wp2_with fail
  refine HCT.out.mono ?_
  rintro e w3 ⟨a3, c3, rfl, h3, b3⟩
  have HB3 := Lib.hid (HB2.out.trans (b3.mono HB2.out.size))
  have ct := Turn_ok _ _ _ 1 (by omega) _ _ _ _ (by omega) w3 (HX2.out.step b3) (own_bsl h3)
  rw [turnW'_twice] at ct
  have HCT3 := Lib.hid ct; clear ct b3 h3 HCT HX2 HB2
  go_wp2_with fail
  refine HCT3.out.mono ?_
  rintro e w4 ⟨a4, c4, rfl, h4, b4⟩
  have c4 := (own_bsl h4).conv
  have HB4 := Lib.hid (HB3.out.trans (b4.mono HB3.out.size)); clear b4 h4
  go_wp2_with fail
  go_ret
  exact ⟨rfl, HB4.out⟩
end Go.Proofs.Ytdgonikcjjnocaa
