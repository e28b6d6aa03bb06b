/-
  The first examples of chapter mac hold (alive): a key of 15 bytes is none; by one of sixteen noughts, nothing has one tag, nil or empty.
-/
import Derived.Test.YtgididgijhpfpaaMac
namespace Go.Proofs.Ytgididgijhpfpaa
open Go.RowKit Go.Shelf
set_option maxRecDepth 100000

theorem bsl_zeros (n : Nat) (hn : n ≤ 1000) (w : World) : Bsl (w.alloc (.cells (Array.replicate n (.int .u8 0)) 5)) (w.alloc (.cells (Array.replicate n (.int .u8 0)) 5)).heap.size (some ⟨w.heap.size, 0, none⟩) n n (List.replicate n 0) := by
  refine ⟨by simp, Nat.le_refl _, by unfold maxLen; omega, fun e => (by cases e), fun _ => ⟨_, 0, rfl, by simp, fun i hi => ?_⟩⟩
  have hi' : i < n := by simpa using hi
  rw [Nat.zero_add, (Blk.new w 5 (Array.replicate n (.int .u8 0))).cell i]
  simp [hi']
theorem bsl_empty (w : World) (B : Nat) (x : Addr) : Bsl w B (some x) 0 0 [] := ⟨rfl, Nat.le_refl _, by unfold maxLen; omega, fun e => (by cases e), fun h => absurd h (by omega)⟩
theorem bsl_none0 (w : World) (B : Nat) : Bsl w B none 0 0 [] := ⟨rfl, Nat.le_refl _, by unfold maxLen; omega, fun _ => rfl, fun h => absurd h (by omega)⟩

set_option maxHeartbeats 1000000 in
theorem alive_mac (w : World) : Calls Try.prog 7 #[] w fun e W' => e = .returned (.bool true) ∧ Below w.heap.size w W' := by
  have m15 : ∀ W : World, (Instr.makeSlice 23 (.int .i64 15) (.int .i64 15)).run Try.prog W = .ok (.slice (some ⟨W.heap.size, 0, none⟩) 15 15) (W.alloc (.cells (Array.replicate 15 (.int .u8 0)) 5)) := fun W => by kernel_rfl
  have m16 : ∀ W : World, (Instr.makeSlice 23 (.int .i64 16) (.int .i64 16)).run Try.prog W = .ok (.slice (some ⟨W.heap.size, 0, none⟩) 16 16) (W.alloc (.cells (Array.replicate 16 (.int .u8 0)) 5)) := fun W => by kernel_rfl
  obtain ⟨t, ht⟩ : ∃ t, tagW (List.replicate 16 0) [] = t := ⟨_, rfl⟩
  have t1 : ∀ W : World, Calls Try.prog 8 #[.slice (some ⟨W.heap.size, 0, none⟩) 16 16, .slice none 0 0] (W.alloc (.cells (Array.replicate 16 (.int .u8 0)) 5)) fun e w' => e = .returned (.tuple #[.int .u32 (t.toNat : Int), .int .i64 0]) ∧ Below (W.alloc (.cells (Array.replicate 16 (.int .u8 0)) 5)).heap.size (W.alloc (.cells (Array.replicate 16 (.int .u8 0)) 5)) w' := fun W => by
    have := tag_any (some ⟨W.heap.size, 0, none⟩) 16 (List.replicate 16 0) none 0 0 [] (W.alloc (.cells (Array.replicate 16 (.int .u8 0)) 5)) (bsl_zeros 16 (by omega) W) (bsl_none0 _ _) (by omega)
    rwa [ht] at this
  have t2 : ∀ (W : World) (x : Addr), Calls Try.prog 8 #[.slice (some ⟨W.heap.size, 0, none⟩) 16 16, .slice (some x) 0 0] ((W.alloc (.cells (Array.replicate 16 (.int .u8 0)) 5)).alloc (.cells #[] 5)) fun e w' => e = .returned (.tuple #[.int .u32 (t.toNat : Int), .int .i64 0]) ∧ Below W.heap.size ((W.alloc (.cells (Array.replicate 16 (.int .u8 0)) 5)).alloc (.cells #[] 5)) w' := fun W x => by
    have hb : Below (W.alloc (.cells (Array.replicate 16 (.int .u8 0)) 5)).heap.size (W.alloc (.cells (Array.replicate 16 (.int .u8 0)) 5)) ((W.alloc (.cells (Array.replicate 16 (.int .u8 0)) 5)).alloc (.cells #[] 5)) := (Below.refl _ _).alloc (Nat.le_refl _) _
    have := tag_any (some ⟨W.heap.size, 0, none⟩) 16 (List.replicate 16 0) (some x) 0 0 [] ((W.alloc (.cells (Array.replicate 16 (.int .u8 0)) 5)).alloc (.cells #[] 5)) (((bsl_zeros 16 (by omega) W).below hb).more hb.size) (bsl_empty _ _ _) (by omega)
    rw [ht] at this
    exact this.mono fun e w' ⟨h1, h2⟩ => ⟨h1, h2.mono (by simp; omega)⟩
  clear ht
  have T1 := Lib.hid t1; clear t1
  have T2 := Lib.hid t2; clear t2
  have hb0 := (Below.refl w.heap.size w).alloc (Nat.le_refl _) (.cells (Array.replicate 15 (.int .u8 0)) 5)
  have HB0 := Lib.hid hb0; clear hb0
  go_enter Try.func7, Try.ntmps7
  go_wp2_with fail
  refine (tag_bad _ 15 15 _ _ (by omega)).mono ?_
  rintro e w1 ⟨rfl, hw⟩
  rw [hw] at HB0
  clear hw
  go_wp2_with fail
  refine (T1.out w1).mono ?_
  rintro e w2 ⟨rfl, b2⟩
  have HB2 := Lib.hid ((HB0.out.alloc HB0.out.size (.cells (Array.replicate 16 (.int .u8 0)) 5)).trans (b2.mono (Nat.le_trans HB0.out.size (by simp)))); clear b2
  go_wp2_with fail
  refine (T2.out w2 _).mono ?_
  rintro e w3 ⟨rfl, b3⟩
  have HB3 := Lib.hid (((HB2.out.alloc HB2.out.size (.cells (Array.replicate 16 (.int .u8 0)) 5)).alloc (Nat.le_trans HB2.out.size (by simp)) (.cells #[] 5)).trans (b3.mono HB2.out.size)); clear b3
  go_wp2_with fail
  go_ret
  exact ⟨rfl, HB3.out⟩
end Go.Proofs.Ytgididgijhpfpaa
