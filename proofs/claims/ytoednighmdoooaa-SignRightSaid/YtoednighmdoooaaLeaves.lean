/-
  sign.leaves of a seed's sixteen bytes answers the public keys of its eight leaves, in a row of the call's own; nothing that was there is written.
-/
import Derived.Test.YtoednighmdoooaaJoin
namespace Go.Proofs.Ytoednighmdoooaa
open Go.RowKit Go.Shelf
set_option maxRecDepth 100000

/-- A row of n nodes of the call's own. -/
def RowPost (n : Nat) (f : Nat → List UInt8) (w : World) (e : Ending) (w' : World) : Prop :=
  ∃ g vs, e = .returned (.slice (some ⟨g, 0, none⟩) n n) ∧ w'.ownsRow w.heap.size 22 1 (.slice (some ⟨g, 0, none⟩) n n) n vs ∧ Nodes w' w.heap.size vs n f ∧ Below w.heap.size w w'
set_option maxHeartbeats 4000000 in
theorem leaves_any (a : Option Addr) (cap : Nat) (sd : List UInt8) (w : World) (hA : Bsl w w.heap.size a 16 cap sd) : Calls Try.prog 22 #[.slice a 16 cap] w (RowPost 8 (nodeL sd 0) w) := by
  have hmk : ∀ W : World, (Instr.makeSlice 42 (.int .i64 0) (.int .i64 8)).run Try.prog W = .ok (.slice (some ⟨W.heap.size, 0, none⟩) 0 8) (W.alloc (.cells (Array.replicate 8 (.slice none 0 0)) 22)) := fun W => by kernel_rfl
  have hown : (w.alloc (.cells (Array.replicate 8 (.slice none 0 0)) 22)).ownsRow w.heap.size 22 1 (.slice (some ⟨w.heap.size, 0, none⟩) 0 8) 0 [] :=
    ⟨rfl, .inr ⟨w.heap.size, 8, _, rfl, Nat.le_refl _, heap_alloc_new w _, Nat.zero_le _, by unfold maxLen; omega, by kernel_rfl, rfl⟩⟩
  obtain ⟨Z, hZ⟩ : ∃ Z : Array Value, Array.replicate 8 (.slice none 0 0) = Z := ⟨_, rfl⟩
  rw [hZ] at hown
  simp only [hZ] at hmk
  clear hZ
  obtain ⟨g, hg⟩ : ∃ g, w.heap.size = g := ⟨_, rfl⟩
  obtain ⟨w1, hw1⟩ : ∃ w1, w.alloc (.cells Z 22) = w1 := ⟨_, rfl⟩
  have b1 : Below g w w1 := by rw [← hw1, ← hg]; exact (Below.refl _ w).alloc (Nat.le_refl _) _
  have hsz1 : w1.heap.size = g + 1 := by rw [← hw1, ← hg, World.size_alloc]
  rw [hw1, hg] at hown
  unfold RowPost
  rw [hg] at hA ⊢
  have HO1 := Lib.hid hown; clear hown
  have HB1 := Lib.hid b1; clear b1
  have HA := Lib.hid hA; clear hA
  have HZ := Lib.hid hsz1; clear hsz1
  go_enter Try.func22, Try.ntmps22
  go_wp2_with fail
  have HG := Lib.hid hg; clear hg hw1
  go_loopw [3, 8] (fun v i wr => ∃ k : Nat, k ≤ 8 ∧ i = .int .i64 k ∧ v = .slice (some ⟨g, 0, none⟩) k 8 ∧ ∃ vs, wr.ownsRow g 22 1 (.slice (some ⟨g, 0, none⟩) k 8) k vs ∧ Nodes wr (g + 1) vs k (nodeL sd 0) ∧ Below g w wr ∧ g + 1 ≤ wr.heap.size) (fun _ i _ => 8 - (intOf i).toNat)
  case atStart => exact ⟨0, by omega, rfl, rfl, [], HO1.out, nodes_nil _ _ _, HB1.out, by rw [HZ.out]; exact Nat.le_refl _⟩
  case round =>
    obtain ⟨k, hk, rfl, rfl, vs, ho, hn, hb, hz⟩ := hrel
    have k0 : (0 : Int) ≤ k := by omega
    by_cases hlt : k < 8
    · have k2 : (k : Int) < 8 := by omega
      have HP := Lib.hid (Public_ok a cap sd k hlt wr ((HA.out.below hb).more (by have := hb.size; have := HG.out; omega)))
      have HOr := Lib.hid ho; clear ho
      have HNr := Lib.hid hn; clear hn
      have HBr := Lib.hid hb; clear hb
      have HZr := Lib.hid hz; clear hz
      go_wp2_with fail
      refine HP.out.mono ?_
      rintro e w2 ⟨g2, c2, rfl, hge, h2, b2⟩
      have HO2 := Lib.hid ((own_below HOr.out b2).alloc (.cells #[.slice (some ⟨g2, 0, none⟩) 16 c2] 22))
      have HB2 := Lib.hid ((HBr.out.trans (b2.mono (by have := HZr.out; omega))).alloc (by have := HZr.out; have := b2.size; omega) (.cells #[.slice (some ⟨g2, 0, none⟩) 16 c2] 22))
      have HX2 := Lib.hid (Blk.new w2 22 #[.slice (some ⟨g2, 0, none⟩) 16 c2])
      have bx := (Below.refl w2.heap.size w2).alloc (Nat.le_refl _) (.cells #[.slice (some ⟨g2, 0, none⟩) 16 c2] 22)
      have HN2 := Lib.hid (((HNr.out.step b2).snoc ⟨g2, c2, rfl, Nat.le_trans HZr.out hge, h2⟩).step bx)
      have HZ2 := Lib.hid (Nat.le_trans HZr.out (Nat.le_trans b2.size bx.size))
      clear h2 b2 bx HP hge
      go_wp2_with (at_builtin
                   refine wpList_append_node rfl (.tmp 17) (.tmp 19) rfl g g k 8 vs rfl HO2.out w2.heap.size _ rfl HX2.out rfl (by omega) ?_
                   intro w7 hown7 hg7
                   have HB7 := Lib.hid (HB2.out.grown hg7 (by have := HZ2.out; omega) (fun k e => by injection e with e; omega))
                   have HN7 := Lib.hid (HN2.out.beside hg7 (by omega))
                   have HZ7 := Lib.hid (Nat.le_trans HZ2.out hg7.size); clear hg7
                   have HO7 := Lib.hid hown7; clear hown7)
      go_roundw
      case rel => exact ⟨k + 1, by omega, by go_num, rfl, _, HO7.out, HN7.out, HB7.out, HZ7.out⟩
      case measure => simp [intOf]; omega
    · obtain rfl : k = 8 := by omega
      have HOr := Lib.hid ho; clear ho
      have HNr := Lib.hid hn; clear hn
      have HBr := Lib.hid hb; clear hb
      go_wp2_with fail
      go_ret
      exact ⟨_, _, rfl, HOr.out, HNr.out.lower (by omega), HBr.out⟩
end Go.Proofs.Ytoednighmdoooaa
