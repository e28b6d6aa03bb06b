/-
  MixTellsSaid: for any bytes (beyond 10,000 the law itself answers true) and any four words: the four words, the sum and the key of the bytes, and the words turned, there and back, are the document's own; the bytes stay. No condition.
-/
import Derived.Test.YthndfdnfaeioeaaRows
import Derived.Test.YthndfdnfaeioeaaMixRefC
import Derived.Test.YthndfdnfaeioeaaHeld
import Derived.Test.YthndfdnfaeioeaaMov
namespace Go.Proofs.Ythndfdnfaeioeaa
open Go.RowKit Go.Shelf
set_option maxRecDepth 100000

theorem mixTells_far (a : Option Addr) (len cap : Nat) (xs : Array Value) (w : World) (hl : (10000 : Int) < len) (_hm : (len : Int) ≤ 9223372036854775807) : Calls Try.prog 4 #[.slice a len cap, .agg xs] w fun e w' => e = .returned (.bool true) ∧ Below w.heap.size w w' := by
  have HB := Lib.hid ((Below.refl w.heap.size w).alloc (Nat.le_refl _) (.cells xs 23))
  go_enter Try.func4, Try.ntmps4
  go_wp2_with fail
  go_ret
  exact ⟨rfl, HB.out⟩

theorem heldB {w W W1 : World} (h : Below w.heap.size w W) (b : Below W.heap.size W W1) : Below w.heap.size w W1 := h.trans (b.mono h.size)
set_option linter.unusedSimpArgs false in
set_option maxHeartbeats 8000000 in
theorem mixTells_near (a : Option Addr) (len cap : Nat) (s : List UInt8) (y : W4) (w : World) (hA : Bsl w w.heap.size a len cap s) (hl : (len : Int) ≤ 10000) : Calls Try.prog 4 #[.slice a len cap, ag y] w fun e w' => e = .returned (.bool true) ∧ Below w.heap.size w w' := by
  have hmx : Try.prog.follows Departure.mixedOrders = true := by kernel_rfl
  have i0 : (0 : Int) ≤ len := by omega
  have V1 : ∀ W, Below w.heap.size w W → (convert 25 9 (.slice a len cap)).run Try.prog W = .ok (.string (strOf s)) W := fun W hW => (hA.below hW).conv
  have hAW : ∀ W, Below w.heap.size w W → Bsl W W.heap.size a len cap s := fun W hW => (hA.below hW).more hW.size
  obtain ⟨X, hX⟩ : ∃ X, fourW s = X := ⟨_, rfl⟩
  have F1 := Lib.hid (fun W (hW : Below w.heap.size w W) => by have := four_any a len cap s W (hAW W hW) (by omega); rw [hX] at this; exact this)
  have F2 := Lib.hid (fun W (hW : Below w.heap.size w W) => by have := rfour_any a len cap s W (hAW W hW) (by omega); rw [hX] at this; exact this)
  have F3 := Lib.hid (fun W (hW : Below w.heap.size w W) => by have := sum_any a len cap s W (hAW W hW) (by omega); rw [hX] at this; exact this)
  have F4 := Lib.hid (fun W (hW : Below w.heap.size w W) => by have := rsum_any a len cap s W (hAW W hW) (by omega); rw [hX] at this; exact this)
  have F5 := Lib.hid (fun W (hW : Below w.heap.size w W) => by have := key_any a len cap s W (hAW W hW) (by omega); rw [hX] at this; exact this)
  have F6 := Lib.hid (fun W (hW : Below w.heap.size w W) => by have := rkey_any a len cap s W (hAW W hW) (by omega); rw [hX] at this; exact this)
  clear hA hAW hX
  have q1 := fun W => (eql4 X X W).trans (by rw [eqW_self])
  have q2 := fun W => (eql4 (turnW y) (turnW y) W).trans (by rw [eqW_self])
  have q3 := fun W => (eql4 (backW y) (backW y) W).trans (by rw [eqW_self])
  have hb0 : Below w.heap.size w (w.alloc (.cells (cl y) 23)) := (Below.refl w.heap.size w).alloc (Nat.le_refl _) _
  have hk0 := held4_of (Blk.new w 23 (cl y)).drew hb0.drew
  have VV := V1 _ hb0
  obtain ⟨Y1, hY1⟩ : ∃ Y1, turnW y = Y1 := ⟨_, rfl⟩
  obtain ⟨Y2, hY2⟩ : ∃ Y2, backW y = Y2 := ⟨_, rfl⟩
  have T1 := Lib.hid (fun W => by have := turn_any y W; rw [hY1] at this; exact this)
  have T2 := Lib.hid (fun W => by have := rturn_any y W; rw [hY1] at this; exact this)
  have T3 := Lib.hid (fun W => by have := back_any y W; rw [hY2] at this; exact this)
  have T4 := Lib.hid (fun W => by have := rback_any y W; rw [hY2] at this; exact this)
  rw [hY1] at q2
  rw [hY2] at q3
  clear hY1 hY2
  have s1 := strOf_toList s
  have s2 := strOf_toList (bytesW X 4)
  go_enter Try.func4, Try.ntmps4
  go_wp2_with fail
  obtain ⟨w0, hw0⟩ : ∃ w0, (w.alloc (.cells (cl y) 23)).drew = w0 := ⟨_, rfl⟩
  rw [hw0] at hk0
  obtain ⟨⟨c0, c1, c2, c3⟩, bx⟩ := hk0
  have C0 := fun W (hW : Below w0.heap.size w0 W) => (hW.cell (World.block_lt_of_cell? w0 _ c0)).trans c0
  have C1 := fun W (hW : Below w0.heap.size w0 W) => (hW.cell (World.block_lt_of_cell? w0 _ c1)).trans c1
  have C2 := fun W (hW : Below w0.heap.size w0 W) => (hW.cell (World.block_lt_of_cell? w0 _ c2)).trans c2
  have C3 := fun W (hW : Below w0.heap.size w0 W) => (hW.cell (World.block_lt_of_cell? w0 _ c3)).trans c3
  have VB := fun W (hW : Below w0.heap.size w0 W) => V1 W (bx.trans (hW.mono bx.size))
  have bw : Below w0.heap.size w0 w0 := Below.refl _ _
  clear c0 c1 c2 c3 V1
  have hw0' : (w.alloc (.cells (cl y) 23)).drew = w0 := hw0
  have HW0 := Lib.hid hw0'; clear hw0 hw0' VV
  refine wpS_start [0, 2, 1, 3, 4, 5, 6, 8, 7, 9, 10, 11, 12, 13, 16, 14, 15, 17, 18, 19, 20, 21, 22, 24, 23, 25, 26, 27, 28, 29, 31, 30, 32, 33, 34, 35, 36, 37, 38, 39, 40, 41] hmx rfl HW0.out ?_
  refine wpS_read (v := ?_) rfl (by kernel_rfl) (by kernel_rfl) (by kernel_rfl) (fun _ _ _ h => h) (.inl ⟨by rfl, ?_⟩) ?_
  rotate_left
  · intro W hW
    have hWa := hW _ bw
    go_simp
    with_reducible rfl
  try simp only [Act.put, List.setIfInBounds_toArray, List.set_cons_zero, List.set_cons_succ]
  refine wpS_read (v := ?_) rfl (by kernel_rfl) (by kernel_rfl) (by kernel_rfl) (fun _ _ _ h => h) (.inl ⟨by rfl, ?_⟩) ?_
  rotate_left
  · intro W hW
    have hWa := hW _ bw
    go_simp
    with_reducible rfl
  try simp only [Act.put, List.setIfInBounds_toArray, List.set_cons_zero, List.set_cons_succ]
  refine wpS_lone rfl (by kernel_rfl) (fun K hK => ?_)
  go_simp
  refine (F1.out _ bx).mono ?_
  rintro e w9 ⟨rfl, b9⟩
  have bw := heldB bw b9
  have bx := heldB bx b9
  refine hK _ _ (Stays.of_below b9) ?_
  clear hK K b9
  try simp only [Act.put, List.setIfInBounds_toArray, List.set_cons_zero, List.set_cons_succ]
  refine wpS_lone rfl (by kernel_rfl) (fun K hK => ?_)
  go_simp
  refine (F2.out _ bx).mono ?_
  rintro e w9 ⟨rfl, b9⟩
  have bw := heldB bw b9
  have bx := heldB bx b9
  refine hK _ _ (Stays.of_below b9) ?_
  clear hK K b9
  try simp only [Act.put, List.setIfInBounds_toArray, List.set_cons_zero, List.set_cons_succ]
  refine wpS_read (v := ?_) rfl (by kernel_rfl) (by kernel_rfl) (by kernel_rfl) (fun _ _ _ h => h) (.inl ⟨by rfl, ?_⟩) ?_
  rotate_left
  · intro W hW
    have hWa := hW _ bw
    go_simp
    with_reducible rfl
  try simp only [Act.put, List.setIfInBounds_toArray, List.set_cons_zero, List.set_cons_succ]
  refine wpS_read (v := ?_) rfl (by kernel_rfl) (by kernel_rfl) (by kernel_rfl) (fun _ _ _ h => h) (.inl ⟨by rfl, ?_⟩) ?_
  rotate_left
  · intro W hW
    have hWa := hW _ bw
    go_simp
    with_reducible rfl
  try simp only [Act.put, List.setIfInBounds_toArray, List.set_cons_zero, List.set_cons_succ]
  refine wpS_read (v := ?_) rfl (by kernel_rfl) (by kernel_rfl) (by kernel_rfl) (fun _ _ _ h => h) (.inl ⟨by rfl, ?_⟩) ?_
  rotate_left
  · intro W hW
    have hWa := hW _ bw
    go_simp
    with_reducible rfl
  try simp only [Act.put, List.setIfInBounds_toArray, List.set_cons_zero, List.set_cons_succ]
  refine wpS_read (v := ?_) rfl (by kernel_rfl) (by kernel_rfl) (by kernel_rfl) (fun _ _ _ h => h) (.inl ⟨by rfl, ?_⟩) ?_
  rotate_left
  · intro W hW
    have hWa := hW _ bw
    go_simp
    with_reducible rfl
  try simp only [Act.put, List.setIfInBounds_toArray, List.set_cons_zero, List.set_cons_succ]
  refine wpS_lone rfl (by kernel_rfl) (fun K hK => ?_)
  go_simp
  refine (F3.out _ bx).mono ?_
  rintro e w9 ⟨rfl, b9⟩
  have bw := heldB bw b9
  have bx := heldB bx b9
  refine hK _ _ (Stays.of_below b9) ?_
  clear hK K b9
  try simp only [Act.put, List.setIfInBounds_toArray, List.set_cons_zero, List.set_cons_succ]
  refine wpS_lone rfl (by kernel_rfl) (fun K hK => ?_)
  go_simp
  refine (F4.out _ bx).mono ?_
  rintro e w9 ⟨rfl, b9⟩
  have bw := heldB bw b9
  have bx := heldB bx b9
  refine hK _ _ (Stays.of_below b9) ?_
  clear hK K b9
  try simp only [Act.put, List.setIfInBounds_toArray, List.set_cons_zero, List.set_cons_succ]
  refine wpS_read (v := ?_) rfl (by kernel_rfl) (by kernel_rfl) (by kernel_rfl) (fun _ _ _ h => h) (.inl ⟨by rfl, ?_⟩) ?_
  rotate_left
  · intro W hW
    have hWa := hW _ bw
    go_simp
    with_reducible rfl
  try simp only [Act.put, List.setIfInBounds_toArray, List.set_cons_zero, List.set_cons_succ]
  refine wpS_read (v := ?_) rfl (by kernel_rfl) (by kernel_rfl) (by kernel_rfl) (fun _ _ _ h => h) (.inl ⟨by rfl, ?_⟩) ?_
  rotate_left
  · intro W hW
    have hWa := hW _ bw
    go_simp
    with_reducible rfl
  try simp only [Act.put, List.setIfInBounds_toArray, List.set_cons_zero, List.set_cons_succ]
  refine wpS_read (v := ?_) rfl (by kernel_rfl) (by kernel_rfl) (by kernel_rfl) (fun _ _ _ h => h) (.inl ⟨by rfl, ?_⟩) ?_
  rotate_left
  · intro W hW
    have hWa := hW _ bw
    go_simp
    with_reducible rfl
  try simp only [Act.put, List.setIfInBounds_toArray, List.set_cons_zero, List.set_cons_succ]
  refine wpS_read (v := ?_) rfl (by kernel_rfl) (by kernel_rfl) (by kernel_rfl) (fun _ _ _ h => h) (.inl ⟨by rfl, ?_⟩) ?_
  rotate_left
  · intro W hW
    have hWa := hW _ bw
    go_simp
    with_reducible rfl
  try simp only [Act.put, List.setIfInBounds_toArray, List.set_cons_zero, List.set_cons_succ]
  refine wpS_read (v := ?_) rfl (by kernel_rfl) (by kernel_rfl) (by kernel_rfl) (fun _ _ _ h => h) (.inl ⟨by rfl, ?_⟩) ?_
  rotate_left
  · intro W hW
    have hWa := hW _ bw
    go_simp
    with_reducible rfl
  try simp only [Act.put, List.setIfInBounds_toArray, List.set_cons_zero, List.set_cons_succ]
  refine wpS_lone rfl (by kernel_rfl) (fun K hK => ?_)
  go_simp
  refine (F5.out _ bx).mono ?_
  rintro e wk ⟨gk, ck, rfl, k1, k2, k3, k4, k5, b9⟩
  have VK : ∀ W, Below wk.heap.size wk W → (convert 25 9 (.slice (some ⟨gk, 0, none⟩) 16 ck)).run Try.prog W = .ok (.string (strOf (bytesW X 4))) W := fun W hW => (k5.below hW k2).conv (len := 16) (cap := ck) (by rw [bytesW_length])
  have bk : Below wk.heap.size wk wk := Below.refl _ _
  have bw := heldB bw b9
  have bx := heldB bx b9
  refine hK _ _ (Stays.of_below b9) ?_
  clear hK K b9 k5
  try simp only [Act.put, List.setIfInBounds_toArray, List.set_cons_zero, List.set_cons_succ]
  refine wpS_read (v := ?_) rfl (by kernel_rfl) (by kernel_rfl) (by kernel_rfl) (fun _ _ _ h => h) (.inl ⟨by rfl, ?_⟩) ?_
  rotate_left
  · intro W hW
    have hWa := hW _ bw
    have hWk := hW _ bk
    go_simp
    with_reducible rfl
  try simp only [Act.put, List.setIfInBounds_toArray, List.set_cons_zero, List.set_cons_succ]
  refine wpS_lone rfl (by kernel_rfl) (fun K hK => ?_)
  go_simp
  refine (F6.out _ bx).mono ?_
  rintro e wr ⟨gr, cr, rfl, r1, r2, r3, r4, r5, b9⟩
  have VR : ∀ W, Below wr.heap.size wr W → (convert 25 9 (.slice (some ⟨gr, 0, none⟩) 16 cr)).run Try.prog W = .ok (.string (strOf (bytesW X 4))) W := fun W hW => (r5.below hW r2).conv (len := 16) (cap := cr) (by rw [bytesW_length])
  have br : Below wr.heap.size wr wr := Below.refl _ _
  have bw := heldB bw b9
  have bx := heldB bx b9
  have bk := heldB bk b9
  refine hK _ _ (Stays.of_below b9) ?_
  clear hK K b9 r5
  try simp only [Act.put, List.setIfInBounds_toArray, List.set_cons_zero, List.set_cons_succ]
  refine wpS_read (v := ?_) rfl (by kernel_rfl) (by kernel_rfl) (by kernel_rfl) (fun _ _ _ h => h) (.inl ⟨by rfl, ?_⟩) ?_
  rotate_left
  · intro W hW
    have hWa := hW _ bw
    have hWr := hW _ br
    go_simp
    with_reducible rfl
  try simp only [Act.put, List.setIfInBounds_toArray, List.set_cons_zero, List.set_cons_succ]
  refine wpS_read (v := ?_) rfl (by kernel_rfl) (by kernel_rfl) (by kernel_rfl) (fun _ _ _ h => h) (.inl ⟨by rfl, ?_⟩) ?_
  rotate_left
  · intro W hW
    have hWa := hW _ bw
    go_simp
    with_reducible rfl
  try simp only [Act.put, List.setIfInBounds_toArray, List.set_cons_zero, List.set_cons_succ]
  refine wpS_read (v := ?_) rfl (by kernel_rfl) (by kernel_rfl) (by kernel_rfl) (fun _ _ _ h => h) (.inl ⟨by rfl, ?_⟩) ?_
  rotate_left
  · intro W hW
    have hWa := hW _ bw
    go_simp
    with_reducible rfl
  try simp only [Act.put, List.setIfInBounds_toArray, List.set_cons_zero, List.set_cons_succ]
  refine wpS_read (v := ?_) rfl (by kernel_rfl) (by kernel_rfl) (by kernel_rfl) (fun _ _ _ h => h) (.inl ⟨by rfl, ?_⟩) ?_
  rotate_left
  · intro W hW
    have hWa := hW _ bw
    go_simp
    with_reducible rfl
  try simp only [Act.put, List.setIfInBounds_toArray, List.set_cons_zero, List.set_cons_succ]
  refine wpS_read (v := ?_) rfl (by kernel_rfl) (by kernel_rfl) (by kernel_rfl) (fun _ _ _ h => h) (.inl ⟨by rfl, ?_⟩) ?_
  rotate_left
  · intro W hW
    have hWa := hW _ bw
    go_simp
    with_reducible rfl
  try simp only [Act.put, List.setIfInBounds_toArray, List.set_cons_zero, List.set_cons_succ]
  refine wpS_read (v := ?_) rfl (by kernel_rfl) (by kernel_rfl) (by kernel_rfl) (fun _ _ _ h => h) (.inl ⟨by rfl, ?_⟩) ?_
  rotate_left
  · intro W hW
    have hWa := hW _ bw
    go_simp
    with_reducible rfl
  try simp only [Act.put, List.setIfInBounds_toArray, List.set_cons_zero, List.set_cons_succ]
  refine wpS_lone rfl (by kernel_rfl) (fun K hK => ?_)
  go_simp
  refine (T1.out _).mono ?_
  rintro e w9 ⟨rfl, b9⟩
  have bw := heldB bw b9
  have bx := heldB bx b9
  refine hK _ _ (Stays.of_below b9) ?_
  clear hK K b9
  try simp only [Act.put, List.setIfInBounds_toArray, List.set_cons_zero, List.set_cons_succ]
  refine wpS_lone rfl (by kernel_rfl) (fun K hK => ?_)
  go_simp
  refine (T2.out _).mono ?_
  rintro e w9 ⟨rfl, b9⟩
  have bw := heldB bw b9
  have bx := heldB bx b9
  refine hK _ _ (Stays.of_below b9) ?_
  clear hK K b9
  try simp only [Act.put, List.setIfInBounds_toArray, List.set_cons_zero, List.set_cons_succ]
  refine wpS_read (v := ?_) rfl (by kernel_rfl) (by kernel_rfl) (by kernel_rfl) (fun _ _ _ h => h) (.inl ⟨by rfl, ?_⟩) ?_
  rotate_left
  · intro W hW
    have hWa := hW _ bw
    go_simp
    with_reducible rfl
  try simp only [Act.put, List.setIfInBounds_toArray, List.set_cons_zero, List.set_cons_succ]
  refine wpS_read (v := ?_) rfl (by kernel_rfl) (by kernel_rfl) (by kernel_rfl) (fun _ _ _ h => h) (.inl ⟨by rfl, ?_⟩) ?_
  rotate_left
  · intro W hW
    have hWa := hW _ bw
    go_simp
    with_reducible rfl
  try simp only [Act.put, List.setIfInBounds_toArray, List.set_cons_zero, List.set_cons_succ]
  refine wpS_read (v := ?_) rfl (by kernel_rfl) (by kernel_rfl) (by kernel_rfl) (fun _ _ _ h => h) (.inl ⟨by rfl, ?_⟩) ?_
  rotate_left
  · intro W hW
    have hWa := hW _ bw
    go_simp
    with_reducible rfl
  try simp only [Act.put, List.setIfInBounds_toArray, List.set_cons_zero, List.set_cons_succ]
  refine wpS_read (v := ?_) rfl (by kernel_rfl) (by kernel_rfl) (by kernel_rfl) (fun _ _ _ h => h) (.inl ⟨by rfl, ?_⟩) ?_
  rotate_left
  · intro W hW
    have hWa := hW _ bw
    go_simp
    with_reducible rfl
  try simp only [Act.put, List.setIfInBounds_toArray, List.set_cons_zero, List.set_cons_succ]
  refine wpS_read (v := ?_) rfl (by kernel_rfl) (by kernel_rfl) (by kernel_rfl) (fun _ _ _ h => h) (.inl ⟨by rfl, ?_⟩) ?_
  rotate_left
  · intro W hW
    have hWa := hW _ bw
    go_simp
    with_reducible rfl
  try simp only [Act.put, List.setIfInBounds_toArray, List.set_cons_zero, List.set_cons_succ]
  refine wpS_lone rfl (by kernel_rfl) (fun K hK => ?_)
  go_simp
  refine (T3.out _).mono ?_
  rintro e w9 ⟨rfl, b9⟩
  have bw := heldB bw b9
  have bx := heldB bx b9
  refine hK _ _ (Stays.of_below b9) ?_
  clear hK K b9
  try simp only [Act.put, List.setIfInBounds_toArray, List.set_cons_zero, List.set_cons_succ]
  refine wpS_lone rfl (by kernel_rfl) (fun K hK => ?_)
  go_simp
  refine (T4.out _).mono ?_
  rintro e w9 ⟨rfl, b9⟩
  have bw := heldB bw b9
  have bx := heldB bx b9
  refine hK _ _ (Stays.of_below b9) ?_
  clear hK K b9
  try simp only [Act.put, List.setIfInBounds_toArray, List.set_cons_zero, List.set_cons_succ]
  refine wpS_read (v := ?_) rfl (by kernel_rfl) (by kernel_rfl) (by kernel_rfl) (fun _ _ _ h => h) (.inl ⟨by rfl, ?_⟩) ?_
  rotate_left
  · intro W hW
    have hWa := hW _ bw
    go_simp
    with_reducible rfl
  try simp only [Act.put, List.setIfInBounds_toArray, List.set_cons_zero, List.set_cons_succ]
  refine wpS_read (v := ?_) rfl (by kernel_rfl) (by kernel_rfl) (by kernel_rfl) (fun _ _ _ h => h) (.inl ⟨by rfl, ?_⟩) ?_
  rotate_left
  · intro W hW
    have hWa := hW _ bw
    go_simp
    with_reducible rfl
  try simp only [Act.put, List.setIfInBounds_toArray, List.set_cons_zero, List.set_cons_succ]
  refine wpS_read (v := ?_) rfl (by kernel_rfl) (by kernel_rfl) (by kernel_rfl) (fun _ _ _ h => h) (.inl ⟨by rfl, ?_⟩) ?_
  rotate_left
  · intro W hW
    have hWa := hW _ bw
    go_simp
    with_reducible rfl
  try simp only [Act.put, List.setIfInBounds_toArray, List.set_cons_zero, List.set_cons_succ]
  refine wpS_read (v := ?_) rfl (by kernel_rfl) (by kernel_rfl) (by kernel_rfl) (fun _ _ _ h => h) (.inl ⟨by rfl, ?_⟩) ?_
  rotate_left
  · intro W hW
    have hWa := hW _ bw
    go_simp
    with_reducible rfl
  try simp only [Act.put, List.setIfInBounds_toArray, List.set_cons_zero, List.set_cons_succ]
  refine wpS_read (v := ?_) rfl (by kernel_rfl) (by kernel_rfl) (by kernel_rfl) (fun _ _ _ h => h) (.inl ⟨by rfl, ?_⟩) ?_
  rotate_left
  · intro W hW
    have hWa := hW _ bw
    go_simp
    with_reducible rfl
  try simp only [Act.put, List.setIfInBounds_toArray, List.set_cons_zero, List.set_cons_succ]
  refine wpS_read (v := ?_) rfl (by kernel_rfl) (by kernel_rfl) (by kernel_rfl) (fun _ _ _ h => h) (.inl ⟨by rfl, ?_⟩) ?_
  rotate_left
  · intro W hW
    have hWa := hW _ bw
    go_simp
    with_reducible rfl
  try simp only [Act.put, List.setIfInBounds_toArray, List.set_cons_zero, List.set_cons_succ]
  refine wpS_read (v := ?_) rfl (by kernel_rfl) (by kernel_rfl) (by kernel_rfl) (fun _ _ _ h => h) (.inl ⟨by rfl, ?_⟩) ?_
  rotate_left
  · intro W hW
    have hWa := hW _ bw
    go_simp
    with_reducible rfl
  try simp only [Act.put, List.setIfInBounds_toArray, List.set_cons_zero, List.set_cons_succ]
  refine wpS_read (v := ?_) rfl (by kernel_rfl) (by kernel_rfl) (by kernel_rfl) (fun _ _ _ h => h) (.inl ⟨by rfl, ?_⟩) ?_
  rotate_left
  · intro W hW
    have hWa := hW _ bw
    go_simp
    with_reducible rfl
  try simp only [Act.put, List.setIfInBounds_toArray, List.set_cons_zero, List.set_cons_succ]
  refine wpS_read (v := ?_) rfl (by kernel_rfl) (by kernel_rfl) (by kernel_rfl) (fun _ _ _ h => h) (.inl ⟨by rfl, ?_⟩) ?_
  rotate_left
  · intro W hW
    have hWa := hW _ bw
    go_simp
    with_reducible rfl
  try simp only [Act.put, List.setIfInBounds_toArray, List.set_cons_zero, List.set_cons_succ]
  refine wpS_done (by kernel_rfl) ?_
  go_wp2
  go_ret
  exact ⟨rfl, bx⟩

theorem mixTells_walk (a0 : Option Addr) (len0 cap0 : Nat) (s0 : List UInt8) (z1 : List Int) (w : World) (h0 : Bsl w w.heap.size a0 len0 cap0 s0) (l1 : z1.length = 4) (w1 : ∀ x ∈ z1, (Lit.int .u32 x).wf = true) :
    Calls Try.prog 4 #[.slice a0 len0 cap0, .agg (z1.map (Value.int .u32)).toArray] w fun e w' => e = .returned (.bool true) ∧ Below w.heap.size w w' := by
  by_cases hl : (10000 : Int) < len0
  · refine mixTells_far a0 len0 cap0 _ w hl ?_
    have h1 := h0.2.1
    have h2 := h0.2.2.1
    unfold maxLen at h2
    omega
  · obtain ⟨x, hx⟩ := w4_of z1 l1 w1
    rw [hx]
    exact mixTells_near a0 len0 cap0 s0 x w h0 (by omega)
end Go.Proofs.Ythndfdnfaeioeaa

namespace Go.Proofs.Ythndfdnfaeioeaa.mixTells
open Go.ChangeShapes Go.WideShapes Go.ChangeAt Go.RowKit
set_option linter.unusedVariables false

theorem own : ownKnob Try.prog.godebug = none := by kernel_rfl
theorem laidOut : laidOutB Try.prog = true := by kernel_rfl

set_option maxRecDepth 100000 in
theorem lifted (os : Os) (started : os.Started) (H : Type) (enc : TypeId × Value → H) :
    ReturnsInHanded {} Try.checked os 4 .any (Rows.mixTellsSpec.pre6 enc Try.prog Try.f4 Rows.mixTellsRow.domain false) (Rows.mixTellsSpec.post enc Try.prog Try.f4 false true false false) := by
  refine returnsInHanded_of_change (C := Try.checked) own started (by kernel_rfl) Try.func4
    (ChangeSpec.witness6 (enc := enc) (C := Try.checked) false ⟨#[], #[.slice none 0 0, .agg #[.int .u32 0, .int .u32 0, .int .u32 0, .int .u32 0]], []⟩ 8 (by kernel_rfl) (by kernel_rfl) (by kernel_rfl) (by kernel_rfl)) ?_
  intro W base args ds gs before hval0 hW hcnd _
  have hval : ∀ (j : Nat) t v, Try.f4.params[j]? = some t → args[j]? = some v → Value.okWide Try.prog W .any base t v := hval0
  have hW' := hW
  obtain ⟨p, q, hA0, hV, rfl, hfz, hnd⟩ := hW
  have hA : DataW.TrodAll enc Try.prog W 0 (fun _ => true) true Try.f4.params.toList args.toList ds p := hA0
  rw [Try.params4] at hA hval
  obtain ⟨v0, vs0, d0, ds0, p0, q0, hargs, rfl, rfl, h0, r0⟩ := trodAll_cons hA
  obtain ⟨v1, vs1, d1, ds1, p1, q1, rfl, rfl, rfl, h1, r1⟩ := trodAll_cons r0
  obtain ⟨rfl, rfl, rfl⟩ := trodAll_nil r1
  obtain rfl : args = #[v0, v1] := by cases args; simp_all
  obtain ⟨rfl, rfl⟩ := trodVars_none hV
  obtain ⟨a0, len0, cap0, rfl⟩ := okWide_slice Try.underlying25 (hval 0 25 v0 rfl rfl)
  have k0 := h0
  have lt0 : ∀ x ∈ p0, x.block < W.heap.size := by obtain ⟨m, hm⟩ := k0; exact DataW.trod_lt m _ _ _ hm
  obtain ⟨z0, w0⟩ : ∃ zs, IsRow .u8 W a0 len0 cap0 zs := by
    obtain ⟨fuel, hf⟩ := h0
    rcases open_ints Try.underlying25 Try.underlying5 (by kernel_rfl) hf with ⟨hcs, _⟩ | ⟨x, l, c, zs, hcs, _, hl, hm, hz, _, hcell, hwz⟩
    · simp [Value.cells] at hcs
      obtain ⟨rfl, rfl, rfl⟩ := hcs
      exact ⟨[], .inl ⟨rfl, rfl, rfl, rfl⟩⟩
    · simp [Value.cells] at hcs
      obtain ⟨rfl, rfl, rfl⟩ := hcs
      exact ⟨zs, .inr ⟨_, rfl, hl, hm, by simpa using hz, hcell, hwz⟩⟩
  have k1 := h1
  have lt1 : ∀ x ∈ p1, x.block < W.heap.size := by obtain ⟨m, hm⟩ := k1; exact DataW.trod_lt m _ _ _ hm
  obtain ⟨z1, rfl, l1, w1⟩ := open_ints_arr Try.underlying23 Try.underlying22 (by kernel_rfl) (by kernel_rfl) (hval 1 23 v1 rfl rfl) h1
  clear hA0 hval0
  refine (mixTells_walk a0 len0 cap0 _ z1 W (bsl_of_row w0) l1 w1).mono fun e W' ⟨he, bel⟩ => ?_
  subst he
  exact ⟨_, rfl, _, _, _, [], _, [], hW', trodAll_mk1 (shut_bool Try.underlying4 _), (trodAll_cons_mk (Below.trod laidOut (by kernel_rfl) (of_decide_eq_true (by kernel_rfl)) k0 bel lt0) (trodAll_cons_mk (Below.trod laidOut (by kernel_rfl) (of_decide_eq_true (by kernel_rfl)) k1 bel lt1) trodAll_mk0)), rfl, bel.frame _, fun h => by cases h⟩

theorem over : Rows.mixTellsRow.holds Try.pinned (OpenSpec.ofChange Rows.mixTellsSpec) :=
  OpenClaim.holds_of_wide 4 Try.f4 rfl rfl rfl rfl rfl rfl rfl ⟨rfl, rfl, rfl, rfl, rfl⟩ rfl rfl rfl rfl rfl (by kernel_rfl) Try.func4 (by kernel_rfl)
    (of_decide_eq_true (by kernel_rfl)) (by unfold Func.isWrapper; first | (rw [if_pos (by decide +kernel)]; kernel_rfl) | (rw [if_neg (by decide +kernel)]; exact ⟨rfl, rfl⟩))
    (fun os started H enc _ => lifted os started H enc)

/-- The statement. -/
theorem proved : Rows.MixTellsSaid := over
end Go.Proofs.Ythndfdnfaeioeaa.mixTells
