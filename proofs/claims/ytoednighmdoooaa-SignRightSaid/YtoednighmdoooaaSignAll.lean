/-
  What was signed is right: the public key that comes of a signature; alive of layer 8: the chapter's first examples hold.
-/
import Derived.Test.YtoednighmdoooaaSignReck
import Derived.Test.YtoednighmdoooaaSignTop
import Derived.Test.YtoednighmdoooaaSignRec
namespace Go.Proofs.Ytoednighmdoooaa
open Go.RowKit Go.Shelf
set_option maxRecDepth 100000

theorem climbL_congr (l : Nat) (b b' : Nat → List UInt8) (x : List UInt8) : ∀ k, (∀ h, h < k → b h = b' h) → climbL l b x k = climbL l b' x k
  | 0, _ => rfl
  | k + 1, e => by rw [climbL, climbL, climbL_congr l b b' x k (fun h hh => e h (by omega)), e k (by omega)]
theorem sigL_head (sd : List UInt8) (l x : Nat) (hl : l < 8) : ((sigL sd l x).getD 0 0).toNat = l := by
  show (UInt8.ofNat l).toNat = l
  simp
  omega
theorem sigL_text (sd : List UInt8) (l x : Nat) : ((sigL sd l x).drop 1).take 160 = valsL sd l (digL x) 10 := by
  have h := valsL_length sd l (digL x) 10
  rw [sigL, List.drop_succ_cons, List.drop_zero, List.take_append_of_le_length (by omega), List.take_of_length_le (by omega)]
theorem sigL_node (sd : List UInt8) (l x h : Nat) (hh : h < 3) : sgB (sigL sd l x) h = nodeL sd h (sib (l / 2 ^ h)) := by
  have h0 := valsL_length sd l (digL x) 10
  have n0 := nodeL_length sd 0 (sib l)
  have n1 := nodeL_length sd 1 (sib (l / 2))
  have n2 := nodeL_length sd 2 (sib (l / 4))
  have e : sigL sd l x = (UInt8.ofNat l :: valsL sd l (digL x) 10) ++ (nodeL sd 0 (sib l) ++ (nodeL sd 1 (sib (l / 2)) ++ nodeL sd 2 (sib (l / 4)))) := rfl
  obtain ⟨A, hA⟩ : ∃ A, UInt8.ofNat l :: valsL sd l (digL x) 10 = A := ⟨_, rfl⟩
  have hAl : A.length = 161 := by rw [← hA, List.length_cons, h0]
  rw [sgB, e, hA]
  have : h = 0 ∨ h = 1 ∨ h = 2 := by omega
  rcases this with rfl | rfl | rfl
  · rw [show l / 2 ^ 0 = l by simp]
    obtain ⟨X, hX⟩ : ∃ X, nodeL sd 0 (sib l) = X := ⟨_, rfl⟩
    rw [hX] at n0 ⊢
    rw [List.drop_append_of_le_length (by omega), List.drop_of_length_le (by omega), List.nil_append, List.take_append_of_le_length (by omega), List.take_of_length_le (by omega)]
  · rw [show l / 2 ^ 1 = l / 2 by simp]
    obtain ⟨X, hX⟩ : ∃ X, nodeL sd 0 (sib l) = X := ⟨_, rfl⟩
    obtain ⟨Y, hY⟩ : ∃ Y, nodeL sd 1 (sib (l / 2)) = Y := ⟨_, rfl⟩
    rw [hX] at n0 ⊢
    rw [hY] at n1 ⊢
    rw [← List.append_assoc, List.drop_append_of_le_length (by rw [List.length_append]; omega), List.drop_of_length_le (by rw [List.length_append]; omega), List.nil_append, List.take_append_of_le_length (by omega), List.take_of_length_le (by omega)]
  · rw [show l / 2 ^ 2 = l / 4 by simp]
    obtain ⟨X, hX⟩ : ∃ X, nodeL sd 0 (sib l) = X := ⟨_, rfl⟩
    obtain ⟨Y, hY⟩ : ∃ Y, nodeL sd 1 (sib (l / 2)) = Y := ⟨_, rfl⟩
    obtain ⟨Z, hZ⟩ : ∃ Z, nodeL sd 2 (sib (l / 4)) = Z := ⟨_, rfl⟩
    rw [hX] at n0 ⊢
    rw [hY] at n1 ⊢
    rw [hZ] at n2 ⊢
    rw [← List.append_assoc, ← List.append_assoc, List.drop_append_of_le_length (by simp only [List.length_append]; omega), List.drop_of_length_le (by simp only [List.length_append]; omega), List.nil_append, List.take_of_length_le (by omega)]
/-- What comes of a signature, with whatever text. -/
theorem rcv_sig (sd : List UInt8) (l x y : Nat) (hl : l < 8) : rcvL (sigL sd l x) y 3 = climbL l (fun h => nodeL sd h (sib (l / 2 ^ h))) (pubL l (takenL l (digL y) (valsL sd l (digL x) 10) 10)) 3 := by
  rw [rcvL, comeL, sigL_head sd l x hl, sigL_text]
  exact climbL_congr _ _ _ _ 3 fun h hh => sigL_node sd l x h hh
/-- What was signed is right. -/
theorem rcv_right (sd : List UInt8) (l x : Nat) (hl : l < 8) : rcvL (sigL sd l x) x 3 = nodeL sd 3 0 := by
  rw [rcv_sig sd l x x hl, rec_sign]
  have h := climb_node sd l 3
  rw [show l / 2 ^ 3 = 0 by omega] at h
  exact h
/-- abd is not right with the signature of abc. -/
theorem rcv_abd : rcvL (sigL tsix 0 (fourW tabc).a.toNat) (fourW tabd).a.toNat 3 ≠ nodeL tsix 3 0 := by
  rw [rcv_sig tsix 0 _ _ (by omega)]
  exact abd_not
set_option maxHeartbeats 4000000 in
theorem alive_sign (w : World) : Calls Try.prog 10 #[] w fun e W' => e = .returned (.bool true) ∧ Below w.heap.size w W' := by
  obtain ⟨w1, c1, x1, b1⟩ := const_bytes w tsix 16 rfl (by omega)
  have e1 : ar tsix = #[.int .u8 97, .int .u8 32, .int .u8 115, .int .u8 101, .int .u8 101, .int .u8 100, .int .u8 32, .int .u8 111, .int .u8 102, .int .u8 32, .int .u8 115, .int .u8 105, .int .u8 120, .int .u8 116, .int .u8 101, .int .u8 101] := rfl
  rw [e1] at c1
  clear e1
  have HX1 := Lib.hid x1; clear x1
  have HB1 := Lib.hid b1; clear b1
  go_enter Try.func10, Try.ntmps10
  go_wp2_with fail
  obtain ⟨w2, hw2⟩ : ∃ w2, w1.alloc (.cells #[.slice (some ⟨w.heap.size, 0, none⟩) 16 16, .int .i64 0] 24) = w2 := ⟨_, rfl⟩
  have b2 : Below w1.heap.size w1 w2 := by rw [← hw2]; exact (Below.refl _ w1).alloc (Nat.le_refl _) _
  have y2 : Blk w2 w1.heap.size 24 #[.slice (some ⟨w.heap.size, 0, none⟩) 16 16, .int .i64 0] := by rw [← hw2]; exact Blk.new w1 _ _
  rw [hw2]
  clear hw2 c1
  obtain ⟨g1, hg1⟩ : ∃ g1, w1.heap.size = g1 := ⟨_, rfl⟩
  have HX2 := Lib.hid (HX1.out.step b2)
  have HB2 := Lib.hid (HB1.out.trans (b2.mono HB1.out.size))
  rw [hg1] at y2
  have HY2 := Lib.hid y2
  have HP := Lib.hid (sPublic_ok _ _ _ w2 HX2.out)
  have HG1 := Lib.hid hg1
  clear b2 y2 HX1 HB1
  try rw [hg1]
  clear hg1
  refine HP.out.mono ?_
  rintro e w3 ⟨g3, k3, rfl, _, h3, b3⟩
  obtain ⟨w4, c4, x4, b4⟩ := const_bytes w3 tabc 3 rfl (by omega)
  have e4 : ar tabc = #[.int .u8 97, .int .u8 98, .int .u8 99] := rfl
  rw [e4] at c4
  clear e4
  have y3 := HY2.out.below b3 HY2.out.lt
  have d0 := y3.cell 0
  have d1 := y3.cell 1
  have HX4 := Lib.hid ((HX2.out.step b3).step b4)
  have HQ4 := Lib.hid (h3.step b4)
  have HB3 := Lib.hid (HB2.out.trans (b3.mono HB2.out.size))
  have HB4 := Lib.hid (HB3.out.trans (b4.mono HB3.out.size))
  have hsg := sSign_ok _ _ _ 0 (by omega) _ 3 _ tabc w4 HX4.out x4 (by omega)
  have hrc := rcv_right tsix 0 (fourW tabc).a.toNat (by omega)
  have hno := rcv_abd
  have hS0 := sigL_head tsix 0 (fourW tabc).a.toNat (by omega)
  unfold ToldS at hsg
  obtain ⟨S, hS⟩ : ∃ S, sigL tsix 0 (fourW tabc).a.toNat = S := ⟨_, rfl⟩
  rw [hS] at hsg hrc hno hS0
  obtain ⟨p, hp⟩ : ∃ p, nodeL tsix 3 0 = p := ⟨_, rfl⟩
  rw [hp] at hrc hno HQ4
  have hS8 : (S.getD 0 0).toNat < 8 := by omega
  clear hS hp b3 b4 h3 y3 HB2 HB3 HP HX2 HY2 hS0
  obtain ⟨sx, hsx⟩ : ∃ sx, tsix = sx := ⟨_, rfl⟩
  rw [hsx] at hsg HX4
  have HSG := Lib.hid (show Calls Try.prog 8 #[.agg #[.slice (some ⟨w.heap.size, 0, none⟩) 16 16, .int .i64 0], .slice (some ⟨w3.heap.size, 0, none⟩) 3 3] w4 fun en w' => ∃ av cv bv dv, en = .returned (.tuple #[.agg #[.slice av 16 cv, .int .i64 1], .slice bv 209 dv, .int .i64 0]) ∧ w'.ownsRow w4.heap.size 5 1 (.slice av 16 cv) 16 (vals sx) ∧ w'.ownsRow w4.heap.size 5 1 (.slice bv 209 dv) 209 (vals S) ∧ Below w4.heap.size w4 w' from hsg)
  have HRC := Lib.hid hrc
  have HNO := Lib.hid hno
  have HS8 := Lib.hid hS8
  clear hsg hrc hno hsx x4 hS8
  go_wp2_with fail
  refine HSG.out.mono ?_
  rintro e w5 ⟨av, cv, bv, dv, rfl, _, o5, b5⟩
  obtain ⟨g5, k5, ev, _, hgl, hgc, hgm, hgs, hgh⟩ := bsl_of_own o5 (by omega)
  cases ev
  have HS5 := Lib.hid (bsl_of_holds hgs hgc hgm hgl hgh)
  have HQ5 := Lib.hid (HQ4.out.step b5)
  have HB5 := Lib.hid (HB4.out.trans (b5.mono HB4.out.size))
  clear o5 b5 hgl hgc hgm hgs hgh HSG HB4 HQ4 HX4 c4 d0 d1
  obtain ⟨w6, hw6⟩ : ∃ w6, w5.alloc (.cells #[.slice av 16 cv, .int .i64 1] 24) = w6 := ⟨_, rfl⟩
  have b6 : Below w5.heap.size w5 w6 := by rw [← hw6]; exact (Below.refl _ w5).alloc (Nat.le_refl _) _
  have y6 : Blk w6 w5.heap.size 24 #[.slice av 16 cv, .int .i64 1] := by rw [← hw6]; exact Blk.new w5 _ _
  obtain ⟨w7, c7, x7, b7⟩ := const_bytes w6 tabc 3 rfl (by omega)
  have e7 : ar tabc = #[.int .u8 97, .int .u8 98, .int .u8 99] := rfl
  rw [e7] at c7
  clear e7
  have HS7 := Lib.hid ((HS5.out.step b6).step b7)
  have HQ7 := Lib.hid ((HQ5.out.step b6).step b7)
  have HB6 := Lib.hid (HB5.out.trans (b6.mono HB5.out.size))
  have HB7 := Lib.hid (HB6.out.trans (b7.mono HB6.out.size))
  have HY7 := Lib.hid (y6.below b7 y6.lt)
  have hck := check_ok _ _ p _ 3 _ tabc g5 0 dv S w7 HQ7.out x7 (by omega) HS7.out HS8.out
  rw [decide_eq_true HRC.out] at hck
  have HCK := Lib.hid hck
  clear b6 y6 x7 b7 hck HB5 HS5 HQ5 HB6
  go_wp2_with fail
  refine HCK.out.mono ?_
  rintro e w8 ⟨rfl, b8⟩
  obtain ⟨w9, c9, x9, b9⟩ := const_bytes w8 tabd 3 rfl (by omega)
  have e9 : ar tabd = #[.int .u8 97, .int .u8 98, .int .u8 100] := rfl
  rw [e9] at c9
  clear e9
  have HS9 := Lib.hid ((HS7.out.step b8).step b9)
  have HQ9 := Lib.hid ((HQ7.out.step b8).step b9)
  have HB8 := Lib.hid (HB7.out.trans (b8.mono HB7.out.size))
  have HB9 := Lib.hid (HB8.out.trans (b9.mono HB8.out.size))
  have HY8 := Lib.hid (HY7.out.below b8 HY7.out.lt)
  have HY9 := Lib.hid (HY8.out.below b9 HY8.out.lt)
  have hck := check_ok _ _ p _ 3 _ tabd g5 0 dv S w9 HQ9.out x9 (by omega) HS9.out HS8.out
  rw [decide_eq_false HNO.out] at hck
  have HCK2 := Lib.hid hck
  clear b8 x9 b9 hck HB7 HS7 HQ7 HB8 HY7 HY8 HCK c7 hw6
  go_wp2_with fail
  refine HCK2.out.mono ?_
  rintro e w10 ⟨rfl, b10⟩
  have HB10 := Lib.hid (HB9.out.trans (b10.mono HB9.out.size))
  have d1 := (HY9.out.below b10 HY9.out.lt).cell 1
  clear b10 HCK2 c9 HB9 HY9 HS9 HQ9
  go_wp2_with fail
  go_ret
  exact ⟨rfl, HB10.out⟩
end Go.Proofs.Ytoednighmdoooaa
